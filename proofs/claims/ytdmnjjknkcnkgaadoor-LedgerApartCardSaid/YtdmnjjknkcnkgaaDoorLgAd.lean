/-
  ledger: add, Add (by gen_lgadd.py).
-/
import Derived.Test.YtdmnjjknkcnkgaaDoorMg15
namespace Go.Proofs.YtdmnjjknkcnkgaaDoor
open Go.RowKit
set_option linter.unusedSimpArgs false
/-- A transaction is added: what then stands, and its copy in blocks of its own. -/
def AddedIs (w : World) (g : Nat) (next : Int) (M : Lgr) (cn : Nat) (cl : List Chg) (e : Ending) (w' : World) : Prop :=
  ∃ oa on oc ba bn bc ta tn tc xa xc k0, e = .returned (.agg #[.int .i64 next, .slice xa cn xc]) ∧ Bk w' g (dfC 1 0 (next + 1) oa on oc ba bn bc ta tn tc) 68 ∧ LgR w' (fun k => w.heap.size < k ∧ k < k0) oa on oc ba bn bc ta tn tc (addL M cl) ∧ IsD DC w' (FrG k0) xa cn xc cl ∧ Below g w w' ∧ w.heap.size < k0
/-- What stands while the region's operations come up. -/
inductive LAdd4 (B : Nat) (tb : Nat) (w3 : World) (g : Nat) (B9 : Nat) (next : Int) (nx : Int) (oa2 : Option Addr) (on : Nat) (oc2 : Nat) (ba2 : Option Addr) (bn : Nat) (bc2 : Nat) (ta2 : Option Addr) (tn : Nat) (tc2 : Nat) (ca : Option Addr) (cn : Nat) (cc : Nat) (cl : List Chg) (M : Lgr) (a0 : Act) (w0 : World) (L : Array Bool) (a : Act) (w : World) : Prop
  | mk (b0 b1 b2 b3 b4 b5 b6 b7 b8 b9 b10 b11 : Bool) (x22 x23 x24 x25 x26 x27 x28 x29 x30 x31 x32 : Value) (xa : Option Addr) (xc : Nat) (gs : Nat) (gq : Nat) (cq : Nat) (hL : L = #[b0, b1, b2, b3, b4, b5, b6, b7, b8, b9, b10, b11]) (ha : a = ⟨(((((((((((a0.tmps.setIfInBounds 22 x22).setIfInBounds 23 x23).setIfInBounds 24 x24).setIfInBounds 25 x25).setIfInBounds 26 x26).setIfInBounds 27 x27).setIfInBounds 28 x28).setIfInBounds 29 x29).setIfInBounds 30 x30).setIfInBounds 31 x31).setIfInBounds 32 x32), a0.defers⟩) (hb : Below B w0 w) (cd0 : Hid (b0 = true → x22 = .pointer (some ⟨g, 3, none⟩))) (cd1 : Hid (b1 = true → x23 = .pointer (some ⟨g, 3, none⟩))) (cd2 : Hid (b2 = true → x24 = .pointer (some ⟨g, 3, none⟩))) (cd3 : Hid (b3 = true → x25 = .pointer (some ⟨g, 4, none⟩))) (cd4 : Hid (b4 = true → x26 = .slice oa2 on oc2)) (cd5 : Hid (b5 = true → x27 = .agg #[.int .i64 next, .slice ca cn cc])) (cd6 : Hid (b6 = true → x28 = .agg #[.int .i64 next, .slice xa cn xc])) (cd7 : Hid (b7 = true → x29 = .slice (some ⟨gs, 0, none⟩) 1 1)) (cd8 : Hid (b8 = true → x30 = .slice (some ⟨gq, 0, none⟩) (on + 1) cq)) (cd9 : Hid (b9 = true → x31 = .pointer (some ⟨g, 3, none⟩))) (cd10 : Hid (b10 = true → x32 = .pointer (some ⟨g, 4, none⟩))) (f_g : Hid (b11 = false → Bk w g (dfC 1 0 nx oa2 on oc2 ba2 bn bc2 ta2 tn tc2) 68)) (f_lo : Hid (b6 = false → LgX w B9 tb oa2 on oc2 ba2 bn bc2 ta2 tn tc2 M)) (f_lx : Hid (b6 = true → b8 = false → LgXO w B9 tb oa2 on oc2 ba2 bn bc2 ta2 tn tc2 M xa cn xc cl)) (f_ls : Hid (b7 = true → b8 = false → IsR ETx w (some ⟨gs, 0, none⟩) 1 1 [(next, ⟨xa, cn, xc⟩)])) (f_o6 : Hid (b7 = true → b6 = true)) (f_lo2 : Hid (b8 = true → LgX w B9 tb (some ⟨gq, 0, none⟩) (on + 1) cq ba2 bn bc2 ta2 tn tc2 ⟨M.next, M.op ++ [(next, cl)], M.bl, M.ts⟩)) (f_s : Hid (b11 = true → Bk w g (dfC 1 0 nx (some ⟨gq, 0, none⟩) (on + 1) cq ba2 bn bc2 ta2 tn tc2) 68)) (f_o8 : Hid (b11 = true → b8 = true)) (f_q4 : Hid (b11 = true → b4 = true)) (f_kb : Hid (SameB B9 tb g w3 w)) (f_t : Hid (Bk w tb #[.int .i64 next, .slice ca cn cc] 32)) (f_c : Hid (IsD DC w (fun k => k ≠ g ∧ k < B9) ca cn cc cl)) : LAdd4 B tb w3 g B9 next nx oa2 on oc2 ba2 bn bc2 ta2 tn tc2 ca cn cc cl M a0 w0 L a w
theorem tx_one (w : World) (t : TypeId) (id : Int) (xa : Option Addr) (xn xc : Nat) : IsR ETx (w.alloc (.cells #[.int .i64 id, .slice xa xn xc] t)) (some ⟨w.heap.size, 0, none⟩) 1 1 [(id, ⟨xa, xn, xc⟩)] := (OwnR.ofBlk (E := ETx) (l := [(id, ⟨xa, xn, xc⟩)]) (n := 1) (heap_alloc_new w _) rfl rfl (by omega)).isR
set_option maxRecDepth 100000 in
set_option maxHeartbeats 2000000 in
theorem dadd_any (w : World) (g : Nat) (hCg : ∀ w', Below g w w' → RC w') (next : Int) (oa : Option Addr) (on oc : Nat) (ba : Option Addr) (bn bc : Nat) (ta : Option Addr) (tn tc : Nat) (ca : Option Addr) (cn cc : Nat) (cl : List Chg) (M : Lgr) (hnx : M.next = next) (hlo : 0 ≤ next) (hhi : next ≤ 1000000) (X : Bk w g (dfC 0 0 next oa on oc ba bn bc ta tn tc) 68) (h : LgR w (fun k => k ≠ g) oa on oc ba bn bc ta tn tc M) (hL : LgOk M) (hcl : TxOk (next, cl)) (hc : IsD DC w (fun k => k ≠ g) ca cn cc cl) :
    Calls Tryd.prog 14 #[.pointer (some ⟨g, 0, none⟩), .slice ca cn cc] w (AddedIs w g next M cn cl) := by
  have hlen := hc.len
  have hon := h.op.len
  have hgw := X.lt
  have B0 : Below w.heap.size w (w.alloc (.cells #[.int .i64 0, .slice none 0 0] 32)) := (Below.refl _ _).alloc (Nat.le_refl _) _
  have hR : Bk (w.alloc (.cells #[.int .i64 0, .slice none 0 0] 32)) w.heap.size #[.int .i64 0, .slice none 0 0] 32 := Bk.new w _ _
  have X1 := X.alloc (.cells #[.int .i64 0, .slice none 0 0] 32)
  have h1 := h.past B0
  have hc1 := (hc.imp (Q' := fun k => k ≠ g ∧ k < w.heap.size) (fun k hk hq => ⟨hq, hk⟩)).past B0
  go_enter Tryd.func14, Tryd.ntmps14
  go_upto_region 1 with fail
  obtain ⟨r, hr⟩ : ∃ r, w.heap.size = r := ⟨_, rfl⟩
  rw [hr] at hgw
  generalize w.alloc (.cells #[.int .i64 0, .slice none 0 0] 32) = W at B0 hR X1 h1 hc1 ⊢
  simp only [hr] at B0 hR hc1 ⊢
  obtain ⟨B9, hB9⟩ : ∃ r, W.heap.size = r := ⟨_, rfl⟩
  have hrB : r < B9 := hB9 ▸ hR.lt
  have hO := own_at0 W g g next oa on oc ba bn bc ta tn tc M X1 h1 hL X1.lt
  rw [hB9] at hO
  go_upto_region 2 with (go_at_call 15; refine hO.mono ?_; rintro e w1 ⟨oa2, oc2, ba2, bc2, ta2, tc2, rfl, X2, L2, B2, S2, K2⟩)
  have hR2 : Bk w1 r #[.int .i64 0, .slice none 0 0] 32 := (K2.same r (.inl hrB) (by omega)).trans hR
  have hc2 := (hc1.same sm_DC (fun k hk hq => K2.same k (.inl (by have := hq.2; omega)) hq.1)).imp (Q' := fun k => k ≠ g ∧ k < B9) (fun k hk hq => ⟨hq.1, by have := hq.2; omega⟩)
  clear hO hR hc1 X1 h1 hc h
  have X3 := X2.alloc (.cells #[.int .i64 next, .slice ca cn cc] 32)
  have BT : Below w1.heap.size w1 (w1.alloc (.cells #[.int .i64 next, .slice ca cn cc] 32)) := (Below.refl _ _).alloc (Nat.le_refl _) _
  have hT : Bk (w1.alloc (.cells #[.int .i64 next, .slice ca cn cc] 32)) w1.heap.size #[.int .i64 next, .slice ca cn cc] 32 := Bk.new w1 _ _
  have hR3 := hR2.past BT
  have hc3 := hc2.past BT
  have L3 := L2.fresh BT (by rw [World.size_alloc]; omega)
  obtain ⟨d3, d4, d5, d6⟩ := df_cells X2
  go_upto_region 3 with fail
  obtain ⟨tb, htb⟩ : ∃ r, w1.heap.size = r := ⟨_, rfl⟩
  have htB : B9 ≤ tb := htb ▸ S2
  have B3 : Below g W (w1.alloc (.cells #[.int .i64 next, .slice ca cn cc] 32)) := B2.trans (BT.mono (by omega))
  generalize w1.alloc (.cells #[.int .i64 next, .slice ca cn cc] 32) = w2 at X3 BT hT hR3 hc3 L3 B3 ⊢
  simp only [htb] at hT L3 ⊢
  clear d3 d4 d5 d6 X2 BT hR2 hc2 L2 B2 K2
  obtain ⟨d3, d4, d5, d6⟩ := df_cells X3
  have f3 := free_blk (i := 3) X3
  go_upto_region 4 with fail
  have hX := df_set X3 3 (.int .i64 (next + 1)) (cs := dfC 1 0 (next + 1) oa2 on oc2 ba2 bn bc2 ta2 tn tc2) rfl
  have g4 := grown_cell (grown_self w2 g) 3 (.int .i64 (next + 1))
  have hgB : g < B9 := by omega
  have htg : some tb ≠ some g := fun e => by have := Option.some.inj e; omega
  have hLo := L3.grown g4 hgB
  have hc := hc3.grown g4 (fun h9 => h9.1 rfl)
  have hR := hR3.grown g4 (fun e => by have := Option.some.inj e; omega)
  have hT' := hT.grown g4 htg
  have B4 := B3.grown g4 (by have := X3.lt; have := B3.size; omega) (fun z hz => by cases hz; exact Nat.le_refl _)
  have hBw : B9 ≤ (w2.setCell ⟨g, 3, none⟩ (.int .i64 (next + 1))).heap.size := by have := g4.size; have := hT.lt; omega
  obtain ⟨nx, hnx2⟩ : ∃ n, next + 1 = n := ⟨_, rfl⟩
  simp only [hnx2] at hX hLo hc hR hT' B4 hBw ⊢
  clear X3 hT hR3 hc3 L3 B3 d3 d4 d5 d6 f3 g4
  generalize w2.setCell ⟨g, 3, none⟩ (.int .i64 nx) = w3 at hX hLo hc hR hT' B4 hBw ⊢
  have hB0 : g ≤ w3.heap.size := by omega
  have hcn : cn ≤ 100000 := by have := hcl.1; simp only at this; omega
  have hcs : ∀ x ∈ cl, x.2.length ≤ 100000 := hcl.sz.2
  have hon4 : on ≤ 4 := hon ▸ hL.op
  refine region_inv (LAdd4 g tb w3 g B9 next nx oa2 on oc2 ba2 bn bc2 ta2 tn tc2 ca cn cc cl M) (by kernel_rfl) (by kernel_rfl) ?_ ?_ ?_
  · exact ⟨false, false, false, false, false, false, false, false, false, false, false, false, undef, undef, undef, undef, undef, undef, undef, undef, undef, undef, undef, none, 0, 0, 0, 0, rfl, (by simp only [Act.put, List.setIfInBounds_toArray, List.set_cons_zero, List.set_cons_succ]), Below.refl _ _, (fun h => by cases h), (fun h => by cases h), (fun h => by cases h), (fun h => by cases h), (fun h => by cases h), (fun h => by cases h), (fun h => by cases h), (fun h => by cases h), (fun h => by cases h), (fun h => by cases h), (fun h => by cases h), (fun h1 => hX.past (Below.refl _ _).drew), (fun h1 => hLo.past (Below.refl _ _).drew), (fun h => by cases h), (fun h => by cases h), (fun h => by cases h), (fun h => by cases h), (fun h => by cases h), (fun h => by cases h), (fun h => by cases h), ((SameB.refl g hBw hT'.lt).past (Below.refl _ _).drew), (hT'.past (Below.refl _ _).drew), (hc.past (Below.refl _ _).drew)⟩
  · refine ⟨?_, ?_, ?_, ?_, ?_, ?_, ?_, ?_, ?_, ?_, ?_, ?_, trivial⟩
    · rintro L a w ⟨b0, b1, b2, b3, b4, b5, b6, b7, b8, b9, b10, b11, x22, x23, x24, x25, x26, x27, x28, x29, x30, x31, x32, xa, xc, gs, gq, cq, rfl, rfl, hb, cd0, cd1, cd2, cd3, cd4, cd5, cd6, cd7, cd8, cd9, cd10, f_g, f_lo, f_lx, f_ls, f_o6, f_lo2, f_s, f_o8, f_q4, f_kb, f_t, f_c⟩ hf hd
      have hf' : b0 = false := hf
      subst hf'
      clear hf hd
      have W_kb := f_kb.out
      have W_t := f_t.out
      have W_c := f_c.out
      try simp only [List.setIfInBounds_toArray, List.set_cons_zero, List.set_cons_succ]
      intro K hK
      rw [if_pos (by rfl)]
      go_simp
      exact hK.out _ _ ⟨true, b1, b2, b3, b4, b5, b6, b7, b8, b9, b10, b11, (.pointer (some ⟨g, 3, none⟩)), x23, x24, x25, x26, x27, x28, x29, x30, x31, x32, xa, xc, gs, gq, cq, (by simp only [Act.put, List.setIfInBounds_toArray, List.set_cons_zero, List.set_cons_succ]), (by simp only [Act.put, List.setIfInBounds_toArray, List.set_cons_zero, List.set_cons_succ]), hb, (fun _ => rfl), cd1, cd2, cd3, cd4, cd5, cd6, cd7, cd8, cd9, cd10, f_g, f_lo, f_lx, f_ls, f_o6, f_lo2, f_s, f_o8, f_q4, f_kb, f_t, f_c⟩
    · rintro L a w ⟨b0, b1, b2, b3, b4, b5, b6, b7, b8, b9, b10, b11, x22, x23, x24, x25, x26, x27, x28, x29, x30, x31, x32, xa, xc, gs, gq, cq, rfl, rfl, hb, cd0, cd1, cd2, cd3, cd4, cd5, cd6, cd7, cd8, cd9, cd10, f_g, f_lo, f_lx, f_ls, f_o6, f_lo2, f_s, f_o8, f_q4, f_kb, f_t, f_c⟩ hf hd
      have hf' : b1 = false := hf
      subst hf'
      clear hf hd
      have W_kb := f_kb.out
      have W_t := f_t.out
      have W_c := f_c.out
      try simp only [List.setIfInBounds_toArray, List.set_cons_zero, List.set_cons_succ]
      intro K hK
      rw [if_pos (by rfl)]
      go_simp
      exact hK.out _ _ ⟨b0, true, b2, b3, b4, b5, b6, b7, b8, b9, b10, b11, x22, (.pointer (some ⟨g, 3, none⟩)), x24, x25, x26, x27, x28, x29, x30, x31, x32, xa, xc, gs, gq, cq, (by simp only [Act.put, List.setIfInBounds_toArray, List.set_cons_zero, List.set_cons_succ]), (by simp only [Act.put, List.setIfInBounds_toArray, List.set_cons_zero, List.set_cons_succ]), hb, cd0, (fun _ => rfl), cd2, cd3, cd4, cd5, cd6, cd7, cd8, cd9, cd10, f_g, f_lo, f_lx, f_ls, f_o6, f_lo2, f_s, f_o8, f_q4, f_kb, f_t, f_c⟩
    · rintro L a w ⟨b0, b1, b2, b3, b4, b5, b6, b7, b8, b9, b10, b11, x22, x23, x24, x25, x26, x27, x28, x29, x30, x31, x32, xa, xc, gs, gq, cq, rfl, rfl, hb, cd0, cd1, cd2, cd3, cd4, cd5, cd6, cd7, cd8, cd9, cd10, f_g, f_lo, f_lx, f_ls, f_o6, f_lo2, f_s, f_o8, f_q4, f_kb, f_t, f_c⟩ hf hd
      have hf' : b2 = false := hf
      subst hf'
      have d1 : b1 = true := hd ⟨1, .data⟩ (by simp) rfl
      subst d1
      obtain rfl := cd1.out rfl
      clear hf hd
      have W_kb := f_kb.out
      have W_t := f_t.out
      have W_c := f_c.out
      try simp only [List.setIfInBounds_toArray, List.set_cons_zero, List.set_cons_succ]
      intro K hK
      rw [if_pos (by rfl)]
      go_simp
      exact hK.out _ _ ⟨b0, true, true, b3, b4, b5, b6, b7, b8, b9, b10, b11, x22, .pointer (some ⟨g, 3, none⟩), (.pointer (some ⟨g, 3, none⟩)), x25, x26, x27, x28, x29, x30, x31, x32, xa, xc, gs, gq, cq, (by simp only [Act.put, List.setIfInBounds_toArray, List.set_cons_zero, List.set_cons_succ]), (by simp only [Act.put, List.setIfInBounds_toArray, List.set_cons_zero, List.set_cons_succ]), hb, cd0, (fun _ => rfl), (fun _ => rfl), cd3, cd4, cd5, cd6, cd7, cd8, cd9, cd10, f_g, f_lo, f_lx, f_ls, f_o6, f_lo2, f_s, f_o8, f_q4, f_kb, f_t, f_c⟩
    · rintro L a w ⟨b0, b1, b2, b3, b4, b5, b6, b7, b8, b9, b10, b11, x22, x23, x24, x25, x26, x27, x28, x29, x30, x31, x32, xa, xc, gs, gq, cq, rfl, rfl, hb, cd0, cd1, cd2, cd3, cd4, cd5, cd6, cd7, cd8, cd9, cd10, f_g, f_lo, f_lx, f_ls, f_o6, f_lo2, f_s, f_o8, f_q4, f_kb, f_t, f_c⟩ hf hd
      have hf' : b3 = false := hf
      subst hf'
      have d2 : b2 = true := hd ⟨2, .data⟩ (by simp) rfl
      subst d2
      obtain rfl := cd2.out rfl
      clear hf hd
      have W_kb := f_kb.out
      have W_t := f_t.out
      have W_c := f_c.out
      try simp only [List.setIfInBounds_toArray, List.set_cons_zero, List.set_cons_succ]
      intro K hK
      rw [if_pos (by rfl)]
      go_simp
      exact hK.out _ _ ⟨b0, b1, true, true, b4, b5, b6, b7, b8, b9, b10, b11, x22, x23, .pointer (some ⟨g, 3, none⟩), (.pointer (some ⟨g, 4, none⟩)), x26, x27, x28, x29, x30, x31, x32, xa, xc, gs, gq, cq, (by simp only [Act.put, List.setIfInBounds_toArray, List.set_cons_zero, List.set_cons_succ]), (by simp only [Act.put, List.setIfInBounds_toArray, List.set_cons_zero, List.set_cons_succ]), hb, cd0, cd1, (fun _ => rfl), (fun _ => rfl), cd4, cd5, cd6, cd7, cd8, cd9, cd10, f_g, f_lo, f_lx, f_ls, f_o6, f_lo2, f_s, f_o8, f_q4, f_kb, f_t, f_c⟩
    · rintro L a w ⟨b0, b1, b2, b3, b4, b5, b6, b7, b8, b9, b10, b11, x22, x23, x24, x25, x26, x27, x28, x29, x30, x31, x32, xa, xc, gs, gq, cq, rfl, rfl, hb, cd0, cd1, cd2, cd3, cd4, cd5, cd6, cd7, cd8, cd9, cd10, f_g, f_lo, f_lx, f_ls, f_o6, f_lo2, f_s, f_o8, f_q4, f_kb, f_t, f_c⟩ hf hd
      have hf' : b4 = false := hf
      subst hf'
      have d3 : b3 = true := hd ⟨3, .data⟩ (by simp) rfl
      subst d3
      obtain rfl := cd3.out rfl
      clear hf hd
      have W_kb := f_kb.out
      have W_t := f_t.out
      have W_c := f_c.out
      try simp only [List.setIfInBounds_toArray, List.set_cons_zero, List.set_cons_succ]
      have e_g : b11 = false := by cases hq : b11 with | false => rfl | true => exact absurd (f_q4.out hq) (by simp)
      have W_g := f_g.out e_g
      have z4 : w.cell? ⟨g, 4, none⟩ = some (.slice oa2 on oc2) := W_g.c rfl
      intro K hK
      rw [if_pos (by rfl)]
      go_simp
      exact hK.out _ _ ⟨b0, b1, b2, true, true, b5, b6, b7, b8, b9, b10, b11, x22, x23, x24, .pointer (some ⟨g, 4, none⟩), (.slice oa2 on oc2), x27, x28, x29, x30, x31, x32, xa, xc, gs, gq, cq, (by simp only [Act.put, List.setIfInBounds_toArray, List.set_cons_zero, List.set_cons_succ]), (by simp only [Act.put, List.setIfInBounds_toArray, List.set_cons_zero, List.set_cons_succ]), hb, cd0, cd1, cd2, (fun _ => rfl), (fun _ => rfl), cd5, cd6, cd7, cd8, cd9, cd10, f_g, f_lo, f_lx, f_ls, f_o6, f_lo2, f_s, f_o8, (fun _ => rfl), f_kb, f_t, f_c⟩
    · rintro L a w ⟨b0, b1, b2, b3, b4, b5, b6, b7, b8, b9, b10, b11, x22, x23, x24, x25, x26, x27, x28, x29, x30, x31, x32, xa, xc, gs, gq, cq, rfl, rfl, hb, cd0, cd1, cd2, cd3, cd4, cd5, cd6, cd7, cd8, cd9, cd10, f_g, f_lo, f_lx, f_ls, f_o6, f_lo2, f_s, f_o8, f_q4, f_kb, f_t, f_c⟩ hf hd
      have hf' : b5 = false := hf
      subst hf'
      clear hf hd
      have W_kb := f_kb.out
      have W_t := f_t.out
      have W_c := f_c.out
      try simp only [List.setIfInBounds_toArray, List.set_cons_zero, List.set_cons_succ]
      have z0 : w.cell? ⟨tb, 0, none⟩ = some (.int .i64 next) := W_t.c rfl
      have z1 : w.cell? ⟨tb, 1, none⟩ = some (.slice ca cn cc) := W_t.c rfl
      intro K hK
      rw [if_pos (by rfl)]
      go_simp
      exact hK.out _ _ ⟨b0, b1, b2, b3, b4, true, b6, b7, b8, b9, b10, b11, x22, x23, x24, x25, x26, (.agg #[.int .i64 next, .slice ca cn cc]), x28, x29, x30, x31, x32, xa, xc, gs, gq, cq, (by simp only [Act.put, List.setIfInBounds_toArray, List.set_cons_zero, List.set_cons_succ]), (by simp only [Act.put, List.setIfInBounds_toArray, List.set_cons_zero, List.set_cons_succ]), hb, cd0, cd1, cd2, cd3, cd4, (fun _ => rfl), cd6, cd7, cd8, cd9, cd10, f_g, f_lo, f_lx, f_ls, f_o6, f_lo2, f_s, f_o8, f_q4, f_kb, f_t, f_c⟩
    · rintro L a w ⟨b0, b1, b2, b3, b4, b5, b6, b7, b8, b9, b10, b11, x22, x23, x24, x25, x26, x27, x28, x29, x30, x31, x32, xa, xc, gs, gq, cq, rfl, rfl, hb, cd0, cd1, cd2, cd3, cd4, cd5, cd6, cd7, cd8, cd9, cd10, f_g, f_lo, f_lx, f_ls, f_o6, f_lo2, f_s, f_o8, f_q4, f_kb, f_t, f_c⟩ hf hd
      have hf' : b6 = false := hf
      subst hf'
      have d5 : b5 = true := hd ⟨5, .data⟩ (by simp) rfl
      subst d5
      obtain rfl := cd5.out rfl
      clear hf hd
      have W_lo := f_lo.out rfl
      have W_kb := f_kb.out
      have W_t := f_t.out
      have W_c := f_c.out
      try simp only [List.setIfInBounds_toArray, List.set_cons_zero, List.set_cons_succ]
      intro K hK
      rw [if_pos (by rfl)]
      go_simp
      go_at_call 28
      refine (copyTx_any w _ next ca cn cc cl W_c hcn hcs).mono ?_
      rintro e w' ⟨a9, c9, rfl, o9, bx⟩
      exact hK.out _ _ ⟨b0, b1, b2, b3, b4, true, true, b7, b8, b9, b10, b11, x22, x23, x24, x25, x26, .agg #[.int .i64 next, .slice ca cn cc], (.agg #[.int .i64 next, .slice a9 cn c9]), x29, x30, x31, x32, a9, c9, gs, gq, cq, (by simp only [Act.put, List.setIfInBounds_toArray, List.set_cons_zero, List.set_cons_succ]), (by simp only [Act.put, List.setIfInBounds_toArray, List.set_cons_zero, List.set_cons_succ]), hb.trans (bx.mono (Nat.le_trans hB0 hb.size)), cd0, cd1, cd2, cd3, cd4, (fun _ => rfl), (fun _ => rfl), cd7, cd8, cd9, cd10, (fun h1 => (f_g.out h1).past bx), (fun h => by cases h), (fun _ _ => W_lo.with (Nat.le_trans hBw hb.size) bx o9), (fun h0 _ => absurd (f_o6.out h0) (by simp)), (fun _ => rfl), (fun h0 => (f_lo2.out h0).past bx), (fun h0 => (f_s.out h0).past bx), f_o8, f_q4, (f_kb.out.past bx), (f_t.out.past bx), (f_c.out.past bx)⟩
    · rintro L a w ⟨b0, b1, b2, b3, b4, b5, b6, b7, b8, b9, b10, b11, x22, x23, x24, x25, x26, x27, x28, x29, x30, x31, x32, xa, xc, gs, gq, cq, rfl, rfl, hb, cd0, cd1, cd2, cd3, cd4, cd5, cd6, cd7, cd8, cd9, cd10, f_g, f_lo, f_lx, f_ls, f_o6, f_lo2, f_s, f_o8, f_q4, f_kb, f_t, f_c⟩ hf hd
      have hf' : b7 = false := hf
      subst hf'
      have d6 : b6 = true := hd ⟨6, .data⟩ (by simp) rfl
      subst d6
      obtain rfl := cd6.out rfl
      clear hf hd
      have W_kb := f_kb.out
      have W_t := f_t.out
      have W_c := f_c.out
      try simp only [List.setIfInBounds_toArray, List.set_cons_zero, List.set_cons_succ]
      intro K hK
      rw [if_pos (by rfl)]
      go_simp
      have bx : Below w.heap.size w (w.alloc (.cells #[.int .i64 next, .slice xa cn xc] 32)) := (Below.refl _ _).alloc (Nat.le_refl _) _
      exact hK.out _ _ ⟨b0, b1, b2, b3, b4, b5, true, true, b8, b9, b10, b11, x22, x23, x24, x25, x26, x27, .agg #[.int .i64 next, .slice xa cn xc], (.slice (some ⟨(w.heap.size), 0, none⟩) 1 1), x30, x31, x32, xa, xc, w.heap.size, gq, cq, (by simp only [Act.put, List.setIfInBounds_toArray, List.set_cons_zero, List.set_cons_succ]), (by simp only [Act.put, List.setIfInBounds_toArray, List.set_cons_zero, List.set_cons_succ]), hb.trans (bx.mono (Nat.le_trans hB0 hb.size)), cd0, cd1, cd2, cd3, cd4, cd5, (fun _ => rfl), (fun _ => rfl), cd8, cd9, cd10, (fun h1 => (f_g.out h1).past bx), (fun h => by cases h), (fun h0 h1 => (f_lx.out h0 h1).past bx), (fun _ _ => tx_one w _ next xa cn xc), (fun _ => rfl), (fun h0 => (f_lo2.out h0).past bx), (fun h0 => (f_s.out h0).past bx), f_o8, f_q4, (f_kb.out.past bx), (f_t.out.past bx), (f_c.out.past bx)⟩
    · rintro L a w ⟨b0, b1, b2, b3, b4, b5, b6, b7, b8, b9, b10, b11, x22, x23, x24, x25, x26, x27, x28, x29, x30, x31, x32, xa, xc, gs, gq, cq, rfl, rfl, hb, cd0, cd1, cd2, cd3, cd4, cd5, cd6, cd7, cd8, cd9, cd10, f_g, f_lo, f_lx, f_ls, f_o6, f_lo2, f_s, f_o8, f_q4, f_kb, f_t, f_c⟩ hf hd
      have hf' : b8 = false := hf
      subst hf'
      have d4 : b4 = true := hd ⟨4, .data⟩ (by simp) rfl
      subst d4
      have d7 : b7 = true := hd ⟨7, .data⟩ (by simp) rfl
      subst d7
      have d6 : b6 = true := hd ⟨6, .chain⟩ (by simp) rfl
      subst d6
      obtain rfl := cd4.out rfl
      obtain rfl := cd7.out rfl
      obtain rfl := cd6.out rfl
      clear hf hd
      have W_lx := f_lx.out rfl rfl
      have W_ls := f_ls.out rfl rfl
      have W_o6 := f_o6.out rfl
      have W_kb := f_kb.out
      have W_t := f_t.out
      have W_c := f_c.out
      try simp only [List.setIfInBounds_toArray, List.set_cons_zero, List.set_cons_succ]
      obtain ⟨bt9, hbt9, happ9⟩ := W_lx.app (Nat.le_trans hBw hb.size) next
      intro K hK
      rw [if_pos (by rfl)]
      refine wp_append_r (E := ETx) _ _ 25 25 rfl rowTyTx rfl hbt9 (Nat.le_trans hBw hb.size) _ rfl 1 [(next, ⟨xa, cn, xc⟩)] (W_ls.src Tryd.underlying25) rfl (by omega) (on + 1) rfl (bt9 ++ [(next, ⟨xa, cn, xc⟩)]) rfl (by omega) fun q9 r9 w2 o8 g8 f8 k8 => ?_
      have hb2 := hb.trans (k8.mono (Nat.le_of_lt hgB))
      exact hK.out _ _ ⟨b0, b1, b2, b3, true, b5, true, true, true, b9, b10, b11, x22, x23, x24, x25, .slice oa2 on oc2, x27, .agg #[.int .i64 next, .slice xa cn xc], .slice (some ⟨gs, 0, none⟩) 1 1, (.slice (some ⟨q9, 0, none⟩) (on + 1) r9), x31, x32, xa, xc, gs, q9, r9, (by simp only [Act.put, List.setIfInBounds_toArray, List.set_cons_zero, List.set_cons_succ]), (by simp only [Act.put, List.setIfInBounds_toArray, List.set_cons_zero, List.set_cons_succ]), hb2, cd0, cd1, cd2, cd3, (fun _ => rfl), cd5, (fun _ => rfl), (fun _ => rfl), (fun _ => rfl), cd9, cd10, (fun h1 => Bk.past9 (f_g.out h1) k8 hgB), (fun h => by cases h), (fun _ h => by cases h), (fun _ h => by cases h), f_o6, (fun _ => happ9 _ _ _ o8 g8 f8), (fun h0 => absurd (f_o8.out h0) (by simp)), (fun _ => rfl), f_q4, ((f_kb.out).row g8 W_lx.neO), (Bk.grown f_t.out g8 (fun e => (W_lx.neO _ e.symm).2 rfl)), ((f_c.out).same sm_DC (fun k hk hq => g8.block k hk (fun e => by have := (W_lx.neO _ e.symm).1; omega)))⟩
    · rintro L a w ⟨b0, b1, b2, b3, b4, b5, b6, b7, b8, b9, b10, b11, x22, x23, x24, x25, x26, x27, x28, x29, x30, x31, x32, xa, xc, gs, gq, cq, rfl, rfl, hb, cd0, cd1, cd2, cd3, cd4, cd5, cd6, cd7, cd8, cd9, cd10, f_g, f_lo, f_lx, f_ls, f_o6, f_lo2, f_s, f_o8, f_q4, f_kb, f_t, f_c⟩ hf hd
      have hf' : b9 = false := hf
      subst hf'
      have d0 : b0 = true := hd ⟨0, .data⟩ (by simp) rfl
      subst d0
      have d1 : b1 = true := hd ⟨1, .phase⟩ (by simp) rfl
      subst d1
      have d2 : b2 = true := hd ⟨2, .phase⟩ (by simp) rfl
      subst d2
      have d3 : b3 = true := hd ⟨3, .phase⟩ (by simp) rfl
      subst d3
      have d4 : b4 = true := hd ⟨4, .phase⟩ (by simp) rfl
      subst d4
      have d5 : b5 = true := hd ⟨5, .phase⟩ (by simp) rfl
      subst d5
      have d6 : b6 = true := hd ⟨6, .phase⟩ (by simp) rfl
      subst d6
      have d7 : b7 = true := hd ⟨7, .phase⟩ (by simp) rfl
      subst d7
      have d8 : b8 = true := hd ⟨8, .phase⟩ (by simp) rfl
      subst d8
      obtain rfl := cd0.out rfl
      obtain rfl := cd1.out rfl
      obtain rfl := cd2.out rfl
      obtain rfl := cd3.out rfl
      obtain rfl := cd4.out rfl
      obtain rfl := cd5.out rfl
      obtain rfl := cd6.out rfl
      obtain rfl := cd7.out rfl
      obtain rfl := cd8.out rfl
      clear hf hd
      have W_o6 := f_o6.out rfl
      have W_lo2 := f_lo2.out rfl
      have W_kb := f_kb.out
      have W_t := f_t.out
      have W_c := f_c.out
      try simp only [List.setIfInBounds_toArray, List.set_cons_zero, List.set_cons_succ]
      intro K hK
      rw [if_pos (by rfl)]
      go_simp
      exact hK.out _ _ ⟨true, true, true, true, true, true, true, true, true, true, b10, b11, .pointer (some ⟨g, 3, none⟩), .pointer (some ⟨g, 3, none⟩), .pointer (some ⟨g, 3, none⟩), .pointer (some ⟨g, 4, none⟩), .slice oa2 on oc2, .agg #[.int .i64 next, .slice ca cn cc], .agg #[.int .i64 next, .slice xa cn xc], .slice (some ⟨gs, 0, none⟩) 1 1, .slice (some ⟨gq, 0, none⟩) (on + 1) cq, (.pointer (some ⟨g, 3, none⟩)), x32, xa, xc, gs, gq, cq, (by simp only [Act.put, List.setIfInBounds_toArray, List.set_cons_zero, List.set_cons_succ]), (by simp only [Act.put, List.setIfInBounds_toArray, List.set_cons_zero, List.set_cons_succ]), hb, (fun _ => rfl), (fun _ => rfl), (fun _ => rfl), (fun _ => rfl), (fun _ => rfl), (fun _ => rfl), (fun _ => rfl), (fun _ => rfl), (fun _ => rfl), (fun _ => rfl), cd10, f_g, (fun h => by cases h), (fun _ h => by cases h), (fun _ h => by cases h), f_o6, f_lo2, f_s, f_o8, f_q4, f_kb, f_t, f_c⟩
    · rintro L a w ⟨b0, b1, b2, b3, b4, b5, b6, b7, b8, b9, b10, b11, x22, x23, x24, x25, x26, x27, x28, x29, x30, x31, x32, xa, xc, gs, gq, cq, rfl, rfl, hb, cd0, cd1, cd2, cd3, cd4, cd5, cd6, cd7, cd8, cd9, cd10, f_g, f_lo, f_lx, f_ls, f_o6, f_lo2, f_s, f_o8, f_q4, f_kb, f_t, f_c⟩ hf hd
      have hf' : b10 = false := hf
      subst hf'
      have d9 : b9 = true := hd ⟨9, .data⟩ (by simp) rfl
      subst d9
      have d0 : b0 = true := hd ⟨0, .phase⟩ (by simp) rfl
      subst d0
      have d1 : b1 = true := hd ⟨1, .phase⟩ (by simp) rfl
      subst d1
      have d2 : b2 = true := hd ⟨2, .phase⟩ (by simp) rfl
      subst d2
      have d3 : b3 = true := hd ⟨3, .phase⟩ (by simp) rfl
      subst d3
      have d4 : b4 = true := hd ⟨4, .phase⟩ (by simp) rfl
      subst d4
      have d5 : b5 = true := hd ⟨5, .phase⟩ (by simp) rfl
      subst d5
      have d6 : b6 = true := hd ⟨6, .phase⟩ (by simp) rfl
      subst d6
      have d7 : b7 = true := hd ⟨7, .phase⟩ (by simp) rfl
      subst d7
      have d8 : b8 = true := hd ⟨8, .phase⟩ (by simp) rfl
      subst d8
      obtain rfl := cd9.out rfl
      obtain rfl := cd0.out rfl
      obtain rfl := cd1.out rfl
      obtain rfl := cd2.out rfl
      obtain rfl := cd3.out rfl
      obtain rfl := cd4.out rfl
      obtain rfl := cd5.out rfl
      obtain rfl := cd6.out rfl
      obtain rfl := cd7.out rfl
      obtain rfl := cd8.out rfl
      clear hf hd
      have W_o6 := f_o6.out rfl
      have W_lo2 := f_lo2.out rfl
      have W_kb := f_kb.out
      have W_t := f_t.out
      have W_c := f_c.out
      try simp only [List.setIfInBounds_toArray, List.set_cons_zero, List.set_cons_succ]
      intro K hK
      rw [if_pos (by rfl)]
      go_simp
      exact hK.out _ _ ⟨true, true, true, true, true, true, true, true, true, true, true, b11, .pointer (some ⟨g, 3, none⟩), .pointer (some ⟨g, 3, none⟩), .pointer (some ⟨g, 3, none⟩), .pointer (some ⟨g, 4, none⟩), .slice oa2 on oc2, .agg #[.int .i64 next, .slice ca cn cc], .agg #[.int .i64 next, .slice xa cn xc], .slice (some ⟨gs, 0, none⟩) 1 1, .slice (some ⟨gq, 0, none⟩) (on + 1) cq, .pointer (some ⟨g, 3, none⟩), (.pointer (some ⟨g, 4, none⟩)), xa, xc, gs, gq, cq, (by simp only [Act.put, List.setIfInBounds_toArray, List.set_cons_zero, List.set_cons_succ]), (by simp only [Act.put, List.setIfInBounds_toArray, List.set_cons_zero, List.set_cons_succ]), hb, (fun _ => rfl), (fun _ => rfl), (fun _ => rfl), (fun _ => rfl), (fun _ => rfl), (fun _ => rfl), (fun _ => rfl), (fun _ => rfl), (fun _ => rfl), (fun _ => rfl), (fun _ => rfl), f_g, (fun h => by cases h), (fun _ h => by cases h), (fun _ h => by cases h), f_o6, f_lo2, f_s, f_o8, f_q4, f_kb, f_t, f_c⟩
    · rintro L a w ⟨b0, b1, b2, b3, b4, b5, b6, b7, b8, b9, b10, b11, x22, x23, x24, x25, x26, x27, x28, x29, x30, x31, x32, xa, xc, gs, gq, cq, rfl, rfl, hb, cd0, cd1, cd2, cd3, cd4, cd5, cd6, cd7, cd8, cd9, cd10, f_g, f_lo, f_lx, f_ls, f_o6, f_lo2, f_s, f_o8, f_q4, f_kb, f_t, f_c⟩ hf hd
      have hf' : b11 = false := hf
      subst hf'
      have d10 : b10 = true := hd ⟨10, .data⟩ (by simp) rfl
      subst d10
      have d8 : b8 = true := hd ⟨8, .data⟩ (by simp) rfl
      subst d8
      have d0 : b0 = true := hd ⟨0, .phase⟩ (by simp) rfl
      subst d0
      have d1 : b1 = true := hd ⟨1, .phase⟩ (by simp) rfl
      subst d1
      have d2 : b2 = true := hd ⟨2, .phase⟩ (by simp) rfl
      subst d2
      have d3 : b3 = true := hd ⟨3, .phase⟩ (by simp) rfl
      subst d3
      have d4 : b4 = true := hd ⟨4, .phase⟩ (by simp) rfl
      subst d4
      have d5 : b5 = true := hd ⟨5, .phase⟩ (by simp) rfl
      subst d5
      have d6 : b6 = true := hd ⟨6, .phase⟩ (by simp) rfl
      subst d6
      have d7 : b7 = true := hd ⟨7, .phase⟩ (by simp) rfl
      subst d7
      obtain rfl := cd10.out rfl
      obtain rfl := cd8.out rfl
      obtain rfl := cd0.out rfl
      obtain rfl := cd1.out rfl
      obtain rfl := cd2.out rfl
      obtain rfl := cd3.out rfl
      obtain rfl := cd4.out rfl
      obtain rfl := cd5.out rfl
      obtain rfl := cd6.out rfl
      obtain rfl := cd7.out rfl
      clear hf hd
      have W_g := f_g.out rfl
      have W_o6 := f_o6.out rfl
      have W_lo2 := f_lo2.out rfl
      have W_kb := f_kb.out
      have W_t := f_t.out
      have W_c := f_c.out
      try simp only [List.setIfInBounds_toArray, List.set_cons_zero, List.set_cons_succ]
      have z4 : w.cell? ⟨g, 4, none⟩ = some (.slice oa2 on oc2) := W_g.c rfl
      have fz := free_blk (i := 4) W_g
      intro K hK
      rw [if_pos (by rfl)]
      go_simp
      have g9 := grown_cell (grown_self w g) 4 (.slice (some ⟨gq, 0, none⟩) (on + 1) cq)
      have hb2 := hb.grown g9 (Nat.le_trans hB0 hb.size) (fun z hz => by cases hz; exact Nat.le_refl _)
      exact hK.out _ _ ⟨true, true, true, true, true, true, true, true, true, b9, true, true, .pointer (some ⟨g, 3, none⟩), .pointer (some ⟨g, 3, none⟩), .pointer (some ⟨g, 3, none⟩), .pointer (some ⟨g, 4, none⟩), .slice oa2 on oc2, .agg #[.int .i64 next, .slice ca cn cc], .agg #[.int .i64 next, .slice xa cn xc], .slice (some ⟨gs, 0, none⟩) 1 1, .slice (some ⟨gq, 0, none⟩) (on + 1) cq, x31, .pointer (some ⟨g, 4, none⟩), xa, xc, gs, gq, cq, (by simp only [Act.put, List.setIfInBounds_toArray, List.set_cons_zero, List.set_cons_succ]), (by simp only [Act.put, List.setIfInBounds_toArray, List.set_cons_zero, List.set_cons_succ]), hb2, (fun _ => rfl), (fun _ => rfl), (fun _ => rfl), (fun _ => rfl), (fun _ => rfl), (fun _ => rfl), (fun _ => rfl), (fun _ => rfl), (fun _ => rfl), cd9, (fun _ => rfl), (fun h => by cases h), (fun h => by cases h), (fun _ h => by cases h), (fun _ h => by cases h), f_o6, (fun h0 => ((f_lo2.out h0)).grown g9 hgB), (fun _ => df_set W_g 4 _ rfl), (fun _ => rfl), (fun _ => rfl), ((f_kb.out).grown g9), (Bk.grown f_t.out g9 htg), ((f_c.out).grown g9 (fun h9 => h9.1 rfl))⟩
  · rintro act V4 ⟨b0, b1, b2, b3, b4, b5, b6, b7, b8, b9, b10, b11, x22, x23, x24, x25, x26, x27, x28, x29, x30, x31, x32, xa, xc, gs, gq, cq, hL, rfl, hb, cd0, cd1, cd2, cd3, cd4, cd5, cd6, cd7, cd8, cd9, cd10, f_g, f_lo, f_lx, f_ls, f_o6, f_lo2, f_s, f_o8, f_q4, f_kb, f_t, f_c⟩
    have hL' : [true, true, true, true, true, true, true, true, true, true, true, true] = [b0, b1, b2, b3, b4, b5, b6, b7, b8, b9, b10, b11] := congrArg Array.toList hL
    simp only [List.cons.injEq, and_true] at hL'
    obtain ⟨rfl, rfl, rfl, rfl, rfl, rfl, rfl, rfl, rfl, rfl, rfl, rfl⟩ := hL'
    obtain rfl := cd0.out rfl
    obtain rfl := cd1.out rfl
    obtain rfl := cd2.out rfl
    obtain rfl := cd3.out rfl
    obtain rfl := cd4.out rfl
    obtain rfl := cd5.out rfl
    obtain rfl := cd6.out rfl
    obtain rfl := cd7.out rfl
    obtain rfl := cd8.out rfl
    obtain rfl := cd9.out rfl
    obtain rfl := cd10.out rfl
    have W_o6 := f_o6.out rfl
    have W_lo2 := f_lo2.out rfl
    have W_s := f_s.out rfl
    have W_o8 := f_o8.out rfl
    have W_q4 := f_q4.out rfl
    have W_kb := f_kb.out
    have W_t := f_t.out
    have W_c := f_c.out
    clear hL f_g f_lo f_lx f_ls f_o6 f_lo2 f_s f_o8 f_q4 f_kb f_t f_c cd0 cd1 cd2 cd3 cd4 cd5 cd6 cd7 cd8 cd9 cd10
    simp only [List.setIfInBounds_toArray, List.set_cons_zero, List.set_cons_succ]
    have BV : Below g w3 V4 := (Below.refl _ _).drew.trans hb
    have B5 := B4.trans BV
    have X5 : Bk V4 g (dfC 1 0 nx (some ⟨gq, 0, none⟩) (on + 1) cq ba2 bn bc2 ta2 tn tc2) 68 := W_s
    have L5 : LgX V4 B9 tb (some ⟨gq, 0, none⟩) (on + 1) cq ba2 bn bc2 ta2 tn tc2 (⟨nx, M.op ++ [(next, cl)], M.bl, M.ts⟩ : Lgr) := LgX.nx W_lo2 nx
    have K5 : SameB B9 tb g w3 V4 := W_kb
    have T5 : Bk V4 tb #[.int .i64 next, .slice ca cn cc] 32 := W_t
    have C5 : IsD DC V4 (fun k => k ≠ g ∧ k < B9) ca cn cc cl := W_c
    have R5 : Bk V4 r #[.int .i64 0, .slice none 0 0] 32 := (K5.same r (.inl hrB) (by omega)).trans hR
    clear hb W_s W_lo2 W_o8 W_q4 W_o6 W_kb W_t W_c BV hX hLo hc hR hT' B4 hB0 hBw
    generalize V4 = w4 at B5 X5 L5 K5 T5 C5 R5 ⊢
    have hBw := K5.hB
    obtain ⟨d3, d4, d5, d6⟩ := df_cells X5
    have hop : M.op ++ [(next, cl)] ≠ [] := by simp
    have hopl : (M.op ++ [(next, cl)]).length = on + 1 := by rw [List.length_append, hon]; rfl
    by_cases hz : on + 1 = 4
    · have hzi : ((on : Int) + 1 = 4) := by omega
      have hzi2 : (((on + 1 : Nat) : Int) = 4) := by omega
      have hL5 : LgOk (⟨nx, M.op ++ [(next, cl)], M.bl, M.ts⟩ : Lgr) := ⟨by rw [hopl]; omega, hL.bl, hL.ts, fun x hx => (List.mem_append.1 hx).elim (hL.tx x) (fun h9 => by rw [List.mem_singleton.1 h9]; exact hcl), hL.txs⟩
      have hA : addL M cl = ⟨nx, [], M.bl ++ [newB (⟨nx, M.op ++ [(next, cl)], M.bl, M.ts⟩ : Lgr)], M.ts ++ [M.op ++ [(next, cl)]]⟩ := by
        have h1 : addL M cl = cls ⟨M.next + 1, M.op ++ [(M.next, cl)], M.bl, M.ts⟩ := if_pos (by rw [hnx, hopl, hz])
        rw [h1, hnx, hnx2]
        exact if_neg hop
      go_upto_region 7 with (go_at_call 16; refine (dclose_some w4 g B9 tb (fun w' hb' => hCg w' (((B0.mono (Nat.le_of_lt hgw)).trans B5).trans hb')) 1 nx (some ⟨gq, 0, none⟩) (on + 1) cq ba2 bn bc2 ta2 tn tc2 _ X5 hgB (Nat.succ_pos _) (own_at1 w4 g B9 tb nx _ _ _ _ _ _ _ _ _ _ X5 L5 hBw) hL5).mono ?_; rintro e w6 ⟨oa6, on6, oc6, ba6, bn6, bc6, ta6, tn6, tc6, rfl, X6, L6, B6, hB6, K6⟩)
      have T6 : Bk w6 tb #[.int .i64 next, .slice ca cn cc] 32 := (K6.same tb (.inr rfl) (by omega)).trans T5
      have R6 : Bk w6 r #[.int .i64 0, .slice none 0 0] 32 := (K6.same r (.inl hrB) (by omega)).trans R5
      have C6 := C5.same sm_DC (fun k hk hq => K6.same k (.inl hq.2) hq.1)
      have t0 : w6.cell? ⟨tb, 0, none⟩ = some (.int .i64 next) := T6.c rfl
      have t1 : w6.cell? ⟨tb, 1, none⟩ = some (.slice ca cn cc) := T6.c rfl
      go_wp2_with (go_at_call 28; refine (copyTx_any w6 _ next ca cn cc cl C6 hcn hcs).mono ?_; rintro e w7 ⟨a9, c9, rfl, o9, bx⟩; have R7 : Bk w7 r #[.int .i64 0, .slice none 0 0] 32 := R6.past bx; obtain ⟨f0, f1⟩ : w7.frozen? ⟨r, 0, none⟩ = false ∧ w7.frozen? ⟨r, 1, none⟩ = false := ⟨free_blk R7, free_blk R7⟩; obtain ⟨e0, e1⟩ : w7.cell? ⟨r, 0, none⟩ = some (.int .i64 0) ∧ w7.cell? ⟨r, 1, none⟩ = some (.slice none 0 0) := ⟨R7.c rfl, R7.c rfl⟩)
      have g7 : w7.grownBy ((w7.setCell ⟨r, 0, none⟩ (.int .i64 next)).setCell ⟨r, 1, none⟩ (.slice a9 cn c9)) (some r) := grown_cell (grown_cell (grown_self _ _) _ _) _ _
      have R8 : Bk ((w7.setCell ⟨r, 0, none⟩ (.int .i64 next)).setCell ⟨r, 1, none⟩ (.slice a9 cn c9)) r #[.int .i64 next, .slice a9 cn c9] 32 := by
        have h5 := heap_setCell_same (i := 1) (v := .slice a9 cn c9) (heap_setCell_same (i := 0) (v := .int .i64 next) R7)
        exact h5
      have X8 := (X6.past bx).grown g7 (fun e => by have := Option.some.inj e; omega)
      have L8 := ((L6.rIn.past bx).grown g7 (fun h9 => by have := h9.1; omega)).imp (Q' := fun k => w.heap.size < k ∧ k < w6.heap.size) (fun k _ hk => ⟨by have := hk.1; omega, hk.2⟩)
      have o8 := o9.grown g7 (show ¬ w6.heap.size ≤ r by have := R6.lt; omega)
      have B8 : Below g w ((w7.setCell ⟨r, 0, none⟩ (.int .i64 next)).setCell ⟨r, 1, none⟩ (.slice a9 cn c9)) := (((B0.mono (Nat.le_of_lt hgw)).trans (B5.trans B6)).trans (bx.mono (by have := X6.lt; omega))).grown g7 (by have := R7.lt; omega) (fun z hz => by cases hz; omega)
      have hr8 : w.heap.size < w6.heap.size := by have := R6.lt; omega
      generalize ((w7.setCell ⟨r, 0, none⟩ (.int .i64 next)).setCell ⟨r, 1, none⟩ (.slice a9 cn c9)) = w8 at R8 X8 L8 o8 B8 ⊢
      obtain ⟨q0, q1⟩ : w8.cell? ⟨r, 0, none⟩ = some (.int .i64 next) ∧ w8.cell? ⟨r, 1, none⟩ = some (.slice a9 cn c9) := ⟨R8.c rfl, R8.c rfl⟩
      refine bodyPost_ret (v := .agg #[.int .i64 next, .slice a9 cn c9]) (by simp [results, Tryd.results14, go_sem, q0, q1]) rfl ?_
      unfold AddedIs
      rw [hA, hnx2]
      exact ⟨_, _, _, _, _, _, _, _, _, _, _, _, rfl, X8, L8, o8, B8, hr8⟩
    · have hzi : ¬ ((on : Int) + 1 = 4) := by omega
      have hzi2 : ¬ (((on + 1 : Nat) : Int) = 4) := by omega
      have hA : addL M cl = (⟨nx, M.op ++ [(next, cl)], M.bl, M.ts⟩ : Lgr) := by
        have h1 : addL M cl = ⟨M.next + 1, M.op ++ [(M.next, cl)], M.bl, M.ts⟩ := if_neg (by rw [hnx, hopl]; exact hz)
        rw [h1, hnx, hnx2]
      go_upto_region 7 with fail
      have T6 : Bk w4 tb #[.int .i64 next, .slice ca cn cc] 32 := T5
      have R6 : Bk w4 r #[.int .i64 0, .slice none 0 0] 32 := R5
      have C6 := C5
      have t0 : w4.cell? ⟨tb, 0, none⟩ = some (.int .i64 next) := T6.c rfl
      have t1 : w4.cell? ⟨tb, 1, none⟩ = some (.slice ca cn cc) := T6.c rfl
      go_wp2_with (go_at_call 28; refine (copyTx_any w4 _ next ca cn cc cl C6 hcn hcs).mono ?_; rintro e w7 ⟨a9, c9, rfl, o9, bx⟩; have R7 : Bk w7 r #[.int .i64 0, .slice none 0 0] 32 := R6.past bx; obtain ⟨f0, f1⟩ : w7.frozen? ⟨r, 0, none⟩ = false ∧ w7.frozen? ⟨r, 1, none⟩ = false := ⟨free_blk R7, free_blk R7⟩; obtain ⟨e0, e1⟩ : w7.cell? ⟨r, 0, none⟩ = some (.int .i64 0) ∧ w7.cell? ⟨r, 1, none⟩ = some (.slice none 0 0) := ⟨R7.c rfl, R7.c rfl⟩)
      have g7 : w7.grownBy ((w7.setCell ⟨r, 0, none⟩ (.int .i64 next)).setCell ⟨r, 1, none⟩ (.slice a9 cn c9)) (some r) := grown_cell (grown_cell (grown_self _ _) _ _) _ _
      have R8 : Bk ((w7.setCell ⟨r, 0, none⟩ (.int .i64 next)).setCell ⟨r, 1, none⟩ (.slice a9 cn c9)) r #[.int .i64 next, .slice a9 cn c9] 32 := by
        have h5 := heap_setCell_same (i := 1) (v := .slice a9 cn c9) (heap_setCell_same (i := 0) (v := .int .i64 next) R7)
        exact h5
      have X8 := (X5.past bx).grown g7 (fun e => by have := Option.some.inj e; omega)
      have L8 := ((L5.rIn.past bx).grown g7 (fun h9 => by have := h9.1; omega)).imp (Q' := fun k => w.heap.size < k ∧ k < w4.heap.size) (fun k _ hk => ⟨by have := hk.1; omega, hk.2⟩)
      have o8 := o9.grown g7 (show ¬ w4.heap.size ≤ r by have := R6.lt; omega)
      have B8 : Below g w ((w7.setCell ⟨r, 0, none⟩ (.int .i64 next)).setCell ⟨r, 1, none⟩ (.slice a9 cn c9)) := (((B0.mono (Nat.le_of_lt hgw)).trans B5).trans (bx.mono (by have := X5.lt; omega))).grown g7 (by have := R7.lt; omega) (fun z hz => by cases hz; omega)
      have hr8 : w.heap.size < w4.heap.size := by have := R6.lt; omega
      generalize ((w7.setCell ⟨r, 0, none⟩ (.int .i64 next)).setCell ⟨r, 1, none⟩ (.slice a9 cn c9)) = w8 at R8 X8 L8 o8 B8 ⊢
      obtain ⟨q0, q1⟩ : w8.cell? ⟨r, 0, none⟩ = some (.int .i64 next) ∧ w8.cell? ⟨r, 1, none⟩ = some (.slice a9 cn c9) := ⟨R8.c rfl, R8.c rfl⟩
      refine bodyPost_ret (v := .agg #[.int .i64 next, .slice a9 cn c9]) (by simp [results, Tryd.results14, go_sem, q0, q1]) rfl ?_
      unfold AddedIs
      rw [hA, hnx2]
      exact ⟨_, _, _, _, _, _, _, _, _, _, _, _, rfl, X8, L8, o8, B8, hr8⟩
end Go.Proofs.YtdmnjjknkcnkgaaDoor
