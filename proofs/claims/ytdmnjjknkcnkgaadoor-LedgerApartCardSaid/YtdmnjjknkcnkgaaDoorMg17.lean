/-
  ledger: Add (by gen_lgadt.py).
  What the statements of stage 14 share: their example, a number below another one.
  Integers in cells. Of no program.
-/
import Derived.Test.YtdmnjjknkcnkgaaDoorLgAd
import Derived.Deep.WholeRow
import Derived.Test.YtdmnjjknkcnkgaaDoorMg0
namespace Go.Proofs.YtdmnjjknkcnkgaaDoor
open Go.RowKit
set_option linter.unusedSimpArgs false
/-- What stands while the region's operations come up. -/
inductive LAdT3 (B : Nat) (g : Nat) (tb : Nat) (q : Nat) (r : Nat) (k0 : Nat) (next : Int) (nx : Int) (oa2 : Option Addr) (on2 : Nat) (oc2 : Nat) (ba2 : Option Addr) (bn2 : Nat) (bc2 : Nat) (ta2 : Option Addr) (tn2 : Nat) (tc2 : Nat) (xa : Option Addr) (cn : Nat) (xc : Nat) (cl : List Chg) (A : Lgr) (a0 : Act) (w0 : World) (L : Array Bool) (a : Act) (w : World) : Prop
  | mk (b0 b1 b2 b3 b4 b5 : Bool) (x12 x13 x14 x15 : Value) (hL : L = #[b0, b1, b2, b3, b4, b5]) (ha : a = ⟨((((a0.tmps.setIfInBounds 12 x12).setIfInBounds 13 x13).setIfInBounds 14 x14).setIfInBounds 15 x15), a0.defers⟩) (hb : Below B w0 w) (cd0 : Hid (b0 = true → x12 = .pointer (some ⟨g, 3, none⟩))) (cd1 : Hid (b1 = true → x13 = .pointer (some ⟨g, 3, none⟩))) (cd2 : Hid (b2 = true → x14 = .agg #[.int .i64 nx, .slice oa2 on2 oc2, .slice ba2 bn2 bc2, .slice ta2 tn2 tc2])) (cd3 : Hid (b3 = true → x15 = .agg #[.int .i64 next, .slice xa cn xc])) (f_g : Hid (Bk w g (dfC 1 0 nx oa2 on2 oc2 ba2 bn2 bc2 ta2 tn2 tc2) 68)) (f_t : Hid (Bk w tb #[.int .i64 next, .slice xa cn xc] 32)) (f_q : Hid (b4 = false → Bk w q #[.int .i64 0, .slice none 0 0, .slice none 0 0, .slice none 0 0] 29)) (f_r : Hid (b5 = false → Bk w r #[.int .i64 0, .slice none 0 0] 32)) (f_s : Hid (b4 = true → Bk w q #[.int .i64 nx, .slice oa2 on2 oc2, .slice ba2 bn2 bc2, .slice ta2 tn2 tc2] 29)) (f_u : Hid (b5 = true → Bk w r #[.int .i64 next, .slice xa cn xc] 32)) (f_lr : Hid (LgR w (fun k => g < k ∧ k < k0) oa2 on2 oc2 ba2 bn2 bc2 ta2 tn2 tc2 A)) (f_o : Hid (IsD DC w (FrG k0) xa cn xc cl)) : LAdT3 B g tb q r k0 next nx oa2 on2 oc2 ba2 bn2 bc2 ta2 tn2 tc2 xa cn xc cl A a0 w0 L a w
theorem szTx : (Tryd.prog.info? 32).map (·.size) = some 2 := by kernel_rfl
/-- A ledger is answered, in memory of its own: from B on, below k0. -/
def LedgIn (w : World) (B k0 : Nat) (M : Lgr) (v : Value) : Prop :=
  ∃ oa on oc ba bn bc ta tn tc, v = .agg #[.int .i64 M.next, .slice oa on oc, .slice ba bn bc, .slice ta tn tc] ∧ LgR w (fun k => B ≤ k ∧ k < k0) oa on oc ba bn bc ta tn tc M
def AddIs (w : World) (next : Int) (M : Lgr) (cn : Nat) (cl : List Chg) (e : Ending) (w' : World) : Prop :=
  ∃ k0 v xa xc, e = .returned (.tuple #[v, .agg #[.int .i64 next, .slice xa cn xc]]) ∧ LedgIn w' w.heap.size k0 (addL M cl) v ∧ IsD DC w' (FrG k0) xa cn xc cl ∧ Below w.heap.size w w'
theorem addL_next (M : Lgr) (cl : List Chg) : (addL M cl).next = M.next + 1 := by
  simp only [addL, cls]
  split
  · split <;> rfl
  · rfl
set_option maxRecDepth 100000 in
set_option maxHeartbeats 2000000 in
theorem add_any (w : World) (hC : RC w) (Q : Nat → Prop) (next : Int) (oa : Option Addr) (on oc : Nat) (ba : Option Addr) (bn bc : Nat) (ta : Option Addr) (tn tc : Nat) (ca : Option Addr) (cn cc : Nat) (cl : List Chg) (M : Lgr) (hnx : M.next = next) (hlo : 0 ≤ next) (hhi : next ≤ 1000000) (h : LgR w Q oa on oc ba bn bc ta tn tc M) (hL : LgOk M) (hcl : TxOk (next, cl)) (hc : IsD DC w Q ca cn cc cl) :
    Calls Tryd.prog 8 #[.agg #[.int .i64 next, .slice oa on oc, .slice ba bn bc, .slice ta tn tc], .slice ca cn cc] w (AddIs w next M cn cl) := by
  have B0 : Below w.heap.size w (((w.alloc (.cells #[.int .i64 next, .slice oa on oc, .slice ba bn bc, .slice ta tn tc] 29)).alloc (.cells #[.int .i64 0, .slice none 0 0, .slice none 0 0, .slice none 0 0] 29)).alloc (.cells #[.int .i64 0, .slice none 0 0] 32)) := (((Below.refl _ _).alloc (Nat.le_refl _) _).alloc (by simp) _).alloc (by simp; omega) _
  have hP : Bk (((w.alloc (.cells #[.int .i64 next, .slice oa on oc, .slice ba bn bc, .slice ta tn tc] 29)).alloc (.cells #[.int .i64 0, .slice none 0 0, .slice none 0 0, .slice none 0 0] 29)).alloc (.cells #[.int .i64 0, .slice none 0 0] 32)) w.heap.size #[.int .i64 next, .slice oa on oc, .slice ba bn bc, .slice ta tn tc] 29 := ((Bk.new w _ _).alloc _).alloc _
  have hQ : Bk (((w.alloc (.cells #[.int .i64 next, .slice oa on oc, .slice ba bn bc, .slice ta tn tc] 29)).alloc (.cells #[.int .i64 0, .slice none 0 0, .slice none 0 0, .slice none 0 0] 29)).alloc (.cells #[.int .i64 0, .slice none 0 0] 32)) (w.heap.size + 1) #[.int .i64 0, .slice none 0 0, .slice none 0 0, .slice none 0 0] 29 := by
    have := Bk.new (w.alloc (.cells #[.int .i64 next, .slice oa on oc, .slice ba bn bc, .slice ta tn tc] 29)) #[.int .i64 0, .slice none 0 0, .slice none 0 0, .slice none 0 0] 29
    rw [World.size_alloc] at this
    exact this.alloc _
  have hR : Bk (((w.alloc (.cells #[.int .i64 next, .slice oa on oc, .slice ba bn bc, .slice ta tn tc] 29)).alloc (.cells #[.int .i64 0, .slice none 0 0, .slice none 0 0, .slice none 0 0] 29)).alloc (.cells #[.int .i64 0, .slice none 0 0] 32)) (w.heap.size + 1 + 1) #[.int .i64 0, .slice none 0 0] 32 := by
    have := Bk.new ((w.alloc (.cells #[.int .i64 next, .slice oa on oc, .slice ba bn bc, .slice ta tn tc] 29)).alloc (.cells #[.int .i64 0, .slice none 0 0, .slice none 0 0, .slice none 0 0] 29)) #[.int .i64 0, .slice none 0 0] 32
    rwa [World.size_alloc, World.size_alloc] at this
  have h1 := h.past B0
  have hc1 := hc.past B0
  go_enter Tryd.func8, Tryd.ntmps8
  go_upto_region 1 with fail
  generalize (((w.alloc (.cells #[.int .i64 next, .slice oa on oc, .slice ba bn bc, .slice ta tn tc] 29)).alloc (.cells #[.int .i64 0, .slice none 0 0, .slice none 0 0, .slice none 0 0] 29)).alloc (.cells #[.int .i64 0, .slice none 0 0] 32)) = W at B0 hP hQ hR h1 hc1 ⊢
  have hCW := hC.past B0
  obtain ⟨p, hp⟩ : ∃ p, w.heap.size = p := ⟨_, rfl⟩
  obtain ⟨q, hq⟩ : ∃ q, p + 1 = q := ⟨_, rfl⟩
  obtain ⟨r, hr⟩ : ∃ r, q + 1 = r := ⟨_, rfl⟩
  have HG := Lib.hid hp
  rw [hp] at hP hQ hR B0
  rw [hq] at hQ hR
  rw [hr] at hR
  simp only [hp, hq, hr]
  have hpq : p < q := by omega
  have hqr2 : q < r := by omega
  clear hp hq hr h hc
  have hrW := hR.lt
  obtain ⟨c0, c1, c2, c3⟩ : W.cell? ⟨p, 0, none⟩ = some (.int .i64 next) ∧ W.cell? ⟨p, 1, none⟩ = some (.slice oa on oc) ∧ W.cell? ⟨p, 2, none⟩ = some (.slice ba bn bc) ∧ W.cell? ⟨p, 3, none⟩ = some (.slice ta tn tc) := ⟨hP.c rfl, hP.c rfl, hP.c rfl, hP.c rfl⟩
  go_upto_region 2 with fail
  have X : Bk (W.alloc (.cells #[.int .u32 0, .int .i32 0, .int .u32 0, .int .i64 next, .slice oa on oc, .slice ba bn bc, .slice ta tn tc] 68)) W.heap.size (dfC 0 0 next oa on oc ba bn bc ta tn tc) 68 := Bk.new W _ _
  have hBV : Below W.heap.size W (W.alloc (.cells #[.int .u32 0, .int .i32 0, .int .u32 0, .int .i64 next, .slice oa on oc, .slice ba bn bc, .slice ta tn tc] 68)) := (Below.refl _ W).alloc (Nat.le_refl _) _
  have h2 := (h1.imp (Q' := fun b => b ≠ W.heap.size) (fun k hk _ => Nat.ne_of_lt hk)).past hBV
  have hc2 := (hc1.imp (Q' := fun b => b ≠ W.heap.size) (fun k hk _ => Nat.ne_of_lt hk)).past hBV
  have B1 := B0.alloc (by omega) (.cells #[.int .u32 0, .int .i32 0, .int .u32 0, .int .i64 next, .slice oa on oc, .slice ba bn bc, .slice ta tn tc] 68)
  have hQ2 := hQ.alloc (.cells #[.int .u32 0, .int .i32 0, .int .u32 0, .int .i64 next, .slice oa on oc, .slice ba bn bc, .slice ta tn tc] 68)
  have hR2 := hR.alloc (.cells #[.int .u32 0, .int .i32 0, .int .u32 0, .int .i64 next, .slice oa on oc, .slice ba bn bc, .slice ta tn tc] 68)
  obtain ⟨g, hg⟩ : ∃ g, W.heap.size = g := ⟨_, rfl⟩
  generalize W.alloc (.cells #[.int .u32 0, .int .i32 0, .int .u32 0, .int .i64 next, .slice oa on oc, .slice ba bn bc, .slice ta tn tc] 68) = V at X h2 hc2 B1 hQ2 hR2 hBV ⊢
  simp only [hg] at X h2 hc2 hrW hBV ⊢
  have hCV : ∀ w', Below g V w' → RC w' := fun w' hb => hCW.past (hg.symm ▸ hBV.trans hb)
  clear c0 c1 c2 c3 hP hQ hR h1 hc1 B0
  have hA := dadd_any V g hCV next oa on oc ba bn bc ta tn tc ca cn cc cl M hnx hlo hhi X h2 hL hcl hc2
  have hVg : g < V.heap.size := X.lt
  go_upto_region 3 with (go_at_call 14; refine hA.mono ?_; rintro e w2 ⟨oa2, on2, oc2, ba2, bn2, bc2, ta2, tn2, tc2, xa, xc, k0, rfl, X2, L2, o2, B2, hk0⟩)
  have hQ3 := Bk.alloc ((B2.block q (by omega)).trans hQ2) (.cells #[.int .i64 next, .slice xa cn xc] 32)
  have hR3 := Bk.alloc ((B2.block r (by omega)).trans hR2) (.cells #[.int .i64 next, .slice xa cn xc] 32)
  have X3 := X2.alloc (.cells #[.int .i64 next, .slice xa cn xc] 32)
  have BT : Below w2.heap.size w2 (w2.alloc (.cells #[.int .i64 next, .slice xa cn xc] 32)) := (Below.refl _ _).alloc (Nat.le_refl _) _
  have L3 := (L2.past BT).imp (Q' := fun k => g < k ∧ k < k0) (fun k _ hk => ⟨by have := hk.1; omega, hk.2⟩)
  have o3 := o2.past BT
  have hT : Bk (w2.alloc (.cells #[.int .i64 next, .slice xa cn xc] 32)) w2.heap.size #[.int .i64 next, .slice xa cn xc] 32 := Bk.new w2 _ _
  have hg2 := X2.lt
  have B3 := B1.trans ((B2.mono (show p ≤ g by omega)).trans (BT.mono (by omega)))
  obtain ⟨tb, htb⟩ : ∃ r, w2.heap.size = r := ⟨_, rfl⟩
  rw [htb] at hT hg2
  simp only [htb]
  generalize w2.alloc (.cells #[.int .i64 next, .slice xa cn xc] 32) = w3 at hQ3 hR3 X3 L3 o3 hT B3 ⊢
  have hB0 : q ≤ w3.heap.size := Nat.le_of_lt hQ3.lt
  have hgq : some g ≠ some q := fun e => by have := Option.some.inj e; omega
  have hgr : some g ≠ some r := fun e => by have := Option.some.inj e; omega
  have htq : some tb ≠ some q := fun e => by have := Option.some.inj e; omega
  have htr : some tb ≠ some r := fun e => by have := Option.some.inj e; omega
  have hrq : some r ≠ some q := fun e => by have := Option.some.inj e; omega
  have hqr : some q ≠ some r := fun e => by have := Option.some.inj e; omega
  have hLq : ¬ (g < q ∧ q < k0) := fun e => by omega
  have hLr : ¬ (g < r ∧ r < k0) := fun e => by omega
  have hOq : ¬ FrG k0 q := fun e => by have : k0 ≤ q := e; omega
  have hOr : ¬ FrG k0 r := fun e => by have : k0 ≤ r := e; omega
  have hBq : q ≤ q := Nat.le_refl _
  have hBr : q ≤ r := Nat.le_of_lt hqr2
  obtain ⟨nx, hnx2⟩ : ∃ n, next + 1 = n := ⟨_, rfl⟩
  obtain ⟨A, hAA⟩ : ∃ a, addL M cl = a := ⟨_, rfl⟩
  have hAn : (.agg #[.int .i64 nx, .slice oa2 on2 oc2, .slice ba2 bn2 bc2, .slice ta2 tn2 tc2] : Value) = .agg #[.int .i64 (addL M cl).next, .slice oa2 on2 oc2, .slice ba2 bn2 bc2, .slice ta2 tn2 tc2] := by rw [addL_next, hnx, hnx2]
  rw [hnx2] at X3
  rw [hAA] at L3 hAn
  have HAN := Lib.hid hAn
  have HAA := Lib.hid hAA
  clear hAn hAA
  clear hA X2 L2 o2 B2 hQ2 hR2 X h2 hc2 B1 hBV hCV hCW
  refine region_inv (LAdT3 q g tb q r k0 next nx oa2 on2 oc2 ba2 bn2 bc2 ta2 tn2 tc2 xa cn xc cl A) (by kernel_rfl) (by kernel_rfl) ?_ ?_ ?_
  · exact ⟨false, false, false, false, false, false, undef, undef, undef, undef, rfl, (by simp only [Act.put, List.setIfInBounds_toArray, List.set_cons_zero, List.set_cons_succ]), Below.refl _ _, (fun h => by cases h), (fun h => by cases h), (fun h => by cases h), (fun h => by cases h), (X3.past (Below.refl _ _).drew), (hT.past (Below.refl _ _).drew), (fun h1 => hQ3.past (Below.refl _ _).drew), (fun h1 => hR3.past (Below.refl _ _).drew), (fun h => by cases h), (fun h => by cases h), (L3.past (Below.refl _ _).drew), (o3.past (Below.refl _ _).drew)⟩
  · refine ⟨?_, ?_, ?_, ?_, ?_, ?_, trivial⟩
    · rintro L a w ⟨b0, b1, b2, b3, b4, b5, x12, x13, x14, x15, rfl, rfl, hb, cd0, cd1, cd2, cd3, f_g, f_t, f_q, f_r, f_s, f_u, f_lr, f_o⟩ hf hd
      have hf' : b0 = false := hf
      subst hf'
      clear hf hd
      have W_g := f_g.out
      have W_t := f_t.out
      have W_lr := f_lr.out
      have W_o := f_o.out
      try simp only [List.setIfInBounds_toArray, List.set_cons_zero, List.set_cons_succ]
      intro K hK
      rw [if_pos (by rfl)]
      go_simp
      go_at_call 15
      refine (own_done w g nx oa2 on2 oc2 ba2 bn2 bc2 ta2 tn2 tc2 W_g).mono ?_
      rintro e w' ⟨rfl, rfl⟩
      have bx := Below.refl w.heap.size w
      exact hK.out _ _ ⟨true, b1, b2, b3, b4, b5, (.pointer (some ⟨g, 3, none⟩)), x13, x14, x15, (by simp only [Act.put, List.setIfInBounds_toArray, List.set_cons_zero, List.set_cons_succ]), (by simp only [Act.put, List.setIfInBounds_toArray, List.set_cons_zero, List.set_cons_succ]), hb.trans (bx.mono (Nat.le_trans hB0 hb.size)), (fun _ => rfl), cd1, cd2, cd3, (f_g.out.past bx), (f_t.out.past bx), (fun h1 => (f_q.out h1).past bx), (fun h1 => (f_r.out h1).past bx), (fun h0 => (f_s.out h0).past bx), (fun h0 => (f_u.out h0).past bx), (f_lr.out.past bx), (f_o.out.past bx)⟩
    · rintro L a w ⟨b0, b1, b2, b3, b4, b5, x12, x13, x14, x15, rfl, rfl, hb, cd0, cd1, cd2, cd3, f_g, f_t, f_q, f_r, f_s, f_u, f_lr, f_o⟩ hf hd
      have hf' : b1 = false := hf
      subst hf'
      have d0 : b0 = true := hd ⟨0, .data⟩ (by simp) rfl
      subst d0
      obtain rfl := cd0.out rfl
      clear hf hd
      have W_g := f_g.out
      have W_t := f_t.out
      have W_lr := f_lr.out
      have W_o := f_o.out
      try simp only [List.setIfInBounds_toArray, List.set_cons_zero, List.set_cons_succ]
      intro K hK
      rw [if_pos (by rfl)]
      go_simp
      exact hK.out _ _ ⟨true, true, b2, b3, b4, b5, .pointer (some ⟨g, 3, none⟩), (.pointer (some ⟨g, 3, none⟩)), x14, x15, (by simp only [Act.put, List.setIfInBounds_toArray, List.set_cons_zero, List.set_cons_succ]), (by simp only [Act.put, List.setIfInBounds_toArray, List.set_cons_zero, List.set_cons_succ]), hb, (fun _ => rfl), (fun _ => rfl), cd2, cd3, f_g, f_t, f_q, f_r, f_s, f_u, f_lr, f_o⟩
    · rintro L a w ⟨b0, b1, b2, b3, b4, b5, x12, x13, x14, x15, rfl, rfl, hb, cd0, cd1, cd2, cd3, f_g, f_t, f_q, f_r, f_s, f_u, f_lr, f_o⟩ hf hd
      have hf' : b2 = false := hf
      subst hf'
      have d1 : b1 = true := hd ⟨1, .data⟩ (by simp) rfl
      subst d1
      obtain rfl := cd1.out rfl
      clear hf hd
      have W_g := f_g.out
      have W_t := f_t.out
      have W_lr := f_lr.out
      have W_o := f_o.out
      try simp only [List.setIfInBounds_toArray, List.set_cons_zero, List.set_cons_succ]
      obtain ⟨d3, d4, d5, d6⟩ := df_cells W_g
      intro K hK
      rw [if_pos (by rfl)]
      go_simp
      exact hK.out _ _ ⟨b0, true, true, b3, b4, b5, x12, .pointer (some ⟨g, 3, none⟩), (.agg #[.int .i64 nx, .slice oa2 on2 oc2, .slice ba2 bn2 bc2, .slice ta2 tn2 tc2]), x15, (by simp only [Act.put, List.setIfInBounds_toArray, List.set_cons_zero, List.set_cons_succ]), (by simp only [Act.put, List.setIfInBounds_toArray, List.set_cons_zero, List.set_cons_succ]), hb, cd0, (fun _ => rfl), (fun _ => rfl), cd3, f_g, f_t, f_q, f_r, f_s, f_u, f_lr, f_o⟩
    · rintro L a w ⟨b0, b1, b2, b3, b4, b5, x12, x13, x14, x15, rfl, rfl, hb, cd0, cd1, cd2, cd3, f_g, f_t, f_q, f_r, f_s, f_u, f_lr, f_o⟩ hf hd
      have hf' : b3 = false := hf
      subst hf'
      clear hf hd
      have W_g := f_g.out
      have W_t := f_t.out
      have W_lr := f_lr.out
      have W_o := f_o.out
      try simp only [List.setIfInBounds_toArray, List.set_cons_zero, List.set_cons_succ]
      have z0 : w.cell? ⟨tb, 0, none⟩ = some (.int .i64 next) := W_t.c rfl
      have z1 : w.cell? ⟨tb, 1, none⟩ = some (.slice xa cn xc) := W_t.c rfl
      intro K hK
      rw [if_pos (by rfl)]
      go_simp
      exact hK.out _ _ ⟨b0, b1, b2, true, b4, b5, x12, x13, x14, (.agg #[.int .i64 next, .slice xa cn xc]), (by simp only [Act.put, List.setIfInBounds_toArray, List.set_cons_zero, List.set_cons_succ]), (by simp only [Act.put, List.setIfInBounds_toArray, List.set_cons_zero, List.set_cons_succ]), hb, cd0, cd1, cd2, (fun _ => rfl), f_g, f_t, f_q, f_r, f_s, f_u, f_lr, f_o⟩
    · rintro L a w ⟨b0, b1, b2, b3, b4, b5, x12, x13, x14, x15, rfl, rfl, hb, cd0, cd1, cd2, cd3, f_g, f_t, f_q, f_r, f_s, f_u, f_lr, f_o⟩ hf hd
      have hf' : b4 = false := hf
      subst hf'
      have d2 : b2 = true := hd ⟨2, .data⟩ (by simp) rfl
      subst d2
      have d0 : b0 = true := hd ⟨0, .chain⟩ (by simp) rfl
      subst d0
      have d1 : b1 = true := hd ⟨1, .phase⟩ (by simp) rfl
      subst d1
      obtain rfl := cd2.out rfl
      obtain rfl := cd0.out rfl
      obtain rfl := cd1.out rfl
      clear hf hd
      have W_g := f_g.out
      have W_t := f_t.out
      have W_q := f_q.out rfl
      have W_lr := f_lr.out
      have W_o := f_o.out
      try simp only [List.setIfInBounds_toArray, List.set_cons_zero, List.set_cons_succ]
      have ZZ : Hid (w.heap[q]? = some (.cells #[.int .i64 0, .slice none 0 0, .slice none 0 0, .slice none 0 0] 29 (0, 0))) := Lib.hid W_q
      intro K hK
      rw [if_pos (by rfl)]
      refine wp_store_blkT 29 _ _ rfl q #[.int .i64 0, .slice none 0 0, .slice none 0 0, .slice none 0 0] #[.int .i64 nx, .slice oa2 on2 oc2, .slice ba2 bn2 bc2, .slice ta2 tn2 tc2] rfl rfl 29 ZZ 4 szLgr rfl rfl (by simp [Value.oneCell']) fun w2 h8 b8 => ?_
      have hb2 := hb.grown b8 (Nat.le_trans hB0 hb.size) (fun z hz => by cases hz; exact hBq)
      exact hK.out _ _ ⟨true, true, true, b3, true, b5, .pointer (some ⟨g, 3, none⟩), .pointer (some ⟨g, 3, none⟩), .agg #[.int .i64 nx, .slice oa2 on2 oc2, .slice ba2 bn2 bc2, .slice ta2 tn2 tc2], x15, (by simp only [Act.put, List.setIfInBounds_toArray, List.set_cons_zero, List.set_cons_succ]), (by simp only [Act.put, List.setIfInBounds_toArray, List.set_cons_zero, List.set_cons_succ]), hb2, (fun _ => rfl), (fun _ => rfl), (fun _ => rfl), cd3, (Bk.grown f_g.out b8 hgq), (Bk.grown f_t.out b8 htq), (fun h => by cases h), (fun h1 => Bk.grown (f_r.out h1) b8 hrq), (fun _ => h8.out), (fun h0 => Bk.grown (f_u.out h0) b8 hrq), ((f_lr.out).grown b8 hLq), ((f_o.out).grown b8 hOq)⟩
    · rintro L a w ⟨b0, b1, b2, b3, b4, b5, x12, x13, x14, x15, rfl, rfl, hb, cd0, cd1, cd2, cd3, f_g, f_t, f_q, f_r, f_s, f_u, f_lr, f_o⟩ hf hd
      have hf' : b5 = false := hf
      subst hf'
      have d3 : b3 = true := hd ⟨3, .data⟩ (by simp) rfl
      subst d3
      have d4 : b4 = true := hd ⟨4, .chain⟩ (by simp) rfl
      subst d4
      have d0 : b0 = true := hd ⟨0, .phase⟩ (by simp) rfl
      subst d0
      have d1 : b1 = true := hd ⟨1, .phase⟩ (by simp) rfl
      subst d1
      have d2 : b2 = true := hd ⟨2, .phase⟩ (by simp) rfl
      subst d2
      obtain rfl := cd3.out rfl
      obtain rfl := cd0.out rfl
      obtain rfl := cd1.out rfl
      obtain rfl := cd2.out rfl
      clear hf hd
      have W_g := f_g.out
      have W_t := f_t.out
      have W_r := f_r.out rfl
      have W_s := f_s.out rfl
      have W_lr := f_lr.out
      have W_o := f_o.out
      try simp only [List.setIfInBounds_toArray, List.set_cons_zero, List.set_cons_succ]
      have ZZ : Hid (w.heap[r]? = some (.cells #[.int .i64 0, .slice none 0 0] 32 (0, 0))) := Lib.hid W_r
      intro K hK
      rw [if_pos (by rfl)]
      refine wp_store_blkT 32 _ _ rfl r #[.int .i64 0, .slice none 0 0] #[.int .i64 next, .slice xa cn xc] rfl rfl 32 ZZ 2 szTx rfl rfl (by simp [Value.oneCell']) fun w2 h8 b8 => ?_
      have hb2 := hb.grown b8 (Nat.le_trans hB0 hb.size) (fun z hz => by cases hz; exact hBr)
      exact hK.out _ _ ⟨true, true, true, true, true, true, .pointer (some ⟨g, 3, none⟩), .pointer (some ⟨g, 3, none⟩), .agg #[.int .i64 nx, .slice oa2 on2 oc2, .slice ba2 bn2 bc2, .slice ta2 tn2 tc2], .agg #[.int .i64 next, .slice xa cn xc], (by simp only [Act.put, List.setIfInBounds_toArray, List.set_cons_zero, List.set_cons_succ]), (by simp only [Act.put, List.setIfInBounds_toArray, List.set_cons_zero, List.set_cons_succ]), hb2, (fun _ => rfl), (fun _ => rfl), (fun _ => rfl), (fun _ => rfl), (Bk.grown f_g.out b8 hgr), (Bk.grown f_t.out b8 htr), (fun h => by cases h), (fun h => by cases h), (fun h0 => Bk.grown (f_s.out h0) b8 hqr), (fun _ => h8.out), ((f_lr.out).grown b8 hLr), ((f_o.out).grown b8 hOr)⟩
  · rintro act V9 ⟨b0, b1, b2, b3, b4, b5, x12, x13, x14, x15, hL, rfl, hb, cd0, cd1, cd2, cd3, f_g, f_t, f_q, f_r, f_s, f_u, f_lr, f_o⟩
    have hL' : [true, true, true, true, true, true] = [b0, b1, b2, b3, b4, b5] := congrArg Array.toList hL
    simp only [List.cons.injEq, and_true] at hL'
    obtain ⟨rfl, rfl, rfl, rfl, rfl, rfl⟩ := hL'
    obtain rfl := cd0.out rfl
    obtain rfl := cd1.out rfl
    obtain rfl := cd2.out rfl
    obtain rfl := cd3.out rfl
    have W_g := f_g.out
    have W_t := f_t.out
    have W_s := f_s.out rfl
    have W_u := f_u.out rfl
    have W_lr := f_lr.out
    have W_o := f_o.out
    clear hL f_g f_t f_q f_r f_s f_u f_lr f_o cd0 cd1 cd2 cd3
    simp only [List.setIfInBounds_toArray, List.set_cons_zero, List.set_cons_succ]
    have S9 : Bk V9 q #[.int .i64 nx, .slice oa2 on2 oc2, .slice ba2 bn2 bc2, .slice ta2 tn2 tc2] 29 := W_s
    have U9 : Bk V9 r #[.int .i64 next, .slice xa cn xc] 32 := W_u
    have B9 : Below w.heap.size w V9 := (B3.trans (((Below.refl _ _).drew.trans hb).mono (Nat.le_of_lt hpq))).mono (Nat.le_of_eq HG.out)
    obtain ⟨y0, y1, y2, y3⟩ : V9.cell? ⟨q, 0, none⟩ = some (.int .i64 nx) ∧ V9.cell? ⟨q, 1, none⟩ = some (.slice oa2 on2 oc2) ∧ V9.cell? ⟨q, 2, none⟩ = some (.slice ba2 bn2 bc2) ∧ V9.cell? ⟨q, 3, none⟩ = some (.slice ta2 tn2 tc2) := ⟨S9.c rfl, S9.c rfl, S9.c rfl, S9.c rfl⟩
    obtain ⟨y4, y5⟩ : V9.cell? ⟨r, 0, none⟩ = some (.int .i64 next) ∧ V9.cell? ⟨r, 1, none⟩ = some (.slice xa cn xc) := ⟨U9.c rfl, U9.c rfl⟩
    go_wp2_with fail
    refine bodyPost_ret (v := .tuple #[.agg #[.int .i64 nx, .slice oa2 on2 oc2, .slice ba2 bn2 bc2, .slice ta2 tn2 tc2], .agg #[.int .i64 next, .slice xa cn xc]]) (by simp [results, Tryd.results8, go_sem, y0, y1, y2, y3, y4, y5]) rfl ?_
    unfold AddIs
    rw [HAA.out]
    refine ⟨k0, _, xa, xc, rfl, ⟨_, _, _, _, _, _, _, _, _, HAN.out, (W_lr).imp (fun k _ hk => ⟨by have := hk.1; have := HG.out; omega, hk.2⟩)⟩, W_o, B9⟩

end Go.Proofs.YtdmnjjknkcnkgaaDoor
namespace Go.Proofs.YtdmnjjknkcnkgaaDoor
open Go.RowKit
set_option linter.unusedSimpArgs false
def wth14 (a n : Int) : Int := if a.tmod n < 0 then a.tmod n + n else a.tmod n
theorem within14_any (a n : Int) (w : World) (hn : 0 < n) (hn2 : n ≤ 1000000) :
    Calls Tryd.prog 7 #[.int .i64 a, .int .i64 n] w fun e w' => e = .returned (.int .i64 (wth14 a n)) ∧ w = w' := by
  have h1 := Int.lt_tmod_of_pos a hn
  have h2 := Int.tmod_lt_of_pos a hn
  have hz : (n == 0) = false := by simp; omega
  by_cases h3 : a.tmod n < 0
  · go_enter Tryd.func7, Tryd.ntmps7
    go_wp2_with fail
    go_ret
    exact ⟨congrArg (fun z => Ending.returned (.int .i64 z)) (by unfold wth14; rw [if_pos h3]), rfl⟩
  · go_enter Tryd.func7, Tryd.ntmps7
    go_wp2_with fail
    go_ret
    exact ⟨congrArg (fun z => Ending.returned (.int .i64 z)) (by unfold wth14; rw [if_neg (by omega)]), rfl⟩
theorem wth14_lt (a n : Int) (hn : 0 < n) : 0 ≤ wth14 a n ∧ wth14 a n < n := by
  have h1 := Int.lt_tmod_of_pos a hn
  have h2 := Int.tmod_lt_of_pos a hn
  unfold wth14
  split <;> omega
/-- A ledger's variable: block p holds it, what it leads to lies from X on. -/
def LVar (w : World) (p X : Nat) (M : Lgr) : Prop := ∃ oa on oc ba bn bc ta tn tc, Bk w p #[.int .i64 M.next, .slice oa on oc, .slice ba bn bc, .slice ta tn tc] 29 ∧ LgR w (fun j => X ≤ j) oa on oc ba bn bc ta tn tc M
def chX : Chg := ((⟨#[120]⟩, 1), [])
def kL : Nat → Lgr
  | 0 => ⟨0, [], [], []⟩
  | k + 1 => addL (kL k) [chX]
/-- What a chain that was made by adding and closing keeps. -/
structure LInv (k : Nat) (M : Lgr) : Prop where
  next : M.next = k
  op : M.op.length < 4
  bl : M.bl.length + M.op.length ≤ k
  ts : M.ts.length = M.bl.length
  tx : ∀ x ∈ M.op, TxOk x
  txs : ∀ l ∈ M.ts, l.length ≤ 4 ∧ ∀ x ∈ l, TxOk x
theorem LInv.ok {k : Nat} {M : Lgr} (h : LInv k M) (hk : k ≤ 200) : LgOk M := ⟨Nat.le_of_lt h.op, by have := h.bl; omega, by have := h.ts; have := h.bl; omega, h.tx, h.txs⟩
theorem LInv.zero : LInv 0 ⟨0, [], [], []⟩ := ⟨rfl, by decide, by decide, rfl, fun x hx => by simp at hx, fun x hx => by simp at hx⟩
theorem LInv.cls' {k : Nat} {M : Lgr} (hn : M.next = k) (ho : M.op.length ≤ 4) (hb : M.bl.length + M.op.length ≤ k) (ht : M.ts.length = M.bl.length) (hx : ∀ x ∈ M.op, TxOk x) (hs : ∀ l ∈ M.ts, l.length ≤ 4 ∧ ∀ x ∈ l, TxOk x) : LInv k (cls M) := by
  unfold cls
  split
  · rename_i h
    exact ⟨hn, by rw [h]; decide, hb, ht, hx, hs⟩
  · rename_i h
    have hp : 0 < M.op.length := List.length_pos_iff.2 h
    refine ⟨hn, by simp, by simp; omega, by simp [ht], fun x hx => by simp at hx, fun l hl => ?_⟩
    rcases List.mem_append.1 hl with hl | hl
    · exact hs l hl
    · rw [List.mem_singleton.1 hl]; exact ⟨ho, hx⟩
theorem LInv.cls {k : Nat} {M : Lgr} (h : LInv k M) : LInv k (cls M) := LInv.cls' h.next (Nat.le_of_lt h.op) h.bl h.ts h.tx h.txs
theorem LInv.add {k : Nat} {M : Lgr} (h : LInv k M) (c : List Chg) (hc : TxOk ((k : Int), c)) : LInv (k + 1) (addL M c) := by
  have hx : ∀ x ∈ M.op ++ [(M.next, c)], TxOk x := fun x hx => by
    rcases List.mem_append.1 hx with hx | hx
    · exact h.tx x hx
    · rw [List.mem_singleton.1 hx, h.next]; exact hc
  have hl : (M.op ++ [(M.next, c)]).length = M.op.length + 1 := by simp
  have hn : M.next + 1 = ((k + 1 : Nat) : Int) := by rw [h.next]; rfl
  have h1 := h.op
  have h2 := h.bl
  simp only [addL]
  split
  · exact LInv.cls' hn (by rw [hl]; omega) (by show M.bl.length + _ ≤ _; rw [hl]; omega) h.ts hx h.txs
  · rename_i h4
    rw [hl] at h4
    exact ⟨hn, by rw [hl]; omega, by show M.bl.length + _ ≤ _; rw [hl]; omega, h.ts, hx, h.txs⟩
theorem txX (k : Int) : TxOk (k, [chX]) := ⟨by simp, fun c hc => by rw [List.mem_singleton.1 hc]; exact ⟨by decide, by decide, fun v hv => by simp [chX] at hv⟩⟩
theorem kL_inv : ∀ k, LInv k (kL k)
  | 0 => LInv.zero
  | k + 1 => (kL_inv k).add _ (txX _)
theorem kL4 : ∃ b t, kL 4 = ⟨4, [], [b], [t]⟩ ∧ b.n = 1 := ⟨_, _, by simp [kL, addL, cls]; exact ⟨rfl, rfl⟩, rfl⟩
theorem chX_is (w : World) (Q : Nat → Prop) (hq : Q w.heap.size) : IsD DC (w.alloc (.cells #[.string ⟨#[120]⟩, .int .i64 1, .slice none 0 0] 39)) Q (some ⟨w.heap.size, 0, none⟩) 1 1 [chX] :=
  ⟨[((⟨#[120]⟩, 1), ⟨none, 0, 0⟩)], (OwnR.ofBlk (E := ECh) (l := [((⟨#[120]⟩, 1), ⟨none, 0, 0⟩)]) (n := 1) (heap_alloc_new w _) rfl rfl (by omega)).isR, fun _ a ha => by cases ha; exact hq, RdD.one ⟨rfl, IsD.nil _ _⟩⟩
theorem dgN_one (b : Blk) : dgN [b] = b.n := rfl
theorem LVar.put {w : World} {p X k0 : Nat} {v0 v1 v2 v3 : Value} {oa : Option Addr} {on oc : Nat} {ba : Option Addr} {bn bc : Nat} {ta : Option Addr} {tn tc : Nat} {M : Lgr} (hP : Bk w p #[v0, v1, v2, v3] 29) (hL : LgR w (fun j => X ≤ j ∧ j < k0) oa on oc ba bn bc ta tn tc M) (hp : p < X) {X' : Nat} (hX : X' ≤ X) :
    LVar ((((w.setCell ⟨p, 0, none⟩ (.int .i64 M.next)).setCell ⟨p, 1, none⟩ (.slice oa on oc)).setCell ⟨p, 2, none⟩ (.slice ba bn bc)).setCell ⟨p, 3, none⟩ (.slice ta tn tc)) p X' M ∧ w.grownBy ((((w.setCell ⟨p, 0, none⟩ (.int .i64 M.next)).setCell ⟨p, 1, none⟩ (.slice oa on oc)).setCell ⟨p, 2, none⟩ (.slice ba bn bc)).setCell ⟨p, 3, none⟩ (.slice ta tn tc)) (some p) := by
  have g3 : w.grownBy ((((w.setCell ⟨p, 0, none⟩ (.int .i64 M.next)).setCell ⟨p, 1, none⟩ (.slice oa on oc)).setCell ⟨p, 2, none⟩ (.slice ba bn bc)).setCell ⟨p, 3, none⟩ (.slice ta tn tc)) (some p) := grown_cell (grown_cell (grown_cell (grown_cell (grown_self _ _) _ _) _ _) _ _) _ _
  have h5 : Bk ((((w.setCell ⟨p, 0, none⟩ (.int .i64 M.next)).setCell ⟨p, 1, none⟩ (.slice oa on oc)).setCell ⟨p, 2, none⟩ (.slice ba bn bc)).setCell ⟨p, 3, none⟩ (.slice ta tn tc)) p #[.int .i64 M.next, .slice oa on oc, .slice ba bn bc, .slice ta tn tc] 29 := (heap_setCell_same (i := 3) (v := .slice ta tn tc) (heap_setCell_same (i := 2) (v := .slice ba bn bc) (heap_setCell_same (i := 1) (v := .slice oa on oc) (heap_setCell_same (i := 0) (v := .int .i64 M.next) hP))))
  exact ⟨⟨_, _, _, _, _, _, _, _, _, h5, (hL.grown g3 (fun e => by have := e.1; omega)).imp fun k _ hk => Nat.le_trans hX hk.1⟩, g3⟩
set_option maxRecDepth 100000 in
set_option maxHeartbeats 2000000 in
theorem known14 (w : World) (hC : RC w) : Calls Tryd.prog 6 #[] w fun e w' => e = .returned (.bool true) ∧ Below w.heap.size w w' := by
  have B0 : Below w.heap.size w (w.alloc (.cells #[.int .i64 0, .slice none 0 0, .slice none 0 0, .slice none 0 0] 29)) := (Below.refl _ _).alloc (Nat.le_refl _) _
  have V0 : LVar (w.alloc (.cells #[.int .i64 0, .slice none 0 0, .slice none 0 0, .slice none 0 0] 29)) w.heap.size (w.heap.size + 1) (kL 0) := ⟨_, _, _, _, _, _, _, _, _, Bk.new w _ _, ⟨IsD.nil _ _, IsD.nil _ _, IsD.nil _ _⟩⟩
  obtain ⟨p, hp⟩ : ∃ p, w.heap.size = p := ⟨_, rfl⟩
  rw [hp] at B0 V0
  go_enter Tryd.func6, Tryd.ntmps6
  go_upto_region 2 with fail
  try simp only [hp]
  generalize w.alloc (.cells #[.int .i64 0, .slice none 0 0, .slice none 0 0, .slice none 0 0] 29) = W at B0 V0 ⊢
  have HP := Lib.hid hp
  clear hp
  go_wp2_with fail
  go_loopw [2] (fun i wr => ∃ k : Nat, k ≤ 4 ∧ i = .int .i64 (k : Nat) ∧ LVar wr p (p + 1) (kL k) ∧ Below p w wr) (fun i _ => 4 - (intOf i).toNat)
  case atStart => exact ⟨0, by omega, rfl, V0, B0⟩
  case round =>
    obtain ⟨k, hk, rfl, ⟨oa, on, oc, ba, bn, bc, ta, tn, tc, P, R⟩, hB⟩ := hrel
    have hpw := P.lt
    have hCw : RC wr := hC.past (HP.out.symm ▸ hB)
    by_cases hk4 : k < 4
    · have hki : ((k : Int) < 4) := by omega
      have hI := kL_inv k
      have B1 : Below wr.heap.size wr (wr.alloc (.cells #[.string ⟨#[120]⟩, .int .i64 1, .slice none 0 0] 39)) := (Below.refl _ _).alloc (Nat.le_refl _) _
      have HA := Lib.hid (add_any _ (hCw.past B1) (fun j => p + 1 ≤ j) (kL k).next oa on oc ba bn bc ta tn tc (some ⟨wr.heap.size, 0, none⟩) 1 1 [chX] (kL k) rfl (by rw [hI.next]; omega) (by rw [hI.next]; omega) (R.past B1) (hI.ok (by omega)) (txX _) (chX_is wr _ hpw))
      have P1 := P.past B1
      obtain ⟨c0, c1, c2, c3⟩ : wr.cell? ⟨p, 0, none⟩ = some (.int .i64 (kL k).next) ∧ wr.cell? ⟨p, 1, none⟩ = some (.slice oa on oc) ∧ wr.cell? ⟨p, 2, none⟩ = some (.slice ba bn bc) ∧ wr.cell? ⟨p, 3, none⟩ = some (.slice ta tn tc) := ⟨P.c rfl, P.c rfl, P.c rfl, P.c rfl⟩
      obtain ⟨f0, f1, f2, f3⟩ : wr.frozen? ⟨p, 0, none⟩ = false ∧ wr.frozen? ⟨p, 1, none⟩ = false ∧ wr.frozen? ⟨p, 2, none⟩ = false ∧ wr.frozen? ⟨p, 3, none⟩ = false := ⟨free_blk P, free_blk P, free_blk P, free_blk P⟩
      go_wp2_with (go_at_call 8; refine HA.out.mono ?_; rintro e w3 ⟨k0, v, xa, xc, rfl, ⟨oa2, on2, oc2, ba2, bn2, bc2, ta2, tn2, tc2, rfl, L3⟩, o3, b3⟩; have P3 := P1.past b3; obtain ⟨d0, d1, d2, d3⟩ : w3.cell? ⟨p, 0, none⟩ = some (.int .i64 (kL k).next) ∧ w3.cell? ⟨p, 1, none⟩ = some (.slice oa on oc) ∧ w3.cell? ⟨p, 2, none⟩ = some (.slice ba bn bc) ∧ w3.cell? ⟨p, 3, none⟩ = some (.slice ta tn tc) := ⟨P3.c rfl, P3.c rfl, P3.c rfl, P3.c rfl⟩; obtain ⟨u0, u1, u2, u3⟩ : w3.frozen? ⟨p, 0, none⟩ = false ∧ w3.frozen? ⟨p, 1, none⟩ = false ∧ w3.frozen? ⟨p, 2, none⟩ = false ∧ w3.frozen? ⟨p, 3, none⟩ = false := ⟨free_blk P3, free_blk P3, free_blk P3, free_blk P3⟩)
      have HV := LVar.put (X' := p + 1) P3 L3 (by rw [World.size_alloc]; omega) (by rw [World.size_alloc]; omega)
      have hB3 : Below p w w3 := hB.trans ((B1.mono (Nat.le_of_lt hpw)).trans (b3.mono (by rw [World.size_alloc]; omega)))
      go_roundw
      case rel => exact ⟨k + 1, by omega, by go_num, HV.1, hB3.grown HV.2 (show p ≤ w3.heap.size from Nat.le_of_lt P3.lt) (fun z hz => by cases hz; exact Nat.le_refl _)⟩
      case measure => simp [intOf]; omega
    · have hki : ¬ ((k : Int) < 4) := by omega
      obtain rfl : k = 4 := by omega
      obtain ⟨bk, t, e4, hbn⟩ := kL4
      rw [e4] at P R
      obtain rfl : 0 = on := R.op.len
      obtain rfl : 1 = bn := R.bl.len
      have hD := digest_any wr hCw 4 oa 0 oc ba 1 bc ta tn tc [bk] R.bl.flat (by omega)
      obtain ⟨DA, hDA⟩ : ∃ d, dgC [bk] = d := ⟨_, rfl⟩
      have HD1 : Hid (DA[0]? = some (.int .i64 1)) := Lib.hid (by rw [← hDA, dgC, dgN_one, hbn]; rfl)
      have HD2 : Hid (DA.size = 33) := Lib.hid (by rw [← hDA]; exact dgC_len _)
      have HD3 : Hid (DA.all (·.oneCell') = true) := Lib.hid (by rw [← hDA]; exact dgC_one _)
      rw [hDA] at hD
      have HD := Lib.hid hD
      clear hD hDA e4 hbn
      obtain ⟨c0, c1, c2, c3⟩ : wr.cell? ⟨p, 0, none⟩ = some (.int .i64 4) ∧ wr.cell? ⟨p, 1, none⟩ = some (.slice oa 0 oc) ∧ wr.cell? ⟨p, 2, none⟩ = some (.slice ba 1 bc) ∧ wr.cell? ⟨p, 3, none⟩ = some (.slice ta tn tc) := ⟨P.c rfl, P.c rfl, P.c rfl, P.c rfl⟩
      have HST : ∀ w' : World, Sem.run Tryd.prog (storeCells ⟨w'.heap.size, 0, none⟩ DA.toList) (w'.alloc (.cells #[.int .i64 0, .int .u8 0, .int .u8 0, .int .u8 0, .int .u8 0, .int .u8 0, .int .u8 0, .int .u8 0, .int .u8 0, .int .u8 0, .int .u8 0, .int .u8 0, .int .u8 0, .int .u8 0, .int .u8 0, .int .u8 0, .int .u8 0, .int .u8 0, .int .u8 0, .int .u8 0, .int .u8 0, .int .u8 0, .int .u8 0, .int .u8 0, .int .u8 0, .int .u8 0, .int .u8 0, .int .u8 0, .int .u8 0, .int .u8 0, .int .u8 0, .int .u8 0, .int .u8 0] 52)) = .ok () (w'.alloc (.cells DA 52)) := fun w' => run_storeCells_new w' 52 #[.int .i64 0, .int .u8 0, .int .u8 0, .int .u8 0, .int .u8 0, .int .u8 0, .int .u8 0, .int .u8 0, .int .u8 0, .int .u8 0, .int .u8 0, .int .u8 0, .int .u8 0, .int .u8 0, .int .u8 0, .int .u8 0, .int .u8 0, .int .u8 0, .int .u8 0, .int .u8 0, .int .u8 0, .int .u8 0, .int .u8 0, .int .u8 0, .int .u8 0, .int .u8 0, .int .u8 0, .int .u8 0, .int .u8 0, .int .u8 0, .int .u8 0, .int .u8 0, .int .u8 0] DA (by rw [HD2.out]; exact dig_size) (by rw [HD2.out]; rfl) HD3.out
      go_upto_region 7 with (go_at_call 13; refine HD.out.mono ?_; rintro e w3 ⟨rfl, b3⟩)
      have P4 := (P.past b3).alloc (.cells DA 52)
      have N4 := Bk.new w3 DA 52
      have B4 : Below p w (w3.alloc (.cells DA 52)) := (hB.trans (b3.mono (Nat.le_of_lt hpw))).alloc (by have := b3.size; omega) _
      have n0 : (w3.alloc (.cells DA 52)).cell? ⟨w3.heap.size, 0, none⟩ = some (.int .i64 1) := N4.c HD1.out
      clear HD HST HD1 HD2 HD3
      generalize w3.alloc (.cells DA 52) = w4 at P4 N4 B4 n0 ⊢
      obtain ⟨d1, d2⟩ : w4.cell? ⟨p, 1, none⟩ = some (.slice oa 0 oc) ∧ w4.cell? ⟨p, 2, none⟩ = some (.slice ba 1 bc) := ⟨P4.c rfl, P4.c rfl⟩
      go_wp2_with fail
      go_ret
      exact ⟨rfl, HP.out.symm ▸ B4⟩
end Go.Proofs.YtdmnjjknkcnkgaaDoor
namespace Go.Proofs.YtdmnjjknkcnkgaaDoor
open Go.RowKit
/-- An integer in a cell. -/
def EI : Enc Int where
  sz := 1
  f v := [.int .i64 v]
  len _ := rfl
  one v u hu := by
    simp only [List.mem_cons, List.not_mem_nil, or_false] at hu
    rw [hu]
    rfl
theorem EI_all (l : List Int) : EI.all l = l.map (Value.int .i64) := by
  induction l with
  | nil => rfl
  | cons x l ih => rw [EI.all_cons, ih]; rfl
end Go.Proofs.YtdmnjjknkcnkgaaDoor
