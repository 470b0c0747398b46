/-
  (*wal.Log).Append (by gen_wapp.py).
-/
import Derived.Test.YtpfhggalbdjjmaaWRecP
import Derived.Deep.RegionHeld3
import Derived.Deep.CutRange
namespace Go.Proofs.Ytpfhggalbdjjmaa
open Go.RowKit
set_option linter.unusedSimpArgs false

/-- append, in a region that draws, of bytes to a row of the call's own. -/
theorem wp_append_obr {P : Program} {w : World} {o : Oper} {a : Act} {K : Act → World → Prop} {Q : Exit → Act → World → Prop} (s x : Operand) (t tx : TypeId)
    (ho : o.op = .call { callee := .builtin .append, args := #[s, x], argTypes := #[t, tx] }) (e : TypeId) (hB : ByteTy P t e) (g n cap : Nat) (l : List UInt8) (hsv : a.eval s = .slice (some ⟨g, 0, none⟩) n cap) (h : OwnB w e g n cap l)
    (X : Value) (hx : a.eval x = X) (m : Nat) (cs : List UInt8) (hs : Src P 1 tx X m (bcs cs) w) (N : Nat) (hN : n + m = N) (L : List UInt8) (hL : l ++ cs = L) (hmax : N ≤ 70368744177664)
    (hK : ∀ g' cap' w', OwnB w' e g' N cap' L → Puts w w' g n → (g' = g ∨ w.heap.size ≤ g') → K (a.put o.dst (.slice (some ⟨g', 0, none⟩) N cap')) w') : o.wp P a w K Q := by
  subst hN
  subst hL
  obtain ⟨g', cap', w', hr, h1, h2, h3⟩ := run_append_ob (P := P) w t tx o.type e hB g n cap l h X m cs hs hmax
  unfold Oper.wp execOp
  simp only [ho, resolve, invoke, builtin, Sem.run_bind, Sem.run_pure, Result.andThen_ok, List.map_toArray, List.map_cons, List.map_nil, hsv, hx, hr]
  exact hK _ _ _ h1 h2 h3
/-- The record's block as it is made. -/
def ZeroA (w : World) (ga : Nat) : Prop := w.heap[ga]? = some (.cells #[.pointer none, .int .i64 0, .slice none 0 0, .int .i64 0] 103 (0, 0))
theorem zero_add (w : World) : ZeroA (w.alloc (.cells #[.pointer none, .int .i64 0, .slice none 0 0, .int .i64 0] 103)) w.heap.size := heap_alloc_new w _
theorem ZeroA.lt {w : World} {ga : Nat} (h : ZeroA w ga) : ga < w.heap.size := (Array.getElem?_eq_some_iff.1 h).1
theorem ZeroA.past {w w' : World} {ga : Nat} (h : ZeroA w ga) (b : Below w.heap.size w w') : ZeroA w' ga := (b.block ga h.lt).trans h
theorem ZeroA.puts {w w' : World} {ga g n : Nat} (h : ZeroA w ga) (p : Puts w w' g n) (hn : g ≠ ga) : ZeroA w' ga := (p.block ga h.lt (Ne.symm hn)).trans h
theorem zero_cells {w : World} {ga : Nat} (h : ZeroA w ga) : w.cell? ⟨ga, 0, none⟩ = some (.pointer none) ∧ w.cell? ⟨ga, 1, none⟩ = some (.int .i64 0) ∧ w.cell? ⟨ga, 2, none⟩ = some (.slice none 0 0) ∧ w.cell? ⟨ga, 3, none⟩ = some (.int .i64 0) ∧
    w.frozen? ⟨ga, 0, none⟩ = false ∧ w.frozen? ⟨ga, 1, none⟩ = false ∧ w.frozen? ⟨ga, 2, none⟩ = false ∧ w.frozen? ⟨ga, 3, none⟩ = false :=
  ⟨cell_blk h rfl, cell_blk h rfl, cell_blk h rfl, cell_blk h rfl, free_blk h, free_blk h, free_blk h, free_blk h⟩
theorem set_add {w : World} {ga : Nat} (h : ZeroA w ga) (d : Nat) (z : Int) (bo : Option Addr) (bn bc : Nat) (k : Int) :
    AddAt ((((w.setCell ⟨ga, 0, none⟩ (.pointer (some ⟨d, 0, none⟩))).setCell ⟨ga, 1, none⟩ (.int .i64 z)).setCell ⟨ga, 2, none⟩ (.slice bo bn bc)).setCell ⟨ga, 3, none⟩ (.int .i64 k)) ga d z bo bn bc k :=
  (heap_setCell_same (i := 3) (heap_setCell_same (i := 2) (heap_setCell_same (i := 1) (heap_setCell_same (i := 0) h)))).trans rfl
theorem set_below {w0 w : World} {ga : Nat} (b : Below w0.heap.size w0 w) (hg : w0.heap.size ≤ ga) (v0 v1 v2 v3 : Value) :
    Below w0.heap.size w0 ((((w.setCell ⟨ga, 0, none⟩ v0).setCell ⟨ga, 1, none⟩ v1).setCell ⟨ga, 2, none⟩ v2).setCell ⟨ga, 3, none⟩ v3) :=
  (((b.setCell (p := ⟨ga, 0, none⟩) hg v0).setCell (p := ⟨ga, 1, none⟩) hg v1).setCell (p := ⟨ga, 2, none⟩) hg v2).setCell (p := ⟨ga, 3, none⟩) hg v3
theorem own_far {w : World} {ga g n c : Nat} {l : List UInt8} (o : OwnB w 5 g n c l) (hg : g ≠ ga) (v0 v1 v2 v3 : Value) :
    OwnB ((((w.setCell ⟨ga, 0, none⟩ v0).setCell ⟨ga, 1, none⟩ v1).setCell ⟨ga, 2, none⟩ v2).setCell ⟨ga, 3, none⟩ v3) 5 g n c l :=
  o.kept (by rw [heap_setCell_other _ _ _ _ hg, heap_setCell_other _ _ _ _ hg, heap_setCell_other _ _ _ _ hg, heap_setCell_other _ _ _ _ hg])
/-- The record on its way is made. -/
def MidA (w0 wx : World) (d : Nat) (z k : Int) (m : Nat) (X : List UInt8) (v : Value) : Prop :=
  ∃ ga g6 c6, v = .pointer (some ⟨ga, 0, none⟩) ∧ AddAt wx ga d z (some ⟨g6, 0, none⟩) (8 + m) c6 (k + 1) ∧ OwnB wx 5 g6 (8 + m) c6 X ∧ Below w0.heap.size w0 wx ∧ w0.heap.size ≤ ga ∧ w0.heap.size ≤ g6
/-- The four steps. -/
def FourAt (w : World) (gs ga d : Nat) : Prop := w.heap[gs]? = some (.cells #[.func (.func 33) #[.pointer (some ⟨ga, 0, none⟩)] #[], .func (.func 34) #[.pointer (some ⟨d, 0, none⟩)] #[], .func (.func 35) #[.pointer (some ⟨ga, 0, none⟩)] #[], .func (.func 34) #[.pointer (some ⟨d, 0, none⟩)] #[]] 77 (0, 0))
/-- The disk behind the j-th step of Append, all well. -/
def apS (s : Dk) (p : Nat) (X hd : List UInt8) : Nat → Dk
  | 0 => s
  | 1 => (wrF s p X (List.range (chN X.length))).1
  | 2 => ((wrF s p X (List.range (chN X.length))).1).sync
  | 3 => (((wrF s p X (List.range (chN X.length))).1).sync.put 0 hd).spent
  | _ + 4 => (((wrF s p X (List.range (chN X.length))).1).sync.put 0 hd).spent.sync
/-- WHAT APPEND MAKES OF A DISK, and what it answers. -/
def apRun (s : Dk) (p : Nat) (X hd : List UInt8) : Dk × Int :=
  if 1 ≤ s.left ∧ s.left ≤ chN X.length then ((wrF s p X (List.range s.left.toNat)).1, 15)
  else if s.left - chN X.length = 1 then ({ apS s p X hd 1 with left := 0, gone := true }, 15)
  else if s.left - chN X.length = 2 then (apS s p X hd 3, 15)
  else if s.left - chN X.length = 3 then ({ apS s p X hd 3 with left := 0, gone := true }, 15)
  else (apS s p X hd 4, 0)
/-- APPEND has gone so. -/
def AppIs (w : World) (g d n : Nat) (S : Nat → Prop) (rm z k : Int) (m : Nat) (t : Dk × Int) (en : Ending) (w' : World) : Prop :=
  ∃ S', en = .returned (.int .i64 t.2) ∧ IsD w' d n S' t.1 ∧ Kp w w' (fun q => S q ∨ q = g) ∧ Ext w S S' ∧ LogAt w' g d rm (if t.2 = 0 then z + (8 + m : Nat) else z) (if t.2 = 0 then k + 1 else k)
/-- What stands between the steps. -/
def StepJ (w6 : World) (d n : Nat) (S : Nat → Prop) (s : Dk) (p : Nat) (X hd : List UInt8) (j : Nat) (wr : World) : Prop :=
  ∃ S', IsD wr d n S' (apS s p X hd j) ∧ Ext w6 S S' ∧ Kp w6 wr S ∧ (1 ≤ j → ¬ (1 ≤ s.left ∧ s.left ≤ chN X.length)) ∧ (2 ≤ j → s.left - chN X.length ≠ 1) ∧ (3 ≤ j → s.left - chN X.length ≠ 2) ∧ (4 ≤ j → s.left - chN X.length ≠ 3)
theorem AppIs.of {w w7 wr w' : World} {g d n m : Nat} {S S' : Nat → Prop} {rm z k : Int} {t : Dk × Int} {x : Int} {s' : Dk} (BW : Below w.heap.size w w7) (kW : Kp w7 wr S) (eW : Ext w7 S S') {S2 : Nat → Prop} (D : IsD w' d n S2 s') (k2 : Kp wr w' S') (e2 : Ext wr S' S2) (L : LogAt w7 g d rm z k) (hgS : ¬ S g)
    (ht : t = (s', x)) (hx : x ≠ 0) : AppIs w g d n S rm z k m t (.returned (.int .i64 x)) w' := by
  subst ht
  have hs7 := BW.size
  have hsr := kW.size
  have KW : Kp w7 w' S := kW.trans k2 (fun q hq h => by rcases eW q h with h | h; exact h; omega)
  refine ⟨S2, rfl, D, ((Kp.ofBelow BW S).trans KW (fun _ _ q => q)).mono (fun q _ h => .inl h), fun q hq => ?_, ?_⟩
  · rcases e2 q hq with h | h
    · rcases eW q h with h | h
      · exact .inl h
      · exact .inr (Nat.le_trans hs7 h)
    · exact .inr (Nat.le_trans hs7 (Nat.le_trans hsr h))
  · show LogAt _ _ _ _ (if x = 0 then _ else _) (if x = 0 then _ else _)
    rw [if_neg hx, if_neg hx]
    exact L.kp KW hgS
theorem step_on {w7 wr w9 : World} {S S' S9 : Nat → Prop} (kW : Kp w7 wr S) (eW : Ext w7 S S') (k9 : Kp wr w9 S') (e9 : Ext wr S' S9) : Ext w7 S S9 ∧ Kp w7 w9 S := by
  have hs := kW.size
  refine ⟨fun q hq => ?_, kW.trans k9 (fun q hq h => by rcases eW q h with h | h; exact h; omega)⟩
  rcases e9 q hq with h | h
  · exact eW q h
  · exact .inr (Nat.le_trans hs h)
section
variable {w : World} {g d n m c : Nat} {rm z k : Int} {ao : Option Addr} {lb : List UInt8} {S : Nat → Prop} {s : Dk}
set_option maxRecDepth 100000 in
set_option maxHeartbeats 2000000 in
theorem append_gen (zz : Nat) (X : List UInt8) (p : Nat) (L : LogAt w g d rm zz k) (hz : zz ≤ 300000) (hk : 0 ≤ k ∧ k ≤ 1000000) (hb : IsB w ao m c lb) (hm : m ≤ 65536) (hrm : 8 + (m : Int) ≤ rm - zz) (hrm2 : rm ≤ 300000)
    (hD : IsD w d n S s) (hn2 : 2 ≤ n) (hgS : ¬ S g) (hg : s.gone = false) (hlf : -400000 ≤ s.left ∧ s.left ≤ 400000) (hpd : s.pend.length ≤ 40000) (hX : chN X.length ≤ 2000)
    (HRec : ∀ (w : World) (S : Nat → Prop) (a : Nat) (bo : Option Addr) (bc : Nat) (k : Int), AddAt w a d zz bo (8 + m) bc k → IsB w bo (8 + m) bc (le 8 (XU (m : Int)) ++ lb) → IsD w d n S s → ¬ S a → Calls Try.prog 33 #[.pointer (some ⟨a, 0, none⟩)] w (RecIs w d n S s p X)) :
    Calls Try.prog 14 #[.pointer (some ⟨g, 0, none⟩), .slice ao m c] w (AppIs w g d n S rm zz k m (apRun s p X (headB (zz + (8 + m : Nat)) (k + 1)))) := by
  obtain ⟨HD, hHD⟩ : ∃ HD, headB ((zz : Int) + (8 + m : Nat)) (k + 1) = HD := ⟨_, rfl⟩
  rw [hHD]
  have HHD := Lib.hid hHD
  clear hHD
  obtain ⟨z, hzz⟩ : ∃ z : Int, (zz : Int) = z := ⟨_, rfl⟩
  rw [hzz] at L hrm ⊢
  have HZ := Lib.hid hzz
  have hz2 : 0 ≤ z ∧ z ≤ 300000 := by omega
  have hz2' : 0 ≤ z ∧ z ≤ 1000000 := by omega
  have HHD2 : Hid (headB (z + ((8 + m : Nat) : Int)) (k + 1) = HD) := by unfold Hid; rw [← HZ.out]; exact HHD.out
  clear hzz
  obtain ⟨T, hT⟩ : ∃ T, apRun s p X HD = T := ⟨_, rfl⟩
  rw [hT]
  have HT := Lib.hid hT
  clear hT
  have c0 := L.c0
  have c1 := L.c1
  have c2 := L.c2
  have hm1 : ¬ (65536 < (m : Int)) := by omega
  have hw1 : wrap64 (8 + (m : Int)) = 8 + m := IntWalk.wrap64_in _ (by omega)
  have hw2 : wrap64 (rm - z) = rm - z := IntWalk.wrap64_in _ (by omega)
  have hle : ¬ (rm - z < 8 + (m : Int)) := by omega
  go_enter Try.func14, Try.ntmps14
  go_wp2_with fail
  go_quiet (fail)
  have B0 : Below w.heap.size w (w.drewN nq) := below_drewN (Below.refl _ _) nq
  have L0 := L.past B0
  replace hb := hb.past B0
  generalize w.drewN nq = w0 at B0 L0 hb ⊢
  have hk64 : -9223372036854775808 ≤ k ∧ k ≤ 9223372036854775807 := by omega
  clear c0 c1 c2 hw1 hw2 hle L
  have hkw : IntKind.i64.wrap (k + 1) = k + 1 := IntWalk.i64_in _ (by omega)
  have hkw2 : wrap64 (k + 1) = k + 1 := IntWalk.wrap64_in _ (by omega)
  go_upto_region 5 with fail
  go_cut [5] from 25 (fun v wx => MidA w0 wx d z k m (le 8 (XU (m : Int)) ++ lb) v)
  case first =>
    refine wp_region_held_drew (S := fun w' => Below w0.heap.size w0 w') (by kernel_rfl) ((Below.refl _ _).drew) (fun hHeld => ?_)
    refine wpAnyH_take (i := 0) (v := ?_) rfl (by kernel_rfl) (by kernel_rfl) (by kernel_rfl) (fun _ _ _ h => h) (Or.inl ⟨by rfl, ?_⟩) hHeld ?_
    rotate_left 1
    focus (intro wq hSw; go_simp; try with_reducible rfl)
    try (simp only [Act.put, List.getElem_toArray, List.getElem_cons_succ, List.getElem_cons_zero, List.setIfInBounds_toArray, List.set_cons_zero, List.set_cons_succ])
    refine wpAnyH_take (i := 1) (v := ?_) rfl (by kernel_rfl) (by kernel_rfl) (by kernel_rfl) (fun _ _ _ h => h) (Or.inl ⟨by rfl, ?_⟩) hHeld ?_
    rotate_left 1
    focus (intro wq hSw; go_simp; try with_reducible rfl)
    try (simp only [Act.put, List.getElem_toArray, List.getElem_cons_succ, List.getElem_cons_zero, List.setIfInBounds_toArray, List.set_cons_zero, List.set_cons_succ])
    refine wpAnyH_take (i := 2) (v := ?_) rfl (by kernel_rfl) (by kernel_rfl) (by kernel_rfl) (fun _ _ _ h => h) (Or.inl ⟨by rfl, ?_⟩) hHeld ?_
    rotate_left 1
    focus (intro wq hSw; go_simp; try with_reducible rfl)
    try (simp only [Act.put, List.getElem_toArray, List.getElem_cons_succ, List.getElem_cons_zero, List.setIfInBounds_toArray, List.set_cons_zero, List.set_cons_succ])
    refine wpAnyH_take (i := 3) (v := ?_) rfl (by kernel_rfl) (by kernel_rfl) (by kernel_rfl) (fun _ _ _ h => h) (Or.inl ⟨by rfl, ?_⟩) hHeld ?_
    rotate_left 1
    focus (intro wq hSw; have hcv := (L0.past hSw).c0; go_simp; try with_reducible rfl)
    try (simp only [Act.put, List.getElem_toArray, List.getElem_cons_succ, List.getElem_cons_zero, List.setIfInBounds_toArray, List.set_cons_zero, List.set_cons_succ])
    refine wpAnyH_take (i := 4) (v := ?_) rfl (by kernel_rfl) (by kernel_rfl) (by kernel_rfl) (fun _ _ _ h => h) (Or.inl ⟨by rfl, ?_⟩) hHeld ?_
    rotate_left 1
    focus (intro wq hSw; go_simp; try with_reducible rfl)
    try (simp only [Act.put, List.getElem_toArray, List.getElem_cons_succ, List.getElem_cons_zero, List.setIfInBounds_toArray, List.set_cons_zero, List.set_cons_succ])
    refine wpAnyH_take (i := 5) (v := ?_) rfl (by kernel_rfl) (by kernel_rfl) (by kernel_rfl) (fun _ _ _ h => h) (Or.inl ⟨by rfl, ?_⟩) hHeld ?_
    rotate_left 1
    focus (intro wq hSw; go_simp; try with_reducible rfl)
    try (simp only [Act.put, List.getElem_toArray, List.getElem_cons_succ, List.getElem_cons_zero, List.setIfInBounds_toArray, List.set_cons_zero, List.set_cons_succ])
    refine wpAnyH_take (i := 6) (v := ?_) rfl (by kernel_rfl) (by kernel_rfl) (by kernel_rfl) (fun _ _ _ h => h) (Or.inl ⟨by rfl, ?_⟩) hHeld ?_
    rotate_left 1
    focus (intro wq hSw; go_simp; try with_reducible rfl)
    try (simp only [Act.put, List.getElem_toArray, List.getElem_cons_succ, List.getElem_cons_zero, List.setIfInBounds_toArray, List.set_cons_zero, List.set_cons_succ])
    refine wpAnyH_take (i := 7) (v := ?_) rfl (by kernel_rfl) (by kernel_rfl) (by kernel_rfl) (fun _ _ _ h => h) (Or.inl ⟨by rfl, ?_⟩) hHeld ?_
    rotate_left 1
    focus (intro wq hSw; have hcv := (L0.past hSw).c2; go_simp; try with_reducible rfl)
    try (simp only [Act.put, List.getElem_toArray, List.getElem_cons_succ, List.getElem_cons_zero, List.setIfInBounds_toArray, List.set_cons_zero, List.set_cons_succ])
    refine wpAnyH_take (i := 8) (v := ?_) rfl (by kernel_rfl) (by kernel_rfl) (by kernel_rfl) (fun _ _ _ h => h) (Or.inl ⟨by rfl, ?_⟩) hHeld ?_
    rotate_left 1
    focus (intro wq hSw; go_simp; try with_reducible rfl)
    try (simp only [Act.put, List.getElem_toArray, List.getElem_cons_succ, List.getElem_cons_zero, List.setIfInBounds_toArray, List.set_cons_zero, List.set_cons_succ])
    refine wpAnyH_take (i := 9) (v := ?_) rfl (by kernel_rfl) (by kernel_rfl) (by kernel_rfl) (fun _ _ _ h => h) (Or.inl ⟨by rfl, ?_⟩) hHeld ?_
    rotate_left 1
    focus (intro wq hSw; go_simp; try with_reducible rfl)
    try (simp only [Act.put, List.getElem_toArray, List.getElem_cons_succ, List.getElem_cons_zero, List.setIfInBounds_toArray, List.set_cons_zero, List.set_cons_succ])
    refine wpAnyH_take (i := 11) (v := ?_) rfl (by kernel_rfl) (by kernel_rfl) (by kernel_rfl) (fun _ _ _ h => h) (Or.inl ⟨by rfl, ?_⟩) hHeld ?_
    rotate_left 1
    focus (intro wq hSw; go_simp; try with_reducible rfl)
    try (simp only [Act.put, List.getElem_toArray, List.getElem_cons_succ, List.getElem_cons_zero, List.setIfInBounds_toArray, List.set_cons_zero, List.set_cons_succ])
    refine wpAnyH_take (i := 13) (v := ?_) rfl (by kernel_rfl) (by kernel_rfl) (by kernel_rfl) (fun _ _ _ h => h) (Or.inl ⟨by rfl, ?_⟩) hHeld ?_
    rotate_left 1
    focus (intro wq hSw; go_simp; try with_reducible rfl)
    try (simp only [Act.put, List.getElem_toArray, List.getElem_cons_succ, List.getElem_cons_zero, List.setIfInBounds_toArray, List.set_cons_zero, List.set_cons_succ])
    have Bw1 : Below w0.heap.size w0 w0.drew := (Below.refl _ _).drew
    generalize w0.drew = w1 at Bw1 ⊢
    refine wpAnyH_ready (rs := [10, 17]) (by kernel_rfl) (by simp) ?_
    refine AllReadyH.cons rfl (fun K hK => ?_) (AllReadyH.cons rfl (fun K hK => ?_) AllReadyH.nil)
    · go_simp
      go_at_call 32
      (with_reducible refine (int_nil _ w1).mono ?_)
      rintro en w4 ⟨g4, c4, rfl, o4, b4, q4⟩
      have Bw4 := Bw1.trans (b4.mono Bw1.size)
      have q4' : w0.heap.size ≤ g4 := Nat.le_trans Bw1.size q4
      refine hK.out _ _ Bw4 (fun hHeld => ?_)
      clear hK K
      try (simp only [Act.put, List.getElem_toArray, List.getElem_cons_succ, List.getElem_cons_zero, List.setIfInBounds_toArray, List.set_cons_zero, List.set_cons_succ])
      refine wpAnyH_ready (rs := [12, 17]) (by kernel_rfl) (by simp) ?_
      refine AllReadyH.cons rfl (fun K hK => ?_) (AllReadyH.cons rfl (fun K hK => ?_) AllReadyH.nil)
      · rw [if_pos (by rfl)]
        have ib := hb.past Bw4
        refine wp_append_obr (.tmp 35) (.tmp 36) 31 31 rfl 5 byteTy g4 8 c4 _ rfl o4 _ rfl m lb (ib.src byteTy.ht) (8 + m) rfl _ rfl (by omega) fun g6 c6 w6 o6 p6 q6 => ?_
        have b6 := p6.below q4' Bw4.size
        have q6' : w0.heap.size ≤ g6 := by
          rcases q6 with rfl | h
          · exact q4'
          · exact Nat.le_trans Bw4.size h
        have Bw6 := Bw4.trans b6
        refine hK.out _ _ Bw6 (fun hHeld => ?_)
        clear hK K
        try (simp only [Act.put, List.getElem_toArray, List.getElem_cons_succ, List.getElem_cons_zero, List.setIfInBounds_toArray, List.set_cons_zero, List.set_cons_succ])
        refine wpAnyH_ready (rs := [14, 17]) (by kernel_rfl) (by simp) ?_
        refine AllReadyH.cons rfl (fun K hK => ?_) (AllReadyH.cons rfl (fun K hK => ?_) AllReadyH.nil)
        · go_simp
          go_at_call 17
          (with_reducible refine (count_any w6 g d rm z k (L0.past Bw6) hk64).mono ?_)
          rintro en w7 ⟨rfl, rfl⟩
          refine hK.out _ _ Bw6 (fun hHeld => ?_)
          clear hK K
          try (simp only [Act.put, List.getElem_toArray, List.getElem_cons_succ, List.getElem_cons_zero, List.setIfInBounds_toArray, List.set_cons_zero, List.set_cons_succ])
          refine wpAnyH_take (i := 15) (v := ?_) rfl (by kernel_rfl) (by kernel_rfl) (by kernel_rfl) (fun _ _ _ h => h) (Or.inl ⟨by rfl, ?_⟩) hHeld ?_
          rotate_left 1
          focus (intro wq hSw; go_simp; try with_reducible rfl)
          try (simp only [Act.put, List.getElem_toArray, List.getElem_cons_succ, List.getElem_cons_zero, List.setIfInBounds_toArray, List.set_cons_zero, List.set_cons_succ])
          refine wpAnyH_take (i := 16) (v := ?_) rfl (by kernel_rfl) (by kernel_rfl) (by kernel_rfl) (fun _ _ _ h => h) (Or.inl ⟨by rfl, ?_⟩) hHeld ?_
          rotate_left 1
          focus (intro wq hSw; go_simp; try with_reducible rfl)
          try (simp only [Act.put, List.getElem_toArray, List.getElem_cons_succ, List.getElem_cons_zero, List.setIfInBounds_toArray, List.set_cons_zero, List.set_cons_succ])
          refine wpAnyH_ready (rs := [17]) (by kernel_rfl) (by simp) ?_
          refine AllReadyH.cons rfl (fun K hK => ?_) AllReadyH.nil
          go_simp
          have Z0 := zero_add w6
          have qZ : w0.heap.size ≤ w6.heap.size := Bw6.size
          have Bw8 := Bw6.alloc Bw6.size (.cells #[.pointer none, .int .i64 0, .slice none 0 0, .int .i64 0] 103)
          refine hK.out _ _ Bw8 (fun hHeld => ?_)
          clear hK K
          try (simp only [Act.put, List.getElem_toArray, List.getElem_cons_succ, List.getElem_cons_zero, List.setIfInBounds_toArray, List.set_cons_zero, List.set_cons_succ])
          have hlo := o6.lt
          replace o6 := o6.alloc (.cells #[.pointer none, .int .i64 0, .slice none 0 0, .int .i64 0] 103)
          generalize hga : w6.heap.size = ga at Z0 qZ hlo ⊢
          generalize (w6.alloc (.cells #[.pointer none, .int .i64 0, .slice none 0 0, .int .i64 0] 103)) = w8 at Z0 Bw8 o6 ⊢
          have HGA := Lib.hid hga
          clear hga
          obtain ⟨z0, z1, z2, z3, y0, y1, y2, y3⟩ := zero_cells Z0
          refine wpAnyH_ready (rs := [18]) (by kernel_rfl) (by simp) ?_
          refine AllReadyH.cons rfl (fun K hK => ?_) AllReadyH.nil
          go_simp
          have BS := set_below Bw8 (show w0.heap.size ≤ ga from qZ) (.pointer (some ⟨d, 0, none⟩)) (.int .i64 z) (.slice (some ⟨g6, 0, none⟩) (8 + m) c6) (.int .i64 (k + 1))
          have AS := set_add Z0 d z (some ⟨g6, 0, none⟩) (8 + m) c6 (k + 1)
          have oS := own_far o6 (show g6 ≠ ga by omega) (.pointer (some ⟨d, 0, none⟩)) (.int .i64 z) (.slice (some ⟨g6, 0, none⟩) (8 + m) c6) (.int .i64 (k + 1))
          refine hK.out _ _ BS (fun hHeld => ?_)
          clear hK K
          try (simp only [Act.put, List.getElem_toArray, List.getElem_cons_succ, List.getElem_cons_zero, List.setIfInBounds_toArray, List.set_cons_zero, List.set_cons_succ])
          refine wpAnyH_done (by kernel_rfl) ?_ _
          go_wp2_with fail
          go_meet
          exact ⟨ga, g6, c6, rfl, AS, oS, BS, qZ, q6'⟩
        · go_simp
          have Z0 := zero_add w6
          have qZ : w0.heap.size ≤ w6.heap.size := Bw6.size
          have Bw8 := Bw6.alloc Bw6.size (.cells #[.pointer none, .int .i64 0, .slice none 0 0, .int .i64 0] 103)
          refine hK.out _ _ Bw8 (fun hHeld => ?_)
          clear hK K
          try (simp only [Act.put, List.getElem_toArray, List.getElem_cons_succ, List.getElem_cons_zero, List.setIfInBounds_toArray, List.set_cons_zero, List.set_cons_succ])
          have hlo := o6.lt
          replace o6 := o6.alloc (.cells #[.pointer none, .int .i64 0, .slice none 0 0, .int .i64 0] 103)
          generalize hga : w6.heap.size = ga at Z0 qZ hlo ⊢
          generalize (w6.alloc (.cells #[.pointer none, .int .i64 0, .slice none 0 0, .int .i64 0] 103)) = w8 at Z0 Bw8 o6 ⊢
          have HGA := Lib.hid hga
          clear hga
          refine wpAnyH_ready (rs := [14]) (by kernel_rfl) (by simp) ?_
          refine AllReadyH.cons rfl (fun K hK => ?_) AllReadyH.nil
          go_simp
          go_at_call 17
          (with_reducible refine (count_any w8 g d rm z k (L0.past Bw8) hk64).mono ?_)
          rintro en w7 ⟨rfl, rfl⟩
          refine hK.out _ _ Bw8 (fun hHeld => ?_)
          clear hK K
          try (simp only [Act.put, List.getElem_toArray, List.getElem_cons_succ, List.getElem_cons_zero, List.setIfInBounds_toArray, List.set_cons_zero, List.set_cons_succ])
          refine wpAnyH_take (i := 15) (v := ?_) rfl (by kernel_rfl) (by kernel_rfl) (by kernel_rfl) (fun _ _ _ h => h) (Or.inl ⟨by rfl, ?_⟩) hHeld ?_
          rotate_left 1
          focus (intro wq hSw; go_simp; try with_reducible rfl)
          try (simp only [Act.put, List.getElem_toArray, List.getElem_cons_succ, List.getElem_cons_zero, List.setIfInBounds_toArray, List.set_cons_zero, List.set_cons_succ])
          refine wpAnyH_take (i := 16) (v := ?_) rfl (by kernel_rfl) (by kernel_rfl) (by kernel_rfl) (fun _ _ _ h => h) (Or.inl ⟨by rfl, ?_⟩) hHeld ?_
          rotate_left 1
          focus (intro wq hSw; go_simp; try with_reducible rfl)
          try (simp only [Act.put, List.getElem_toArray, List.getElem_cons_succ, List.getElem_cons_zero, List.setIfInBounds_toArray, List.set_cons_zero, List.set_cons_succ])
          obtain ⟨z0, z1, z2, z3, y0, y1, y2, y3⟩ := zero_cells Z0
          refine wpAnyH_ready (rs := [18]) (by kernel_rfl) (by simp) ?_
          refine AllReadyH.cons rfl (fun K hK => ?_) AllReadyH.nil
          go_simp
          have BS := set_below Bw8 (show w0.heap.size ≤ ga from qZ) (.pointer (some ⟨d, 0, none⟩)) (.int .i64 z) (.slice (some ⟨g6, 0, none⟩) (8 + m) c6) (.int .i64 (k + 1))
          have AS := set_add Z0 d z (some ⟨g6, 0, none⟩) (8 + m) c6 (k + 1)
          have oS := own_far o6 (show g6 ≠ ga by omega) (.pointer (some ⟨d, 0, none⟩)) (.int .i64 z) (.slice (some ⟨g6, 0, none⟩) (8 + m) c6) (.int .i64 (k + 1))
          refine hK.out _ _ BS (fun hHeld => ?_)
          clear hK K
          try (simp only [Act.put, List.getElem_toArray, List.getElem_cons_succ, List.getElem_cons_zero, List.setIfInBounds_toArray, List.set_cons_zero, List.set_cons_succ])
          refine wpAnyH_done (by kernel_rfl) ?_ _
          go_wp2_with fail
          go_meet
          exact ⟨ga, g6, c6, rfl, AS, oS, BS, qZ, q6'⟩
      · go_simp
        have Z0 := zero_add w4
        have qZ : w0.heap.size ≤ w4.heap.size := Bw4.size
        have Bw5 := Bw4.alloc Bw4.size (.cells #[.pointer none, .int .i64 0, .slice none 0 0, .int .i64 0] 103)
        refine hK.out _ _ Bw5 (fun hHeld => ?_)
        clear hK K
        try (simp only [Act.put, List.getElem_toArray, List.getElem_cons_succ, List.getElem_cons_zero, List.setIfInBounds_toArray, List.set_cons_zero, List.set_cons_succ])
        have hlo := o4.lt
        replace o4 := o4.alloc (.cells #[.pointer none, .int .i64 0, .slice none 0 0, .int .i64 0] 103)
        generalize hga : w4.heap.size = ga at Z0 qZ hlo ⊢
        generalize (w4.alloc (.cells #[.pointer none, .int .i64 0, .slice none 0 0, .int .i64 0] 103)) = w5 at Z0 Bw5 o4 ⊢
        have HGA := Lib.hid hga
        clear hga
        have hne : g4 ≠ ga := by omega
        refine wpAnyH_ready (rs := [12]) (by kernel_rfl) (by simp) ?_
        refine AllReadyH.cons rfl (fun K hK => ?_) AllReadyH.nil
        rw [if_pos (by rfl)]
        have ib := hb.past Bw5
        refine wp_append_obr (.tmp 35) (.tmp 36) 31 31 rfl 5 byteTy g4 8 c4 _ rfl o4 _ rfl m lb (ib.src byteTy.ht) (8 + m) rfl _ rfl (by omega) fun g6 c6 w6 o6 p6 q6 => ?_
        have b6 := p6.below q4' Bw5.size
        have q6' : w0.heap.size ≤ g6 := by
          rcases q6 with rfl | h
          · exact q4'
          · exact Nat.le_trans Bw5.size h
        have Bw6 := Bw5.trans b6
        have hne6 : g6 ≠ ga := by
          rcases q6 with rfl | q6
          · exact hne
          · have := Z0.lt; omega
        replace Z0 := Z0.puts p6 hne
        refine hK.out _ _ Bw6 (fun hHeld => ?_)
        clear hK K
        try (simp only [Act.put, List.getElem_toArray, List.getElem_cons_succ, List.getElem_cons_zero, List.setIfInBounds_toArray, List.set_cons_zero, List.set_cons_succ])
        refine wpAnyH_ready (rs := [14]) (by kernel_rfl) (by simp) ?_
        refine AllReadyH.cons rfl (fun K hK => ?_) AllReadyH.nil
        go_simp
        go_at_call 17
        (with_reducible refine (count_any w6 g d rm z k (L0.past Bw6) hk64).mono ?_)
        rintro en w7 ⟨rfl, rfl⟩
        refine hK.out _ _ Bw6 (fun hHeld => ?_)
        clear hK K
        try (simp only [Act.put, List.getElem_toArray, List.getElem_cons_succ, List.getElem_cons_zero, List.setIfInBounds_toArray, List.set_cons_zero, List.set_cons_succ])
        refine wpAnyH_take (i := 15) (v := ?_) rfl (by kernel_rfl) (by kernel_rfl) (by kernel_rfl) (fun _ _ _ h => h) (Or.inl ⟨by rfl, ?_⟩) hHeld ?_
        rotate_left 1
        focus (intro wq hSw; go_simp; try with_reducible rfl)
        try (simp only [Act.put, List.getElem_toArray, List.getElem_cons_succ, List.getElem_cons_zero, List.setIfInBounds_toArray, List.set_cons_zero, List.set_cons_succ])
        refine wpAnyH_take (i := 16) (v := ?_) rfl (by kernel_rfl) (by kernel_rfl) (by kernel_rfl) (fun _ _ _ h => h) (Or.inl ⟨by rfl, ?_⟩) hHeld ?_
        rotate_left 1
        focus (intro wq hSw; go_simp; try with_reducible rfl)
        try (simp only [Act.put, List.getElem_toArray, List.getElem_cons_succ, List.getElem_cons_zero, List.setIfInBounds_toArray, List.set_cons_zero, List.set_cons_succ])
        obtain ⟨z0, z1, z2, z3, y0, y1, y2, y3⟩ := zero_cells Z0
        refine wpAnyH_ready (rs := [18]) (by kernel_rfl) (by simp) ?_
        refine AllReadyH.cons rfl (fun K hK => ?_) AllReadyH.nil
        go_simp
        have BS := set_below Bw6 (show w0.heap.size ≤ ga from qZ) (.pointer (some ⟨d, 0, none⟩)) (.int .i64 z) (.slice (some ⟨g6, 0, none⟩) (8 + m) c6) (.int .i64 (k + 1))
        have AS := set_add Z0 d z (some ⟨g6, 0, none⟩) (8 + m) c6 (k + 1)
        have oS := own_far o6 hne6 (.pointer (some ⟨d, 0, none⟩)) (.int .i64 z) (.slice (some ⟨g6, 0, none⟩) (8 + m) c6) (.int .i64 (k + 1))
        refine hK.out _ _ BS (fun hHeld => ?_)
        clear hK K
        try (simp only [Act.put, List.getElem_toArray, List.getElem_cons_succ, List.getElem_cons_zero, List.setIfInBounds_toArray, List.set_cons_zero, List.set_cons_succ])
        refine wpAnyH_done (by kernel_rfl) ?_ _
        go_wp2_with fail
        go_meet
        exact ⟨ga, g6, c6, rfl, AS, oS, BS, qZ, q6'⟩
    · go_simp
      have Z0 := zero_add w1
      have qZ : w0.heap.size ≤ w1.heap.size := Bw1.size
      have Bw2 := Bw1.alloc Bw1.size (.cells #[.pointer none, .int .i64 0, .slice none 0 0, .int .i64 0] 103)
      refine hK.out _ _ Bw2 (fun hHeld => ?_)
      clear hK K
      try (simp only [Act.put, List.getElem_toArray, List.getElem_cons_succ, List.getElem_cons_zero, List.setIfInBounds_toArray, List.set_cons_zero, List.set_cons_succ])
      generalize hga : w1.heap.size = ga at Z0 qZ ⊢
      generalize (w1.alloc (.cells #[.pointer none, .int .i64 0, .slice none 0 0, .int .i64 0] 103)) = w2 at Z0 Bw2 ⊢
      have HGA := Lib.hid hga
      clear hga
      refine wpAnyH_ready (rs := [10]) (by kernel_rfl) (by simp) ?_
      refine AllReadyH.cons rfl (fun K hK => ?_) AllReadyH.nil
      go_simp
      go_at_call 32
      (with_reducible refine (int_nil _ w2).mono ?_)
      rintro en w4 ⟨g4, c4, rfl, o4, b4, q4⟩
      have Bw4 := Bw2.trans (b4.mono Bw2.size)
      have q4' : w0.heap.size ≤ g4 := Nat.le_trans Bw2.size q4
      have hne : g4 ≠ ga := by have := Z0.lt; omega
      replace Z0 := Z0.past b4
      refine hK.out _ _ Bw4 (fun hHeld => ?_)
      clear hK K
      try (simp only [Act.put, List.getElem_toArray, List.getElem_cons_succ, List.getElem_cons_zero, List.setIfInBounds_toArray, List.set_cons_zero, List.set_cons_succ])
      refine wpAnyH_ready (rs := [12]) (by kernel_rfl) (by simp) ?_
      refine AllReadyH.cons rfl (fun K hK => ?_) AllReadyH.nil
      rw [if_pos (by rfl)]
      have ib := hb.past Bw4
      refine wp_append_obr (.tmp 35) (.tmp 36) 31 31 rfl 5 byteTy g4 8 c4 _ rfl o4 _ rfl m lb (ib.src byteTy.ht) (8 + m) rfl _ rfl (by omega) fun g6 c6 w6 o6 p6 q6 => ?_
      have b6 := p6.below q4' Bw4.size
      have q6' : w0.heap.size ≤ g6 := by
        rcases q6 with rfl | h
        · exact q4'
        · exact Nat.le_trans Bw4.size h
      have Bw6 := Bw4.trans b6
      have hne6 : g6 ≠ ga := by
        rcases q6 with rfl | q6
        · exact hne
        · have := Z0.lt; omega
      replace Z0 := Z0.puts p6 hne
      refine hK.out _ _ Bw6 (fun hHeld => ?_)
      clear hK K
      try (simp only [Act.put, List.getElem_toArray, List.getElem_cons_succ, List.getElem_cons_zero, List.setIfInBounds_toArray, List.set_cons_zero, List.set_cons_succ])
      refine wpAnyH_ready (rs := [14]) (by kernel_rfl) (by simp) ?_
      refine AllReadyH.cons rfl (fun K hK => ?_) AllReadyH.nil
      go_simp
      go_at_call 17
      (with_reducible refine (count_any w6 g d rm z k (L0.past Bw6) hk64).mono ?_)
      rintro en w7 ⟨rfl, rfl⟩
      refine hK.out _ _ Bw6 (fun hHeld => ?_)
      clear hK K
      try (simp only [Act.put, List.getElem_toArray, List.getElem_cons_succ, List.getElem_cons_zero, List.setIfInBounds_toArray, List.set_cons_zero, List.set_cons_succ])
      refine wpAnyH_take (i := 15) (v := ?_) rfl (by kernel_rfl) (by kernel_rfl) (by kernel_rfl) (fun _ _ _ h => h) (Or.inl ⟨by rfl, ?_⟩) hHeld ?_
      rotate_left 1
      focus (intro wq hSw; go_simp; try with_reducible rfl)
      try (simp only [Act.put, List.getElem_toArray, List.getElem_cons_succ, List.getElem_cons_zero, List.setIfInBounds_toArray, List.set_cons_zero, List.set_cons_succ])
      refine wpAnyH_take (i := 16) (v := ?_) rfl (by kernel_rfl) (by kernel_rfl) (by kernel_rfl) (fun _ _ _ h => h) (Or.inl ⟨by rfl, ?_⟩) hHeld ?_
      rotate_left 1
      focus (intro wq hSw; go_simp; try with_reducible rfl)
      try (simp only [Act.put, List.getElem_toArray, List.getElem_cons_succ, List.getElem_cons_zero, List.setIfInBounds_toArray, List.set_cons_zero, List.set_cons_succ])
      obtain ⟨z0, z1, z2, z3, y0, y1, y2, y3⟩ := zero_cells Z0
      refine wpAnyH_ready (rs := [18]) (by kernel_rfl) (by simp) ?_
      refine AllReadyH.cons rfl (fun K hK => ?_) AllReadyH.nil
      go_simp
      have BS := set_below Bw6 (show w0.heap.size ≤ ga from qZ) (.pointer (some ⟨d, 0, none⟩)) (.int .i64 z) (.slice (some ⟨g6, 0, none⟩) (8 + m) c6) (.int .i64 (k + 1))
      have AS := set_add Z0 d z (some ⟨g6, 0, none⟩) (8 + m) c6 (k + 1)
      have oS := own_far o6 hne6 (.pointer (some ⟨d, 0, none⟩)) (.int .i64 z) (.slice (some ⟨g6, 0, none⟩) (8 + m) c6) (.int .i64 (k + 1))
      refine hK.out _ _ BS (fun hHeld => ?_)
      clear hK K
      try (simp only [Act.put, List.getElem_toArray, List.getElem_cons_succ, List.getElem_cons_zero, List.setIfInBounds_toArray, List.set_cons_zero, List.set_cons_succ])
      refine wpAnyH_done (by kernel_rfl) ?_ _
      go_wp2_with fail
      go_meet
      exact ⟨ga, g6, c6, rfl, AS, oS, BS, qZ, q6'⟩
  case rest =>
    obtain ⟨ga, g6, c6, rfl, A6, o6, B6, q6, qg6⟩ := hcut
    have L6 := L0.past B6
    have hb6 : OwnB wc 5 g6 (8 + m) c6 (le 8 (XU (m : Int)) ++ lb) := o6
    clear hb
    go_upto_region 6 with fail
    generalize hwc : wc = w6 at A6 o6 hb6 B6 L6 ⊢
    clear hwc
    have D6 : IsD w6 d n S s := (hD.past B0).past B6
    have hmf : ∀ (fn : Fn) (first cap : Array Value) (w : World), (Instr.makeFunc fn first cap).run Try.prog w = .ok (.func fn first cap) w := fun _ _ _ _ => rfl
    refine wp_region_held_drew (S := fun w' => Below w6.heap.size w6 w') (by kernel_rfl) ((Below.refl _ _).drew) (fun hHeld => ?_)
    refine wpAnyH_take (i := 0) (v := ?_) rfl (by kernel_rfl) (by kernel_rfl) (by kernel_rfl) (fun _ _ _ h => h) (Or.inl ⟨by rfl, ?_⟩) hHeld ?_
    rotate_left 1
    focus (intro wq hSw; go_simp; try with_reducible rfl)
    try (simp only [Act.put, List.getElem_toArray, List.getElem_cons_succ, List.getElem_cons_zero, List.setIfInBounds_toArray, List.set_cons_zero, List.set_cons_succ])
    refine wpAnyH_take (i := 1) (v := ?_) rfl (by kernel_rfl) (by kernel_rfl) (by kernel_rfl) (fun _ _ _ h => h) (Or.inl ⟨by rfl, ?_⟩) hHeld ?_
    rotate_left 1
    focus (intro wq hSw; go_simp; try with_reducible rfl)
    try (simp only [Act.put, List.getElem_toArray, List.getElem_cons_succ, List.getElem_cons_zero, List.setIfInBounds_toArray, List.set_cons_zero, List.set_cons_succ])
    refine wpAnyH_take (i := 2) (v := ?_) rfl (by kernel_rfl) (by kernel_rfl) (by kernel_rfl) (fun _ _ _ h => h) (Or.inl ⟨by rfl, ?_⟩) hHeld ?_
    rotate_left 1
    focus (intro wq hSw; go_simp; try with_reducible rfl)
    try (simp only [Act.put, List.getElem_toArray, List.getElem_cons_succ, List.getElem_cons_zero, List.setIfInBounds_toArray, List.set_cons_zero, List.set_cons_succ])
    refine wpAnyH_take (i := 3) (v := ?_) rfl (by kernel_rfl) (by kernel_rfl) (by kernel_rfl) (fun _ _ _ h => h) (Or.inl ⟨by rfl, ?_⟩) hHeld ?_
    rotate_left 1
    focus (intro wq hSw; go_simp; try with_reducible rfl)
    try (simp only [Act.put, List.getElem_toArray, List.getElem_cons_succ, List.getElem_cons_zero, List.setIfInBounds_toArray, List.set_cons_zero, List.set_cons_succ])
    refine wpAnyH_take (i := 4) (v := ?_) rfl (by kernel_rfl) (by kernel_rfl) (by kernel_rfl) (fun _ _ _ h => h) (Or.inl ⟨by rfl, ?_⟩) hHeld ?_
    rotate_left 1
    focus (intro wq hSw; have hcv := (L6.past hSw).c0; go_simp; try with_reducible rfl)
    try (simp only [Act.put, List.getElem_toArray, List.getElem_cons_succ, List.getElem_cons_zero, List.setIfInBounds_toArray, List.set_cons_zero, List.set_cons_succ])
    refine wpAnyH_take (i := 5) (v := ?_) rfl (by kernel_rfl) (by kernel_rfl) (by kernel_rfl) (fun _ _ _ h => h) (Or.inl ⟨by rfl, ?_⟩) hHeld ?_
    rotate_left 1
    focus (intro wq hSw; go_simp; try with_reducible rfl)
    try (simp only [Act.put, List.getElem_toArray, List.getElem_cons_succ, List.getElem_cons_zero, List.setIfInBounds_toArray, List.set_cons_zero, List.set_cons_succ])
    refine wpAnyH_take (i := 6) (v := ?_) rfl (by kernel_rfl) (by kernel_rfl) (by kernel_rfl) (fun _ _ _ h => h) (Or.inl ⟨by rfl, ?_⟩) hHeld ?_
    rotate_left 1
    focus (intro wq hSw; go_simp; try with_reducible rfl)
    try (simp only [Act.put, List.getElem_toArray, List.getElem_cons_succ, List.getElem_cons_zero, List.setIfInBounds_toArray, List.set_cons_zero, List.set_cons_succ])
    refine wpAnyH_take (i := 7) (v := ?_) rfl (by kernel_rfl) (by kernel_rfl) (by kernel_rfl) (fun _ _ _ h => h) (Or.inl ⟨by rfl, ?_⟩) hHeld ?_
    rotate_left 1
    focus (intro wq hSw; go_simp; try with_reducible rfl)
    try (simp only [Act.put, List.getElem_toArray, List.getElem_cons_succ, List.getElem_cons_zero, List.setIfInBounds_toArray, List.set_cons_zero, List.set_cons_succ])
    refine wpAnyH_take (i := 8) (v := ?_) rfl (by kernel_rfl) (by kernel_rfl) (by kernel_rfl) (fun _ _ _ h => h) (Or.inl ⟨by rfl, ?_⟩) hHeld ?_
    rotate_left 1
    focus (intro wq hSw; go_simp; try with_reducible rfl)
    try (simp only [Act.put, List.getElem_toArray, List.getElem_cons_succ, List.getElem_cons_zero, List.setIfInBounds_toArray, List.set_cons_zero, List.set_cons_succ])
    refine wpAnyH_take (i := 9) (v := ?_) rfl (by kernel_rfl) (by kernel_rfl) (by kernel_rfl) (fun _ _ _ h => h) (Or.inl ⟨by rfl, ?_⟩) hHeld ?_
    rotate_left 1
    focus (intro wq hSw; go_simp; try with_reducible rfl)
    try (simp only [Act.put, List.getElem_toArray, List.getElem_cons_succ, List.getElem_cons_zero, List.setIfInBounds_toArray, List.set_cons_zero, List.set_cons_succ])
    refine wpAnyH_take (i := 10) (v := ?_) rfl (by kernel_rfl) (by kernel_rfl) (by kernel_rfl) (fun _ _ _ h => h) (Or.inl ⟨by rfl, ?_⟩) hHeld ?_
    rotate_left 1
    focus (intro wq hSw; have hcv := (L6.past hSw).c0; go_simp; try with_reducible rfl)
    try (simp only [Act.put, List.getElem_toArray, List.getElem_cons_succ, List.getElem_cons_zero, List.setIfInBounds_toArray, List.set_cons_zero, List.set_cons_succ])
    refine wpAnyH_take (i := 11) (v := ?_) rfl (by kernel_rfl) (by kernel_rfl) (by kernel_rfl) (fun _ _ _ h => h) (Or.inl ⟨by rfl, ?_⟩) hHeld ?_
    rotate_left 1
    focus (intro wq hSw; go_simp; try with_reducible rfl)
    try (simp only [Act.put, List.getElem_toArray, List.getElem_cons_succ, List.getElem_cons_zero, List.setIfInBounds_toArray, List.set_cons_zero, List.set_cons_succ])
    refine wpAnyH_take (i := 14) (v := ?_) rfl (by kernel_rfl) (by kernel_rfl) (by kernel_rfl) (fun _ _ _ h => h) (Or.inl ⟨by rfl, ?_⟩) hHeld ?_
    rotate_left 1
    focus (intro wq hSw; go_simp; try with_reducible rfl)
    try (simp only [Act.put, List.getElem_toArray, List.getElem_cons_succ, List.getElem_cons_zero, List.setIfInBounds_toArray, List.set_cons_zero, List.set_cons_succ])
    have Bd : Below w6.heap.size w6 w6.drew := (Below.refl _ _).drew
    refine wpAnyH_ready (rs := [12]) (by kernel_rfl) (by simp) ?_
    refine AllReadyH.cons rfl (fun K hK => ?_) AllReadyH.nil
    go_simp
    have B7 := ((Below.refl w6.heap.size w6).alloc (Nat.le_refl _) (.cells #[.func (.func 33) #[.pointer (some ⟨ga, 0, none⟩)] #[], .func (.func 34) #[.pointer (some ⟨d, 0, none⟩)] #[], .func (.func 35) #[.pointer (some ⟨ga, 0, none⟩)] #[], .func (.func 34) #[.pointer (some ⟨d, 0, none⟩)] #[]] 77)).drew
    have F7 : FourAt (w6.alloc (.cells #[.func (.func 33) #[.pointer (some ⟨ga, 0, none⟩)] #[], .func (.func 34) #[.pointer (some ⟨d, 0, none⟩)] #[], .func (.func 35) #[.pointer (some ⟨ga, 0, none⟩)] #[], .func (.func 34) #[.pointer (some ⟨d, 0, none⟩)] #[]] 77)).drew w6.heap.size ga d := heap_alloc_new w6 _
    refine hK.out _ _ B7 (fun hHeld => ?_)
    clear hK K
    try (simp only [Act.put, List.getElem_toArray, List.getElem_cons_succ, List.getElem_cons_zero, List.setIfInBounds_toArray, List.set_cons_zero, List.set_cons_succ])
    refine wpAnyH_take (i := 13) (v := ?_) rfl (by kernel_rfl) (by kernel_rfl) (by kernel_rfl) (fun _ _ _ h => h) (Or.inl ⟨by rfl, ?_⟩) hHeld ?_
    rotate_left 1
    focus (intro wq hSw; go_simp; try with_reducible rfl)
    try (simp only [Act.put, List.getElem_toArray, List.getElem_cons_succ, List.getElem_cons_zero, List.setIfInBounds_toArray, List.set_cons_zero, List.set_cons_succ])
    refine wpAnyH_done (by kernel_rfl) ?_ _
    have A7 := A6.past B7
    have L7 := L6.past B7
    have o7 := o6.below B7 o6.lt
    have D7 := D6.past B7
    generalize (w6.alloc (.cells #[.func (.func 33) #[.pointer (some ⟨ga, 0, none⟩)] #[], .func (.func 34) #[.pointer (some ⟨d, 0, none⟩)] #[], .func (.func 35) #[.pointer (some ⟨ga, 0, none⟩)] #[], .func (.func 34) #[.pointer (some ⟨d, 0, none⟩)] #[]] 77)).drew = w7 at B7 F7 A7 L7 o7 D7 ⊢
    generalize hgs : w6.heap.size = gs at F7 ⊢
    have HGS := Lib.hid hgs
    clear hgs
    go_wp2_with fail
    have hwS : ∀ q, S q → q < w.heap.size := hD.lt
    have hgaS : ¬ S ga := fun q => by have := hwS ga q; have := B0.size; omega
    have hgsS : ¬ S gs := fun q => by have := hwS gs q; have := B0.size; have := B6.size; have := HGS.out; omega
    have hg6S : ¬ S g6 := fun q => by have := hwS g6 q; have := B0.size; omega
    have BW : Below w.heap.size w w7 := (B0.trans (B6.mono B0.size)).trans (B7.mono (by have := B0.size; have := B6.size; omega))
    go_loopw [56] (fun i wr => ∃ j : Nat, j ≤ 4 ∧ i = .int .i64 (j : Nat) ∧ StepJ w7 d n S s p X HD j wr) (fun i _ => 4 - (intOf i).toNat)
    case atStart => exact ⟨0, by omega, rfl, S, D7, fun q hq => .inl hq, Kp.refl _ _, by omega, by omega, by omega, by omega⟩
    case round =>
      obtain ⟨j, hj, rfl, S', DW, eW, kW, l1, l2, l3, l4⟩ := hrel
      have far : ∀ q, ¬ S q → q < w7.heap.size → ¬ S' q := fun q h1 h2 h => by rcases eW q h with h | h; exact h1 h; omega
      have F8 : FourAt wr gs ga d := (kW.block gs (Array.getElem?_eq_some_iff.1 F7).1 hgsS).trans F7
      have A8 := A7.kp kW hgaS
      have o8 := o7.kp kW hg6S
      have hfga : ¬ S' ga := far ga hgaS A7.lt
      have hleft : ¬ (1 ≤ s.left ∧ s.left ≤ chN X.length) → (apS s p X HD 1).left = s.left - chN X.length ∧ (apS s p X HD 1).gone = false := fun h => by
        have := wrF_left s X p (List.range (chN X.length)) (by rw [List.length_range]; exact h)
        rw [List.length_range] at this
        exact ⟨this.1, this.2.trans hg⟩
      have hpend : (apS s p X HD 1).pend.length = s.pend.length + chN X.length := by
        have := wrF_pend s X p (List.range (chN X.length))
        rw [List.length_range] at this
        exact this
      rcases (show j = 0 ∨ j = 1 ∨ j = 2 ∨ j = 3 ∨ j = 4 by omega) with rfl | rfl | rfl | rfl | rfl
      · have cF : wr.cell? ⟨gs, 0, none⟩ = some (.func (.func 33) #[.pointer (some ⟨ga, 0, none⟩)] #[]) := cell_blk F8 rfl
        have HR := HRec wr S' ga _ c6 (k + 1) (by rw [HZ.out]; exact A8) o8.isB DW hfga
        by_cases hN : 1 ≤ s.left ∧ s.left ≤ chN X.length
        · have HR2 := HR.mono (R' := WentD wr d n S' 15 (wrF s p X (List.range s.left.toNat)).1) (by
            rintro en w9 ⟨m9, x9, hm9, hw, ⟨rfl, rfl, h⟩ | ⟨rfl, h1, h2⟩⟩
            · exact absurd hN h
            · obtain rfl : s.left.toNat = m9 := by omega
              exact hw)
          have hT2 : T = ((wrF s p X (List.range s.left.toNat)).1, 15) := by rw [← HT.out, apRun, if_pos hN]
          have HT2 := Lib.hid hT2
          clear hT2 HR hleft hpend l1 l2 l3 l4
          go_wp2_with (go_at_call 33; refine HR2.mono ?_; rintro en w9 ⟨S9, rfl, D9, k9, e9⟩)
          go_ret
          exact AppIs.of BW kW eW D9 k9 e9 L7 hgS HT2.out (by decide)
        · have HR2 := HR.mono (R' := WentD wr d n S' 0 (apS s p X HD 1)) (by
            rintro en w9 ⟨m9, x9, hm9, hw, ⟨rfl, rfl, h⟩ | ⟨rfl, h1, h2⟩⟩
            · exact hw
            · exact absurd ⟨h1, by omega⟩ hN)
          clear HR hleft hpend l1 l2 l3 l4
          go_wp2_with (go_at_call 33; refine HR2.mono ?_; rintro en w9 ⟨S9, rfl, D9, k9, e9⟩)
          obtain ⟨e7, k7⟩ := step_on kW eW k9 e9
          go_roundw
          case rel => exact ⟨1, by omega, by go_num, S9, D9, e7, k7, fun _ => hN, by omega, by omega, by omega⟩
          case measure => simp [intOf]
      · have cF : wr.cell? ⟨gs, 1, none⟩ = some (.func (.func 34) #[.pointer (some ⟨d, 0, none⟩)] #[]) := cell_blk F8 rfl
        have hN := l1 (by omega)
        obtain ⟨hlf1, hg1⟩ := hleft hN
        by_cases h1 : s.left - chN X.length = 1
        · have HS := sync_last_is DW hg1 (by rw [hlf1]; exact h1)
          have hT2 : T = ({ apS s p X HD 1 with left := 0, gone := true }, 15) := by rw [← HT.out, apRun, if_neg hN, if_pos h1]
          have HT2 := Lib.hid hT2
          clear hT2 hleft hpend l1 l2 l3 l4 hlf1 hg1
          go_wp2_with (go_at_call 34; refine HS.mono ?_; rintro en w9 ⟨S9, rfl, D9, k9, e9⟩)
          go_ret
          exact AppIs.of BW kW eW D9 k9 e9 L7 hgS HT2.out (by decide)
        · have HS := sync_is DW hg1 (room_of (by rw [hlf1]; omega) (by rw [hlf1]; omega)) (by rw [hlf1]; exact h1) (by rw [hpend]; omega)
          clear hleft hpend l1 l2 l3 l4 hlf1 hg1
          go_wp2_with (go_at_call 34; refine HS.mono ?_; rintro en w9 ⟨S9, rfl, D9, k9, e9⟩)
          obtain ⟨e7, k7⟩ := step_on kW eW k9 e9
          go_roundw
          case rel => exact ⟨2, by omega, by go_num, S9, D9, e7, k7, fun _ => hN, fun _ => h1, by omega, by omega⟩
          case measure => simp [intOf]
      · have cF : wr.cell? ⟨gs, 2, none⟩ = some (.func (.func 35) #[.pointer (some ⟨ga, 0, none⟩)] #[]) := cell_blk F8 rfl
        have hN := l1 (by omega)
        have h1 := l2 (by omega)
        obtain ⟨hlf1, hg1⟩ := hleft hN
        have hlf2 : (apS s p X HD 2).left = s.left - chN X.length - 1 := by show (apS s p X HD 1).left - 1 = _; rw [hlf1]
        have HW := writeHead_any A8 hz2' (by omega) DW hn2 hfga hg1 (room_of (by rw [hlf2]; omega) (by rw [hlf2]; omega)) (Nat.zero_le _)
        rw [show headB (z + ((8 + m : Nat) : Int)) (k + 1) = HD from HHD2.out] at HW
        by_cases h2 : s.left - chN X.length = 2
        · rw [code_last (by rw [hlf2]; omega)] at HW
          have hT2 : T = (apS s p X HD 3, 15) := by rw [← HT.out, apRun, if_neg hN, if_neg h1, if_pos h2]
          have HT2 := Lib.hid hT2
          clear hT2 hleft hpend l1 l2 l3 l4 hlf1 hlf2 hg1
          go_wp2_with (go_at_call 35; refine HW.mono ?_; rintro en w9 ⟨S9, rfl, D9, k9, e9⟩)
          go_ret
          exact AppIs.of BW kW eW D9 k9 e9 L7 hgS HT2.out (by decide)
        · rw [code_more (by rw [hlf2]; omega)] at HW
          clear hleft hpend l1 l2 l3 l4 hlf1 hlf2 hg1
          go_wp2_with (go_at_call 35; refine HW.mono ?_; rintro en w9 ⟨S9, rfl, D9, k9, e9⟩)
          obtain ⟨e7, k7⟩ := step_on kW eW k9 e9
          go_roundw
          case rel => exact ⟨3, by omega, by go_num, S9, D9, e7, k7, fun _ => hN, fun _ => h1, fun _ => h2, by omega⟩
          case measure => simp [intOf]
      · have cF : wr.cell? ⟨gs, 3, none⟩ = some (.func (.func 34) #[.pointer (some ⟨d, 0, none⟩)] #[]) := cell_blk F8 rfl
        have hN := l1 (by omega)
        have h1 := l2 (by omega)
        have h2 := l3 (by omega)
        obtain ⟨hlf1, hg1⟩ := hleft hN
        have hsp : ((apS s p X HD 2).put 0 HD).left ≠ 1 := by show (apS s p X HD 1).left - 1 ≠ 1; rw [hlf1]; omega
        have hlf3 : (apS s p X HD 3).left = s.left - chN X.length - 2 := by
          show ((apS s p X HD 2).put 0 HD).spent.left = _
          rw [spent_more hsp]
          show (apS s p X HD 1).left - 1 - 1 = _
          rw [hlf1]
          omega
        have hg3 : (apS s p X HD 3).gone = false := by
          show ((apS s p X HD 2).put 0 HD).spent.gone = _
          rw [spent_more hsp]
          exact hg1
        have hp3 : (apS s p X HD 3).pend.length ≤ 1 := by
          show ((apS s p X HD 2).put 0 HD).spent.pend.length ≤ 1
          rw [spent_more hsp]
          exact Nat.le_refl _
        by_cases h3 : s.left - chN X.length = 3
        · have HS := sync_last_is DW hg3 (by rw [hlf3]; omega)
          have hT2 : T = ({ apS s p X HD 3 with left := 0, gone := true }, 15) := by rw [← HT.out, apRun, if_neg hN, if_neg h1, if_neg h2, if_pos h3]
          have HT2 := Lib.hid hT2
          clear hT2 hleft hpend l1 l2 l3 l4 hlf1 hg1 hlf3 hg3 hp3 hsp
          go_wp2_with (go_at_call 34; refine HS.mono ?_; rintro en w9 ⟨S9, rfl, D9, k9, e9⟩)
          go_ret
          exact AppIs.of BW kW eW D9 k9 e9 L7 hgS HT2.out (by decide)
        · have HS := sync_is DW hg3 (room_of (by rw [hlf3]; omega) (by rw [hlf3]; omega)) (by rw [hlf3]; omega) (by omega)
          clear hleft hpend l1 l2 l3 l4 hlf1 hg1 hlf3 hg3 hp3 hsp
          go_wp2_with (go_at_call 34; refine HS.mono ?_; rintro en w9 ⟨S9, rfl, D9, k9, e9⟩)
          obtain ⟨e7, k7⟩ := step_on kW eW k9 e9
          go_roundw
          case rel => exact ⟨4, by omega, by go_num, S9, D9, e7, k7, fun _ => hN, fun _ => h1, fun _ => h2, fun _ => h3⟩
          case measure => simp [intOf]
      · have hN := l1 (by omega)
        have h1 := l2 (by omega)
        have h2 := l3 (by omega)
        have h3 := l4 (by omega)
        have hT2 : T = (apS s p X HD 4, 0) := by rw [← HT.out, apRun, if_neg hN, if_neg h1, if_neg h2, if_neg h3]
        have HT2 := Lib.hid hT2
        have hfg := far g hgS L7.lt
        have L8 := L7.kp kW hgS
        have hgga : ga ≠ g := by have := L0.lt; omega
        clear hT2 HT hleft hpend l1 l2 l3 l4 hN h1 h2 h3 F8 o8
        have HE := end_any A8 hz2' (show 8 + m ≤ 1000000 by omega)
        go_wp2_with (go_at_call 36; refine HE.mono ?_; rintro en w9 ⟨rfl, b9⟩; have L9 := L8.past b9; have c29 := L9.c2; have f29 := L9.free 2)
        have L10 := L9.size (z + (8 + (m : Int)))
        have A10 := (A8.past b9).kp (Kp.set (S := fun q => q = g) w9 g 2 (.int .i64 (z + (8 + (m : Int)))) rfl) (fun e => hgga e)
        have k10 : Kp wr (w9.setCell ⟨g, 2, none⟩ (.int .i64 (z + (8 + (m : Int))))) (fun q => q = g) := (Kp.ofBelow b9 _).trans (Kp.set (S := fun q => q = g) w9 g 2 (.int .i64 (z + (8 + (m : Int)))) rfl) (fun _ _ q => q)
        generalize (w9.setCell ⟨g, 2, none⟩ (.int .i64 (z + (8 + (m : Int))))) = w10 at L10 A10 k10 ⊢
        have c3a := A10.c3
        go_still_tail 5, (by kernel_rfl)
        repeat still_step
        change wpList _ _ _ _ _ w10.drew
        have L11 := L10.past (Below.refl _ _).drew
        have k11 : Kp wr w10.drew (fun q => q = g) := k10.trans (Kp.drew w10 (fun q => q = g)) (fun _ _ q => q)
        clear L10 A10 k10 c3a c29 f29 L9 HE
        generalize w10.drew = w11 at L11 k11 ⊢
        have L12 := L11.count (k + 1)
        have k12 := k11.trans (Kp.set (S := fun q => q = g) w11 g 3 (.int .i64 (k + 1)) rfl) (fun _ _ q => q)
        go_wp2_with (go_at_call 31; refine (store_int ⟨g, 3, none⟩ _ _ _ L11.c3 (L11.free 3)).mono ?_; rintro e w' ⟨rfl, rfl⟩)
        go_ret
        have D12 := DW.kp k12 (fun q hq e => hfg (by rw [← e]; exact hq))
        refine ⟨S', by rw [HT2.out]; rfl, by rw [HT2.out]; exact D12, ?_, fun q hq => ?_, ?_⟩
        · have kk := (((Kp.ofBelow BW (fun q => S q ∨ q = g)).trans (kW.mono (fun q _ h => .inl h)) (fun _ _ q => q)).trans (k12.mono (fun q _ h => .inr h)) (fun _ _ q => q))
          exact kk
        · rcases eW q hq with h | h
          · exact .inl h
          · exact .inr (Nat.le_trans BW.size h)
        · rw [HT2.out]
          show LogAt _ _ _ _ (if (0 : Int) = 0 then _ else _) (if (0 : Int) = 0 then _ else _)
          rw [if_pos rfl, if_pos rfl]
          exact L12
end
end Go.Proofs.Ytpfhggalbdjjmaa
