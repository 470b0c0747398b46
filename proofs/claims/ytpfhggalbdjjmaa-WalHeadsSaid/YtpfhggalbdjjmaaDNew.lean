/-
  A new disk; a page is written over.
-/
import Derived.Test.YtpfhggalbdjjmaaDCrash
namespace Go.Proofs.Ytpfhggalbdjjmaa
open Go.RowKit
set_option linter.unusedSimpArgs false

/-- 'make([]T, N)', in a region that draws. -/
theorem wp_make_or {α : Type} {E : Enc α} {P : Program} {zero : α} {w : World} {o : Oper} {a : Act} {K : Act → World → Prop} {Q : Exit → Act → World → Prop} (x c : Operand) (t : TypeId)
    (ho : o.op = Op.makeSlice t x c) (e : TypeId) (hB : RowTy E P t e zero) (kl kc : IntKind) (N : Nat) (hl : a.eval x = .int kl N) (hc : a.eval c = .int kc N) (hN : N ≤ 1000000)
    (hK : ∀ w', OwnR E w' e w.heap.size N N (List.replicate N zero) → Below w.heap.size w w' → w.heap.size < w'.heap.size → K (a.put o.dst (.slice (some ⟨w.heap.size, 0, none⟩) N N)) w') : o.wp P a w K Q := by
  obtain ⟨i, z, hi, hz, hsize, hzc, hby⟩ := hB.info
  obtain ⟨w', hr, hown, hgr⟩ := run_make_full (P := P) w w.heap.size t e i z E.sz hB.ht hi hz hsize kl kc N (Nat.le_trans (Nat.mul_le_mul hby hN) (by omega)) (by simp only [maxLen]; omega) (Nat.le_refl _)
  have hm : (madeCells z.cells (N * E.sz)).toList = E.all (List.replicate N zero) := by
    have hzl : z.cells.size = E.sz := by rw [← Array.length_toList, hzc, E.len]
    apply List.ext_getElem (by simp [madeCells, E.all_length])
    intro q h1 h2
    have hq : q < N * E.sz := by simpa [madeCells] using h1
    have hs : 0 < E.sz := by
      rcases Nat.eq_zero_or_pos E.sz with h | h
      · rw [h] at hq; omega
      · exact h
    have hj := Nat.mod_lt q hs
    have g := E.all_get (List.replicate N zero) (q / E.sz) (q % E.sz) zero (by rw [List.getElem?_replicate, if_pos ((Nat.div_lt_iff_lt_mul hs).2 hq)]) hj
    rw [Nat.div_add_mod' q E.sz, ← hzc, List.getElem?_eq_getElem h2, Array.getElem?_toList, Array.getElem?_eq_getElem (by rw [hzl]; exact hj)] at g
    rw [Option.some.inj g]
    simp [madeCells, hzl, hj]
  rw [hm] at hown
  unfold Oper.wp
  simp [execOp, ho, hl, hc, hr, Result.andThen]
  have hO : OwnR E w' e w.heap.size N N (List.replicate N zero) := by
    rcases hown.2 with ⟨h, _⟩ | ⟨g, cap, cur, hv, _, hg, hnc, hcm, hcs, htake⟩
    · cases h
    · simp only [Value.slice.injEq, Option.some.injEq, Addr.mk.injEq, and_true] at hv
      obtain ⟨rfl, _, rfl⟩ := hv
      exact ⟨by simp, Nat.le_refl _, hcm, cur, hg, hcs, htake⟩
  exact hK w' hO ((Below.refl _ w).grown hgr (Nat.le_refl _) (fun k h => by cases h)) hO.lt

/-- A new disk of n pages. -/
def newD (n : Nat) : Dk := ⟨0, false, List.replicate n [], List.replicate n [], []⟩
set_option maxRecDepth 100000 in
set_option maxHeartbeats 2000000 in
theorem newD_any (n : Nat) (w : World) (h2 : 2 ≤ n) (hn : n ≤ 4096) :
    Calls Try.prog 8 #[.int .i64 n] w fun e w' => ∃ d L K, e = .returned (.tuple #[.pointer (some ⟨d, 0, none⟩), .int .i64 0]) ∧ DkAt w' d L K n none 0 0 (newD n) ∧ Below w.heap.size w w' ∧ w.heap.size ≤ L ∧ w.heap.size ≤ K := by
  have h3 : ¬ (n : Int) < 2 := by omega
  have h4 : ¬ (4096 : Int) < (n : Int) := by omega
  go_enter Try.func8, Try.ntmps8
  go_wp2_with fail
  refine wp_region_held_drew (S := fun _ => True) (by kernel_rfl) trivial (fun hHeld => ?_)
  refine wpAnyH_take (i := 0) (v := ?_) rfl (by kernel_rfl) (by kernel_rfl) (by kernel_rfl) (fun _ _ _ h => h) (Or.inl ⟨by rfl, ?_⟩) hHeld ?_
  rotate_left 1
  focus (intro wq hSw; go_simp; try with_reducible rfl)
  try (simp only [Act.put, List.getElem_toArray, List.getElem_cons_succ, List.getElem_cons_zero, List.setIfInBounds_toArray, List.set_cons_zero, List.set_cons_succ])
  refine wpAnyH_take (i := 2) (v := ?_) rfl (by kernel_rfl) (by kernel_rfl) (by kernel_rfl) (fun _ _ _ h => h) (Or.inl ⟨by rfl, ?_⟩) hHeld ?_
  rotate_left 1
  focus (intro wq hSw; go_simp; try with_reducible rfl)
  try (simp only [Act.put, List.getElem_toArray, List.getElem_cons_succ, List.getElem_cons_zero, List.setIfInBounds_toArray, List.set_cons_zero, List.set_cons_succ])
  refine wpAnyH_ready (rs := [1, 3]) (by kernel_rfl) (by simp) ?_
  refine AllReadyH.cons rfl (fun K hK => ?_) (AllReadyH.cons rfl (fun K hK => ?_) AllReadyH.nil)
  · rw [if_pos (by rfl)]
    refine wp_make_or _ _ 54 rfl 74 pg_ty .i64 .i64 n rfl rfl (by omega) fun w1 h1 bw1 sw1 => ?_
    refine hK.out _ _ trivial (fun hHeld => ?_)
    clear hK K
    try (simp only [Act.put, List.getElem_toArray, List.getElem_cons_succ, List.getElem_cons_zero, List.setIfInBounds_toArray, List.set_cons_zero, List.set_cons_succ])
    refine wpAnyH_ready (rs := [3]) (by kernel_rfl) (by simp) ?_
    refine AllReadyH.cons rfl (fun K hK => ?_) AllReadyH.nil
    rw [if_pos (by rfl)]
    refine wp_make_or _ _ 54 rfl 74 pg_ty .i64 .i64 n rfl rfl (by omega) fun w2 h2' bw2 sw2 => ?_
    refine hK.out _ _ trivial (fun hHeld => ?_)
    clear hK K
    try (simp only [Act.put, List.getElem_toArray, List.getElem_cons_succ, List.getElem_cons_zero, List.setIfInBounds_toArray, List.set_cons_zero, List.set_cons_succ])
    refine wpAnyH_take (i := 4) (v := ?_) rfl (by kernel_rfl) (by kernel_rfl) (by kernel_rfl) (fun _ _ _ h => h) (Or.inl ⟨by rfl, ?_⟩) hHeld ?_
    rotate_left 1
    focus (intro wq hSw; go_simp; try with_reducible rfl)
    try (simp only [Act.put, List.getElem_toArray, List.getElem_cons_succ, List.getElem_cons_zero, List.setIfInBounds_toArray, List.set_cons_zero, List.set_cons_succ])
    refine wpAnyH_ready (rs := [5]) (by kernel_rfl) (by simp) ?_
    refine AllReadyH.cons rfl (fun K hK => ?_) AllReadyH.nil
    go_simp
    refine hK.out _ _ trivial (fun hHeld => ?_)
    clear hK K
    try (simp only [Act.put, List.getElem_toArray, List.getElem_cons_succ, List.getElem_cons_zero, List.setIfInBounds_toArray, List.set_cons_zero, List.set_cons_succ])
    refine wpAnyH_take (i := 6) (v := ?_) rfl (by kernel_rfl) (by kernel_rfl) (by kernel_rfl) (fun _ _ _ h => h) (Or.inl ⟨by rfl, ?_⟩) hHeld ?_
    rotate_left 1
    focus (intro wq hSw; go_simp; try with_reducible rfl)
    try (simp only [Act.put, List.getElem_toArray, List.getElem_cons_succ, List.getElem_cons_zero, List.setIfInBounds_toArray, List.set_cons_zero, List.set_cons_succ])
    refine wpAnyH_take (i := 7) (v := ?_) rfl (by kernel_rfl) (by kernel_rfl) (by kernel_rfl) (fun _ _ _ h => h) (Or.inl ⟨by rfl, ?_⟩) hHeld ?_
    rotate_left 1
    focus (intro wq hSw; go_simp; try with_reducible rfl)
    try (simp only [Act.put, List.getElem_toArray, List.getElem_cons_succ, List.getElem_cons_zero, List.setIfInBounds_toArray, List.set_cons_zero, List.set_cons_succ])
    refine wpAnyH_done (by kernel_rfl) ?_ _
    have hOL : OwnR encPg w2 74 w.drew.heap.size n n (List.replicate n []) := h1.past bw2
    have hOK : OwnR encPg w2 74 w1.heap.size n n (List.replicate n []) := h2'
    have hfin : DkAt (w2.alloc (.cells (dkC 0 false w.drew.heap.size w1.heap.size n none 0 0) 67)) w2.heap.size w.drew.heap.size w1.heap.size n none 0 0 (newD n) :=
      ⟨heap_alloc_new _ _, hOL.alloc _, hOK.alloc _, TxtR.nil _ _ _, by simp at sw1 sw2 ⊢; omega, hOL.lt, hOK.lt, by simp [newD], hn⟩
    have hB : Below w.heap.size w (w2.alloc (.cells (dkC 0 false w.drew.heap.size w1.heap.size n none 0 0) 67)) := ((Below.refl _ _).drew.trans (bw1.trans (bw2.mono (Nat.le_of_lt sw1)))).alloc (by simp at sw1 sw2 ⊢; omega) _
    have HF := Lib.hid hfin
    clear hfin hOL hOK
    go_wp2_with fail
    go_ret2
    exact ⟨_, _, _, rfl, HF.out, hB, by simp at sw1 sw2 ⊢ <;> omega, by simp at sw1 sw2 ⊢ <;> omega⟩
  · rw [if_pos (by rfl)]
    refine wp_make_or _ _ 54 rfl 74 pg_ty .i64 .i64 n rfl rfl (by omega) fun w1 h1 bw1 sw1 => ?_
    refine hK.out _ _ trivial (fun hHeld => ?_)
    clear hK K
    try (simp only [Act.put, List.getElem_toArray, List.getElem_cons_succ, List.getElem_cons_zero, List.setIfInBounds_toArray, List.set_cons_zero, List.set_cons_succ])
    refine wpAnyH_ready (rs := [1]) (by kernel_rfl) (by simp) ?_
    refine AllReadyH.cons rfl (fun K hK => ?_) AllReadyH.nil
    rw [if_pos (by rfl)]
    refine wp_make_or _ _ 54 rfl 74 pg_ty .i64 .i64 n rfl rfl (by omega) fun w2 h2' bw2 sw2 => ?_
    refine hK.out _ _ trivial (fun hHeld => ?_)
    clear hK K
    try (simp only [Act.put, List.getElem_toArray, List.getElem_cons_succ, List.getElem_cons_zero, List.setIfInBounds_toArray, List.set_cons_zero, List.set_cons_succ])
    refine wpAnyH_take (i := 4) (v := ?_) rfl (by kernel_rfl) (by kernel_rfl) (by kernel_rfl) (fun _ _ _ h => h) (Or.inl ⟨by rfl, ?_⟩) hHeld ?_
    rotate_left 1
    focus (intro wq hSw; go_simp; try with_reducible rfl)
    try (simp only [Act.put, List.getElem_toArray, List.getElem_cons_succ, List.getElem_cons_zero, List.setIfInBounds_toArray, List.set_cons_zero, List.set_cons_succ])
    refine wpAnyH_ready (rs := [5]) (by kernel_rfl) (by simp) ?_
    refine AllReadyH.cons rfl (fun K hK => ?_) AllReadyH.nil
    go_simp
    refine hK.out _ _ trivial (fun hHeld => ?_)
    clear hK K
    try (simp only [Act.put, List.getElem_toArray, List.getElem_cons_succ, List.getElem_cons_zero, List.setIfInBounds_toArray, List.set_cons_zero, List.set_cons_succ])
    refine wpAnyH_take (i := 6) (v := ?_) rfl (by kernel_rfl) (by kernel_rfl) (by kernel_rfl) (fun _ _ _ h => h) (Or.inl ⟨by rfl, ?_⟩) hHeld ?_
    rotate_left 1
    focus (intro wq hSw; go_simp; try with_reducible rfl)
    try (simp only [Act.put, List.getElem_toArray, List.getElem_cons_succ, List.getElem_cons_zero, List.setIfInBounds_toArray, List.set_cons_zero, List.set_cons_succ])
    refine wpAnyH_take (i := 7) (v := ?_) rfl (by kernel_rfl) (by kernel_rfl) (by kernel_rfl) (fun _ _ _ h => h) (Or.inl ⟨by rfl, ?_⟩) hHeld ?_
    rotate_left 1
    focus (intro wq hSw; go_simp; try with_reducible rfl)
    try (simp only [Act.put, List.getElem_toArray, List.getElem_cons_succ, List.getElem_cons_zero, List.setIfInBounds_toArray, List.set_cons_zero, List.set_cons_succ])
    refine wpAnyH_done (by kernel_rfl) ?_ _
    have hOL : OwnR encPg w2 74 w1.heap.size n n (List.replicate n []) := h2'
    have hOK : OwnR encPg w2 74 w.drew.heap.size n n (List.replicate n []) := h1.past bw2
    have hfin : DkAt (w2.alloc (.cells (dkC 0 false w1.heap.size w.drew.heap.size n none 0 0) 67)) w2.heap.size w1.heap.size w.drew.heap.size n none 0 0 (newD n) :=
      ⟨heap_alloc_new _ _, hOL.alloc _, hOK.alloc _, TxtR.nil _ _ _, by simp at sw1 sw2 ⊢; omega, hOL.lt, hOK.lt, by simp [newD], hn⟩
    have hB : Below w.heap.size w (w2.alloc (.cells (dkC 0 false w1.heap.size w.drew.heap.size n none 0 0) 67)) := ((Below.refl _ _).drew.trans (bw1.trans (bw2.mono (Nat.le_of_lt sw1)))).alloc (by simp at sw1 sw2 ⊢; omega) _
    have HF := Lib.hid hfin
    clear hfin hOL hOK
    go_wp2_with fail
    go_ret2
    exact ⟨_, _, _, rfl, HF.out, hB, by simp at sw1 sw2 ⊢ <;> omega, by simp at sw1 sw2 ⊢ <;> omega⟩
end Go.Proofs.Ytpfhggalbdjjmaa
