/-
  A page is written.
-/
import Derived.Test.YtpfhggalbdjjmaaDTake
import Derived.Test.YtpfhggalbdjjmaaBlk
namespace Go.Proofs.Ytpfhggalbdjjmaa
open Go.RowKit
set_option linter.unusedSimpArgs false

theorem wr_zero : (Try.prog.info? 76).map (fun i => i.zero) = some (some (.agg (wrC (0, [])).toArray)) := by kernel_rfl
theorem wr_size : (Try.prog.info? 76).map (·.size) = some 65 := by kernel_rfl
theorem wr_info : (Try.prog.info? 76).map (fun i => (i.zero, i.size, i.bytes)) = some (some (.agg (wrC (0, [])).toArray), 65, 72) := by kernel_rfl
theorem wr_built (p : Nat) : Try.prog.built 76 [(0, .int .i64 (p : Int))] = some (wrC (p, [])).toArray := by kernel_rfl
theorem wr_agg (w : World) : (isAgg 76).run Try.prog w = .ok true w := by kernel_rfl
theorem wr_all (x : Nat × List UInt8) : (wrC x).toArray.all (·.oneCell') = true := by
  rw [Array.all_eq_true_iff_forall_mem]
  intro v hv
  exact wrC_one x v (by simpa using hv)
theorem wr_ty : RowTy encWr Try.prog 65 76 (0, []) := by
  obtain ⟨i, h1, h2, h3, h4⟩ := info_parts wr_info
  exact ⟨Try.underlying65, i, _, h1, h2, h3, rfl, by omega⟩
theorem pg_info : (Try.prog.info? 74).map (fun i => (i.zero, i.size, i.bytes)) = some (some (.agg (bcs (pad [])).toArray), 64, 64) := by kernel_rfl
theorem pg_ty : RowTy encPg Try.prog 54 74 [] := by
  obtain ⟨i, h1, h2, h3, h4⟩ := info_parts pg_info
  exact ⟨Try.underlying54, i, _, h1, h2, h3, rfl, by omega⟩
/-- Block g holds the Write x. -/
structure WAt (w : World) (g : Nat) (x : Nat × List UInt8) : Prop where
  blk : w.heap[g]? = some (.cells (wrC x).toArray 76 (0, 0))
section
variable {w w' : World} {g : Nat} {x : Nat × List UInt8}
theorem WAt.lt (h : WAt w g x) : g < w.heap.size := (Array.getElem?_eq_some_iff.1 h.blk).1
theorem WAt.past (h : WAt w g x) (b : Below w.heap.size w w') : WAt w' g x := ⟨(b.block g h.lt).trans h.blk⟩
theorem WAt.grown {row : Option Nat} (h : WAt w g x) (hg : w.grownBy w' row) (hne : some g ≠ row) : WAt w' g x := ⟨(hg.block g h.lt hne).trans h.blk⟩
theorem WAt.cells (h : WAt w g x) : ∀ j v, (wrC x)[j]? = some v → w.cell? ((⟨g, 0, none⟩ : Addr).add j) = some v := fun j v hv => by
  rw [Addr.add_lit, Nat.zero_add, cell_of_row w g j _ _ (0, 0) h.blk, List.getElem?_toArray, hv]
theorem WAt.c0 (h : WAt w g x) : w.cell? ⟨g, 0, none⟩ = some (.int .i64 x.1) := by
  rw [cell_of_row w g 0 _ _ (0, 0) h.blk]
  rfl
theorem WAt.at_ (h : WAt w g x) : AtA w ⟨g, 1, none⟩ (pad x.2) := fun j u hu => by
  rw [Addr.add_lit, cell_of_row w g _ _ _ (0, 0) h.blk, List.getElem?_toArray, Nat.add_comm]
  show (bcs (pad x.2))[j]? = _
  rw [bcs_get, hu]
  rfl
end
/-- copy into the Write that lies in block g. -/
theorem wpList_copy_wr {w : World} {g p : Nat} {x : List UInt8} {ops : Array Oper} {rest : List Oper} {o : Oper} {a : Act} {Q : Exit → Act → World → Prop} (hgd : o.guard = none) (d s : Operand) (ho : o.op = .call { callee := .builtin .copy, args := #[d, s], argTypes := #[31, 31] })
    (hd : a.eval d = .slice (some ⟨g, 1, none⟩) 64 64) (hg : WAt w g (p, x)) (ao : Option Addr) (m mc : Nat) (b : List UInt8) (hs : a.eval s = .slice ao m mc) (hb : IsB w ao m mc b) (hm : m ≤ 64)
    (h : ∀ w', WAt w' g (p, b ++ (pad x).drop b.length) → w.grownBy w' (some g) → wpList Try.prog ops Q rest (a.put o.dst (.int .i64 m)) w') : wpList Try.prog ops Q (o :: rest) a w := by
  have hbl := hb.len
  refine wpList_plain hgd fun K hK => wp_copy_at d s _ _ ho 5 byteTy.ht sizeU8 g 1 64 64 hd _ _ hg.blk ao m mc b hs hb m (by omega) (by rw [List.size_toArray, wrC_length]; omega) fun w' h1 h2 => hK _ _ (h w' ⟨?_⟩ h2)
  rw [show b.take m = b from List.take_of_length_le (by omega)] at h1
  rw [h1]
  congr 2
  have hpl : (b ++ (pad x).drop b.length).length = 64 := by rw [List.length_append, List.length_drop, pad_length]; omega
  show _ = (wrC (p, b ++ (pad x).drop b.length)).toArray
  unfold wrC
  rw [pad_of hpl, bcs_append, Nat.add_comm, List.drop_succ_cons, hbl]
  simp [bcs]
theorem wr_inf : ∃ i z, Try.prog.info? 76 = some i ∧ i.zero = some z ∧ i.size = 65 := by
  obtain ⟨i, h1, h2, h3, _⟩ := info_parts wr_info
  exact ⟨i, _, h1, h2, h3⟩
section
variable {w w' : World} {d L K n : Nat} {ao : Option Addr} {m c : Nat} {s : Dk}
theorem DkAt.putLast (h : DkAt w d L K n ao m c s) (l : List (List UInt8)) (hl : OwnR encPg w' 74 L n n l) (g : w.grownBy w' (some L)) : DkAt w' d L K n ao m c { s with last := l } := by
  have h1 := h.Ld
  exact ⟨(g.block d h.lt (fun e => by cases e; omega)).trans h.blk, hl, h.kept.grown g (fun e => h.LK (by cases e; rfl)), h.pend.kept fun z hz => g.block z (h.pend.lt z hz) (fun e => by cases e; have := h.pend.ge _ hz; omega), h.LK, h.Ld, h.Kd, h.pages, h.small⟩
theorem DkAt.putKept (h : DkAt w d L K n ao m c s) (l : List (List UInt8)) (hl : OwnR encPg w' 74 K n n l) (g : w.grownBy w' (some K)) : DkAt w' d L K n ao m c { s with kept := l } := by
  have h1 := h.Kd
  exact ⟨(g.block d h.lt (fun e => by cases e; omega)).trans h.blk, h.last.grown g (fun e => h.LK (by cases e; rfl)), hl, h.pend.kept fun z hz => g.block z (h.pend.lt z hz) (fun e => by cases e; have := h.pend.ge _ hz; omega), h.LK, h.Ld, h.Kd, h.pages, h.small⟩
theorem DkAt.putPend (h : DkAt w d L K n ao m c s) (ao' : Option Addr) (m' c' : Nat) (l : List (Nat × List UInt8)) (hl : TxtR encWr w' 76 (d + 1) ao' m' c' l) (g : w.grownBy w' (Go.Proofs.Ytpfhggalbdjjmaa.blk ao)) (hp : ∀ x ∈ l, x.1 < n) :
    DkAt (w'.setCell ⟨d, 4, none⟩ (.slice ao' m' c')) d L K n ao' m' c' { s with pend := l } := by
  have h1 := h.Ld
  have h2 := h.Kd
  have hd : w'.heap[d]? = some (.cells (dkC s.left s.gone L K n ao m c) 67 (0, 0)) := (g.block d h.lt (fun e => by have := h.pend.ge d e.symm; omega)).trans h.blk
  refine ⟨?_, ?_, ?_, hl.kept fun z hz => ?_, h.LK, h1, h2, hp, h.small⟩
  · rw [heap_setCell_same w' d 4 _ _ _ hd]
    rfl
  · exact h.last.kept ((heap_setCell_other w' _ L _ (by simp; omega)).trans (g.block L h.last.lt (fun e => by have := h.pend.ge L e.symm; omega)))
  · exact h.kept.kept ((heap_setCell_other w' _ K _ (by simp; omega)).trans (g.block K h.kept.lt (fun e => by have := h.pend.ge K e.symm; omega)))
  · have := hl.ge z hz
    exact heap_setCell_other w' _ z _ (by simp; omega)
end
/-- What a Write does, but for the power. -/
def Dk.put (s : Dk) (p : Nat) (b : List UInt8) : Dk := { s with last := s.last.set p (pad b), pend := s.pend ++ [(p, pad b)] }
theorem mix_pad {b : List UInt8} (h : b.length ≤ 64) : b ++ (pad []).drop b.length = pad b := by
  rw [pad_short h, show pad [] = List.replicate 64 0 from rfl, List.drop_replicate]
section
variable {w : World} {d L K n : Nat} {ao : Option Addr} {m c : Nat} {s : Dk}
set_option maxRecDepth 100000 in
set_option maxHeartbeats 2000000 in
theorem write_at (h : DkAt w d L K n ao m c s) (hg : s.gone = false) (hr : Room s) (hm : m ≤ 100000) (p : Nat) (hp : p < n) (bo : Option Addr) (bn bc' : Nat) (b : List UInt8) (hb : IsB w bo bn bc' b) (hbn : bn ≤ 64) :
    Calls Try.prog 10 #[.pointer (some ⟨d, 0, none⟩), .int .i64 p, .slice bo bn bc'] w fun e w' => ∃ ao' m' c', e = .returned (.int .i64 s.code) ∧ DkAt w' d L K n ao' m' c' (s.put p b).spent ∧
      Kp w w' (ownD d L K ao) ∧ Ext w (ownD d L K ao) (ownD d L K ao') := by
  have HG := Lib.hid hg
  have h0 := h
  clear hg
  go_enter Try.func10, Try.ntmps10
  go_wp2_with fail
  refine (dead_at h).mono ?_
  rintro e w' ⟨rfl, rfl⟩
  rw [HG.out]
  go_wp2_with fail
  refine (has_yes h p hp).mono ?_
  rintro e w' ⟨rfl, rfl⟩
  have hbn2 : (bn : Int) ≤ 64 := by omega
  have hbn3 : ¬ (64 : Int) < (bn : Int) := by omega
  have hpi : (p : Int) < (n : Int) := by omega
  have hp0 := mix_pad (b := b) (by rw [hb.len]; exact hbn)
  have hbl := hb.len
  have HP0 := Lib.hid hp0
  have HBL := Lib.hid hbl
  clear hp0 hbl
  go_wp2_with (first
    | ((with_reducible refine wpList_build_at (o := ⟨some 20, _, _, _, _, _⟩) rfl 76 _ rfl (wrC (p, [])).toArray ?_ ?_); (simp only [List.map_toArray, List.map_cons, List.map_nil]; go_must (exact wr_built p)))
    | (with_reducible refine wpList_alloc_blk (o := ⟨some 7, _, _, _, _, _⟩) rfl 76 rfl _ wr_zero ?_; intro w1 g h1 b1 q1)
    | ((with_reducible refine wpList_store_blk (o := ⟨none, _, _, _, _, _⟩) rfl 76 (.tmp 7) (.tmp 20) rfl g _ (wrC (p, [])).toArray ?_ ?_ _ h1 65 wr_size (wrC_length _) (wrC_length _) (wr_all _) ?_); (rfl); (rfl); (intro w2 h2 g2; have B2 := b1.grown g2 b1.size (fun k hk => by cases hk; exact q1); have hb2 := hb.past B2; have hW2 : WAt w2 g (p, []) := ⟨h2.out⟩))
    | (with_reducible refine wpList_copy_wr rfl (.tmp 22) (.tmp 23) rfl rfl hW2 bo bn bc' b rfl hb2 hbn ?_; intro w3 hW g3))
  have B3 := B2.grown g3 B2.size (fun k hk => by cases hk; exact q1)
  have h3 := h.past B3
  rw [HP0.out] at hW
  clear hb hb2 hW2 h1 h2 g2 B2 b1 h g3
  have c2 := h3.c2
  have hat := hW.at_
  simp only [pad_pad] at hat
  go_still_tail 8, (by kernel_rfl)
  refine wpStill_load_at (by rfl) 74 _ rfl ⟨g, 1, none⟩ rfl (pad b) (hat.past (Below.refl _ _).drew) _ _ Try.underlying74 (by rw [sizePg, pad_length]) ?_
  repeat still_step
  refine wpStill_nil ?_
  change wpList _ _ _ _ _ w3.drew
  refine wpList_store_pg rfl _ _ (.inr rfl) p h3.drew.last rfl hp (pad b) rfl (pad_length b) fun w4 hL4 g4 => ?_
  have h4 := h3.drew.putLast _ hL4 g4
  have hgL : g ≠ L := by have := h0.last.lt; omega
  have hW4 : WAt w4 g (p, pad b) := (hW.past (Below.refl _ _).drew).grown g4 (fun e => hgL (by cases e; rfl))
  have hgp : some g ≠ Go.Proofs.Ytpfhggalbdjjmaa.blk ao := fun e => by have := h0.pend.lt g e.symm; omega
  have K4 : Kp w w4 (ownD d L K ao) := (Kp.ofBelow B3 _).trans ((Kp.drew w3 _).trans (Kp.ofGrown g4 (fun z e => by cases e; exact .inr (.inl rfl))) (fun _ _ q => q)) (fun _ _ q => q)
  clear h3 hW hat c2 hL4 g4 B3
  go_wp2_with fail
  refine wp_region_held_drew (S := fun w' => WAt w' g (p, pad b)) (by kernel_rfl) (hW4.past (Below.refl _ _).drew) (fun hHeld => ?_)
  refine wpAnyH_take (i := 0) (v := ?_) rfl (by kernel_rfl) (by kernel_rfl) (by kernel_rfl) (fun _ _ _ h => h) (Or.inl ⟨by rfl, ?_⟩) hHeld ?_
  rotate_left 1
  focus (intro wq hSw; go_simp; try with_reducible rfl)
  try (simp only [Act.put, List.getElem_toArray, List.getElem_cons_succ, List.getElem_cons_zero, List.setIfInBounds_toArray, List.set_cons_zero, List.set_cons_succ])
  refine wpAnyH_take (i := 1) (v := ?_) rfl (by kernel_rfl) (by kernel_rfl) (by kernel_rfl) (fun _ _ _ h => h) (Or.inl ⟨by rfl, ?_⟩) hHeld ?_
  rotate_left 1
  focus (intro wq hSw; go_simp; try with_reducible rfl)
  try (simp only [Act.put, List.getElem_toArray, List.getElem_cons_succ, List.getElem_cons_zero, List.setIfInBounds_toArray, List.set_cons_zero, List.set_cons_succ])
  refine wpAnyH_take (i := 2) (v := ?_) rfl (by kernel_rfl) (by kernel_rfl) (by kernel_rfl) (fun _ _ _ h => h) (Or.inl ⟨by rfl, ?_⟩) hHeld ?_
  rotate_left 1
  focus (intro wq hSw; go_simp; try with_reducible rfl)
  try (simp only [Act.put, List.getElem_toArray, List.getElem_cons_succ, List.getElem_cons_zero, List.setIfInBounds_toArray, List.set_cons_zero, List.set_cons_succ])
  refine wpAnyH_take (i := 3) (v := ?_) rfl (by kernel_rfl) (by kernel_rfl) (by kernel_rfl) (fun _ _ _ h => h) (Or.inl ⟨by rfl, ?_⟩) hHeld ?_
  rotate_left 1
  focus (intro wq hSw; go_simp; try with_reducible rfl)
  try (simp only [Act.put, List.getElem_toArray, List.getElem_cons_succ, List.getElem_cons_zero, List.setIfInBounds_toArray, List.set_cons_zero, List.set_cons_succ])
  refine wpAnyH_take (i := 5) (v := .agg (wrC (p, pad b)).toArray) rfl (by kernel_rfl) (by kernel_rfl) (by kernel_rfl) (fun _ _ _ h => h) (yieldsIf_load_cells (by rfl) 76 _ rfl ⟨g, 0, none⟩ rfl _ (fun wq hSw => hSw.cells) wr_agg (by rw [wr_size, wrC_length])) hHeld ?_
  try (simp only [Act.put, List.getElem_toArray, List.getElem_cons_succ, List.getElem_cons_zero, List.setIfInBounds_toArray, List.set_cons_zero, List.set_cons_succ])
  have hW4d : WAt w4.drew g (p, pad b) := hW4.past (Below.refl _ _).drew
  have h4d := h4.drew
  refine wpAnyH_ready (rs := [4, 6]) (by kernel_rfl) (by simp) ?_
  refine AllReadyH.cons rfl (fun K hK => ?_) (AllReadyH.cons rfl (fun K hK => ?_) AllReadyH.nil)
  · have c4 := h4d.c4
    go_simp
    refine hK.out _ _ hW4d (fun hHeld => ?_)
    clear hK K c4
    try (simp only [Act.put, List.getElem_toArray, List.getElem_cons_succ, List.getElem_cons_zero, List.setIfInBounds_toArray, List.set_cons_zero, List.set_cons_succ])
    refine wpAnyH_ready (rs := [6]) (by kernel_rfl) (by simp) ?_
    refine AllReadyH.cons rfl (fun K hK => ?_) AllReadyH.nil
    rw [if_pos (by rfl)]
    refine wp_buildSlice_one 65 76 _ rfl (wrC (p, pad b)) 65 rfl (wrC_length _) (by omega) (by omega) Try.underlying65 wr_inf fun w5 hB5 b5 s5 => ?_
    have h5 := h4d.past b5
    have hW5 := hW4d.past b5
    refine hK.out _ _ hW5 (fun hHeld => ?_)
    clear hK K
    try (simp only [Act.put, List.getElem_toArray, List.getElem_cons_succ, List.getElem_cons_zero, List.setIfInBounds_toArray, List.set_cons_zero, List.set_cons_succ])
    refine wpAnyH_ready (rs := [7]) (by kernel_rfl) (by simp) ?_
    refine AllReadyH.cons rfl (fun K hK => ?_) AllReadyH.nil
    rw [if_pos (by rfl)]
    have src5 : Src Try.prog encWr.sz 65 (.slice (some ⟨w4.drew.heap.size, 0, none⟩) 1 1) 1 (encWr.all [(p, pad b)]) w5 := (OwnR.ofBlk (E := encWr) (l := [(p, pad b)]) (n := 1) hB5 (by simp [Enc.all, encWr]) rfl (by omega)).isR.src Try.underlying65
    refine wp_append_r (.tmp 37) (.tmp 39) 65 65 rfl wr_ty rfl h5.pend (by have := h5.lt; omega) _ rfl 1 [(p, pad b)] src5 rfl (by omega) (m + 1) rfl _ rfl (by omega) fun g6 c6 w6 hT6 gr6 or6 b6 => ?_
    have hW6 := hW5.grown gr6 hgp
    refine hK.out _ _ hW6 (fun hHeld => ?_)
    clear hK K
    try (simp only [Act.put, List.getElem_toArray, List.getElem_cons_succ, List.getElem_cons_zero, List.setIfInBounds_toArray, List.set_cons_zero, List.set_cons_succ])
    refine wpAnyH_take (i := 8) (v := ?_) rfl (by kernel_rfl) (by kernel_rfl) (by kernel_rfl) (fun _ _ _ h => h) (Or.inl ⟨by rfl, ?_⟩) hHeld ?_
    rotate_left 1
    focus (intro wq hSw; go_simp; try with_reducible rfl)
    try (simp only [Act.put, List.getElem_toArray, List.getElem_cons_succ, List.getElem_cons_zero, List.setIfInBounds_toArray, List.set_cons_zero, List.set_cons_succ])
    refine wpAnyH_take (i := 9) (v := ?_) rfl (by kernel_rfl) (by kernel_rfl) (by kernel_rfl) (fun _ _ _ h => h) (Or.inl ⟨by rfl, ?_⟩) hHeld ?_
    rotate_left 1
    focus (intro wq hSw; go_simp; try with_reducible rfl)
    try (simp only [Act.put, List.getElem_toArray, List.getElem_cons_succ, List.getElem_cons_zero, List.setIfInBounds_toArray, List.set_cons_zero, List.set_cons_succ])
    have c46 : w6.cell? ⟨d, 4, none⟩ = some (.slice ao m c) := by rw [b6.cell (show d < d + 1 by omega)]; exact h5.c4
    have f46 : w6.frozen? ⟨d, 4, none⟩ = false := by rw [b6.frozen (show d < d + 1 by omega)]; exact h5.free 4
    refine wpAnyH_ready (rs := [10]) (by kernel_rfl) (by simp) ?_
    refine AllReadyH.cons rfl (fun K hK => ?_) AllReadyH.nil
    go_simp
    refine hK.out _ _ (hW6.grown (gset w6 d 4 _) (fun e => by have := h0.lt; cases e; omega)) (fun hHeld => ?_)
    clear hK K
    try (simp only [Act.put, List.getElem_toArray, List.getElem_cons_succ, List.getElem_cons_zero, List.setIfInBounds_toArray, List.set_cons_zero, List.set_cons_succ])
    refine wpAnyH_done (by kernel_rfl) ?_ _
    clear c46 f46 src5 hW6 hW5 hB5
    have hpg : ∀ x ∈ s.pend ++ [(p, pad b)], x.1 < n := fun x hx => by
      rcases List.mem_append.1 hx with h | h
      · exact h0.pages x h
      · obtain rfl := List.mem_singleton.1 h
        exact hp
    have h7 := h5.putPend (some ⟨g6, 0, none⟩) (m + 1) c6 _ hT6 gr6 hpg
    have K5 : Kp w w5 (ownD d L K ao) := K4.trans ((Kp.drew w4 _).trans (Kp.ofBelow b5 _) (fun _ _ q => q)) (fun _ _ q => q)
    have K7 : Kp w (w6.setCell ⟨d, 4, none⟩ (.slice (some ⟨g6, 0, none⟩) (m + 1) c6)) (ownD d L K ao) := K5.trans ((Kp.ofGrown (S := ownD d L K ao) gr6 (fun z hz => .inr (.inr (.inr hz)))).trans (Kp.set _ d 4 _ (.inl rfl)) (fun _ _ q => q)) (fun _ _ q => q)
    have e7 : Ext w (ownD d L K ao) (ownD d L K (some ⟨g6, 0, none⟩)) := by
      have h5s := K5.size
      rintro k (rfl | rfl | rfl | hk)
      · exact .inl (.inl rfl)
      · exact .inl (.inr (.inl rfl))
      · exact .inl (.inr (.inr (.inl rfl)))
      · cases hk
        rcases or6 with h | h
        · exact .inl (.inr (.inr (.inr h)))
        · exact .inr (Nat.le_trans h5s h)
    have H7 := Lib.hid h7
    clear h7 hT6 gr6 or6 b6 h5 b5 s5 K5 hpg
    generalize w6.setCell ⟨d, 4, none⟩ (.slice (some ⟨g6, 0, none⟩) (m + 1) c6) = w7 at H7 K7 ⊢
    have c07 := H7.out.c0
    go_wp2_with fail
    refine (spend_any H7.out hr).mono ?_
    rintro e w8 ⟨rfl, h8, g8⟩
    have H8 := Lib.hid h8
    clear h8
    go_wp2_with fail
    go_ret
    exact ⟨_, _, _, rfl, H8.out, K7.trans (Kp.ofGrown (S := ownD d L K ao) g8 (fun z hz => by cases hz; exact .inl rfl)) (fun _ _ q => q), e7⟩
  · rw [if_pos (by rfl)]
    refine wp_buildSlice_one 65 76 _ rfl (wrC (p, pad b)) 65 rfl (wrC_length _) (by omega) (by omega) Try.underlying65 wr_inf fun w5 hB5 b5 s5 => ?_
    have h5 := h4d.past b5
    have hW5 := hW4d.past b5
    refine hK.out _ _ hW5 (fun hHeld => ?_)
    clear hK K
    try (simp only [Act.put, List.getElem_toArray, List.getElem_cons_succ, List.getElem_cons_zero, List.setIfInBounds_toArray, List.set_cons_zero, List.set_cons_succ])
    refine wpAnyH_ready (rs := [4]) (by kernel_rfl) (by simp) ?_
    refine AllReadyH.cons rfl (fun K hK => ?_) AllReadyH.nil
    have c4 := h5.c4
    go_simp
    refine hK.out _ _ hW5 (fun hHeld => ?_)
    clear hK K c4
    try (simp only [Act.put, List.getElem_toArray, List.getElem_cons_succ, List.getElem_cons_zero, List.setIfInBounds_toArray, List.set_cons_zero, List.set_cons_succ])
    refine wpAnyH_ready (rs := [7]) (by kernel_rfl) (by simp) ?_
    refine AllReadyH.cons rfl (fun K hK => ?_) AllReadyH.nil
    rw [if_pos (by rfl)]
    have src5 : Src Try.prog encWr.sz 65 (.slice (some ⟨w4.drew.heap.size, 0, none⟩) 1 1) 1 (encWr.all [(p, pad b)]) w5 := (OwnR.ofBlk (E := encWr) (l := [(p, pad b)]) (n := 1) hB5 (by simp [Enc.all, encWr]) rfl (by omega)).isR.src Try.underlying65
    refine wp_append_r (.tmp 37) (.tmp 39) 65 65 rfl wr_ty rfl h5.pend (by have := h5.lt; omega) _ rfl 1 [(p, pad b)] src5 rfl (by omega) (m + 1) rfl _ rfl (by omega) fun g6 c6 w6 hT6 gr6 or6 b6 => ?_
    have hW6 := hW5.grown gr6 hgp
    refine hK.out _ _ hW6 (fun hHeld => ?_)
    clear hK K
    try (simp only [Act.put, List.getElem_toArray, List.getElem_cons_succ, List.getElem_cons_zero, List.setIfInBounds_toArray, List.set_cons_zero, List.set_cons_succ])
    refine wpAnyH_take (i := 8) (v := ?_) rfl (by kernel_rfl) (by kernel_rfl) (by kernel_rfl) (fun _ _ _ h => h) (Or.inl ⟨by rfl, ?_⟩) hHeld ?_
    rotate_left 1
    focus (intro wq hSw; go_simp; try with_reducible rfl)
    try (simp only [Act.put, List.getElem_toArray, List.getElem_cons_succ, List.getElem_cons_zero, List.setIfInBounds_toArray, List.set_cons_zero, List.set_cons_succ])
    refine wpAnyH_take (i := 9) (v := ?_) rfl (by kernel_rfl) (by kernel_rfl) (by kernel_rfl) (fun _ _ _ h => h) (Or.inl ⟨by rfl, ?_⟩) hHeld ?_
    rotate_left 1
    focus (intro wq hSw; go_simp; try with_reducible rfl)
    try (simp only [Act.put, List.getElem_toArray, List.getElem_cons_succ, List.getElem_cons_zero, List.setIfInBounds_toArray, List.set_cons_zero, List.set_cons_succ])
    have c46 : w6.cell? ⟨d, 4, none⟩ = some (.slice ao m c) := by rw [b6.cell (show d < d + 1 by omega)]; exact h5.c4
    have f46 : w6.frozen? ⟨d, 4, none⟩ = false := by rw [b6.frozen (show d < d + 1 by omega)]; exact h5.free 4
    refine wpAnyH_ready (rs := [10]) (by kernel_rfl) (by simp) ?_
    refine AllReadyH.cons rfl (fun K hK => ?_) AllReadyH.nil
    go_simp
    refine hK.out _ _ (hW6.grown (gset w6 d 4 _) (fun e => by have := h0.lt; cases e; omega)) (fun hHeld => ?_)
    clear hK K
    try (simp only [Act.put, List.getElem_toArray, List.getElem_cons_succ, List.getElem_cons_zero, List.setIfInBounds_toArray, List.set_cons_zero, List.set_cons_succ])
    refine wpAnyH_done (by kernel_rfl) ?_ _
    clear c46 f46 src5 hW6 hW5 hB5
    have hpg : ∀ x ∈ s.pend ++ [(p, pad b)], x.1 < n := fun x hx => by
      rcases List.mem_append.1 hx with h | h
      · exact h0.pages x h
      · obtain rfl := List.mem_singleton.1 h
        exact hp
    have h7 := h5.putPend (some ⟨g6, 0, none⟩) (m + 1) c6 _ hT6 gr6 hpg
    have K5 : Kp w w5 (ownD d L K ao) := K4.trans ((Kp.drew w4 _).trans (Kp.ofBelow b5 _) (fun _ _ q => q)) (fun _ _ q => q)
    have K7 : Kp w (w6.setCell ⟨d, 4, none⟩ (.slice (some ⟨g6, 0, none⟩) (m + 1) c6)) (ownD d L K ao) := K5.trans ((Kp.ofGrown (S := ownD d L K ao) gr6 (fun z hz => .inr (.inr (.inr hz)))).trans (Kp.set _ d 4 _ (.inl rfl)) (fun _ _ q => q)) (fun _ _ q => q)
    have e7 : Ext w (ownD d L K ao) (ownD d L K (some ⟨g6, 0, none⟩)) := by
      have h5s := K5.size
      rintro k (rfl | rfl | rfl | hk)
      · exact .inl (.inl rfl)
      · exact .inl (.inr (.inl rfl))
      · exact .inl (.inr (.inr (.inl rfl)))
      · cases hk
        rcases or6 with h | h
        · exact .inl (.inr (.inr (.inr h)))
        · exact .inr (Nat.le_trans h5s h)
    have H7 := Lib.hid h7
    clear h7 hT6 gr6 or6 b6 h5 b5 s5 K5 hpg
    generalize w6.setCell ⟨d, 4, none⟩ (.slice (some ⟨g6, 0, none⟩) (m + 1) c6) = w7 at H7 K7 ⊢
    have c07 := H7.out.c0
    go_wp2_with fail
    refine (spend_any H7.out hr).mono ?_
    rintro e w8 ⟨rfl, h8, g8⟩
    have H8 := Lib.hid h8
    clear h8
    go_wp2_with fail
    go_ret
    exact ⟨_, _, _, rfl, H8.out, K7.trans (Kp.ofGrown (S := ownD d L K ao) g8 (fun z hz => by cases hz; exact .inl rfl)) (fun _ _ q => q), e7⟩
/-- The power is gone; there is no such page; the bytes are too many. -/
theorem write_dead (h : DkAt w d L K n ao m c s) (hg : s.gone = true) (p : Int) (bo : Option Addr) (bn bc' : Nat) :
    Calls Try.prog 10 #[.pointer (some ⟨d, 0, none⟩), .int .i64 p, .slice bo bn bc'] w fun e w' => e = .returned (.int .i64 15) ∧ w = w' := by
  have HG := Lib.hid hg
  clear hg
  go_enter Try.func10, Try.ntmps10
  go_wp2_with fail
  refine (dead_at h).mono ?_
  rintro e w' ⟨rfl, rfl⟩
  rw [HG.out]
  go_wp2
  go_ret
  exact ⟨rfl, rfl⟩
theorem write_none (h : DkAt w d L K n ao m c s) (hg : s.gone = false) (p : Int) (hp : p < 0 ∨ (n : Int) ≤ p) (bo : Option Addr) (bn bc' : Nat) :
    Calls Try.prog 10 #[.pointer (some ⟨d, 0, none⟩), .int .i64 p, .slice bo bn bc'] w fun e w' => e = .returned (.int .i64 1) ∧ w = w' := by
  have HG := Lib.hid hg
  clear hg
  go_enter Try.func10, Try.ntmps10
  go_wp2_with fail
  refine (dead_at h).mono ?_
  rintro e w' ⟨rfl, rfl⟩
  rw [HG.out]
  go_wp2_with fail
  refine (has_no h p hp).mono ?_
  rintro e w' ⟨rfl, rfl⟩
  go_wp2
  go_ret
  exact ⟨rfl, rfl⟩
theorem write_long (h : DkAt w d L K n ao m c s) (hg : s.gone = false) (p : Nat) (hp : p < n) (bo : Option Addr) (bn bc' : Nat) (hb : 64 < bn) :
    Calls Try.prog 10 #[.pointer (some ⟨d, 0, none⟩), .int .i64 p, .slice bo bn bc'] w fun e w' => e = .returned (.int .i64 1) ∧ w = w' := by
  have HG := Lib.hid hg
  clear hg
  go_enter Try.func10, Try.ntmps10
  go_wp2_with fail
  refine (dead_at h).mono ?_
  rintro e w' ⟨rfl, rfl⟩
  rw [HG.out]
  go_wp2_with fail
  refine (has_yes h p hp).mono ?_
  rintro e w' ⟨rfl, rfl⟩
  have hb2 : (64 : Int) < (bn : Int) := by omega
  go_wp2
  go_ret
  exact ⟨rfl, rfl⟩
end
end Go.Proofs.Ytpfhggalbdjjmaa
