/-
  DiskOwn, walked.
-/
import Derived.Test.YtfajggiinoeaiaaLaw7
namespace Go.Proofs.Ytfajggiinoeaiaa
open Go.RowKit
set_option linter.unusedSimpArgs false

/-- A slice that holds something lies in some block, at some place. -/
theorem IsB.open {w : World} {ao : Option Addr} {n c : Nat} {l : List UInt8} (h : IsB w ao n c l) (hn : 0 < n) : ∃ b off, ao = some ⟨b, off, none⟩ ∧ b < w.heap.size ∧ ∀ j u, l[j]? = some u → w.cell? ⟨b, off + j, none⟩ = some (bc u) := by
  cases ao with
  | none => have := h.nil rfl; have := h.le; omega
  | some a =>
    obtain ⟨b, off, spot⟩ := a
    have hl := h.len
    have h0 := h.cell _ rfl 0 _ (List.getElem?_eq_getElem (by omega))
    have hspot : spot = none := by simpa [Addr.add] using World.cell?_spot h0
    subst hspot
    refine ⟨b, off, rfl, World.block_lt_of_cell? w _ h0, fun j u hu => ?_⟩
    have := h.cell _ rfl j u hu
    rwa [Addr.add_lit] at this
theorem pad_get (l : List UInt8) (j : Nat) (h : j < l.length) (h2 : j < 64) : (pad l)[j]? = l[j]? := by
  unfold pad
  rw [List.getElem?_take_of_lt h2, List.getElem?_append_left h]
theorem wpAnyH_renew {P : Program} {ops : Array Oper} {Q : Exit → Act → World → Prop} {md : Region.Mode} {S S' : World → Prop} (hS : ∀ w, S' w → S w) :
    ∀ (fuel : Nat) (listed : Array Bool) (a : Act) (w : World), wpAnyH P md ops Q S' fuel listed a w → wpAnyH P md ops Q S fuel listed a w
  | 0, _, _, _, h => h
  | fuel + 1, _, _, _, h => ⟨h.1, fun i hi => wpOp_mono (fun a' w' h' => ⟨hS _ h'.1, wpAnyH_renew hS fuel _ a' w' h'.2⟩) (h.2 i hi)⟩
/-- 'make([]byte, N)', in a region that draws. -/
theorem wp_full_ob {P : Program} {w : World} {o : Oper} {a : Act} {K : Act → World → Prop} {Q : Exit → Act → World → Prop} (l c : Operand) (t : TypeId)
    (ho : o.op = Op.makeSlice t l c) (e : TypeId) (hB : ByteTy P t e) (kl kc : IntKind) (N : Nat) (hl : a.eval l = .int kl N) (hc : a.eval c = .int kc N) (hN : N ≤ 1000000)
    (hK : ∀ w', OwnB w' e w.heap.size N N (List.replicate N 0) → Below w.heap.size w w' → K (a.put o.dst (.slice (some ⟨w.heap.size, 0, none⟩) N N)) w') : o.wp P a w K Q := by
  obtain ⟨i, hi, hz, hsize, hby⟩ := hB.info
  obtain ⟨w', hr, hown, hgr⟩ := run_make_full (P := P) w w.heap.size t e i (.int .u8 0) 1 hB.ht hi hz hsize kl kc N (by rw [hby]; omega) (by simp only [maxLen]; omega) (Nat.le_refl _)
  rw [Nat.mul_one] at hown
  have hz2 : (madeCells (Value.int .u8 0).cells N).toList = bcs (List.replicate N 0) := by
    rw [show (Value.int IntKind.u8 0).cells = #[Value.int .u8 0] from rfl, toList_madeCells_one]
    simp [bcs, bc]
  rw [hz2] at hown
  unfold Oper.wp
  simp [execOp, ho, hl, hc, hr, Result.andThen]
  refine hK w' ?_ ((Below.refl _ w).grown hgr (Nat.le_refl _) (fun k h => by cases h))
  rcases hown.2 with ⟨h, _⟩ | ⟨g, cap, cur, hv, _, hg, hnc, hcm, hcs, htake⟩
  · cases h
  · simp only [Value.slice.injEq, Option.some.injEq, Addr.mk.injEq, and_true] at hv
    obtain ⟨rfl, _, rfl⟩ := hv
    exact ⟨by simp, Nat.le_refl _, hcm, cur, hg, by rw [hcs, Nat.mul_one], by rw [← htake, Nat.mul_one]⟩
set_option maxRecDepth 100000 in
set_option maxHeartbeats 4000000 in
theorem diskOwn_walk (a0 : Option Addr) (n0 c0 : Nat) (l0 : List UInt8) (w : World) (hI : IsB w a0 n0 c0 l0) :
    Calls Try.prog 8 #[.slice a0 n0 c0] w fun e w' => e = .returned (.bool true) ∧ Below w.heap.size w w' := by
  by_cases hlen : n0 = 0 ∨ 64 < n0
  · rcases hlen with rfl | hlen
    · go_enter Try.func8, Try.ntmps8
      go_wp2_with fail
      refine (known7_any w).mono ?_
      rintro e w1 ⟨rfl, b1⟩
      go_wp2
      go_ret
      exact ⟨rfl, b1⟩
    · have h1 : (64 : Int) < (n0 : Int) := by omega
      have h2 : ((n0 : Int) == 0) = false := by simp; omega
      go_enter Try.func8, Try.ntmps8
      go_wp2_with fail
      refine (known7_any w).mono ?_
      rintro e w1 ⟨rfl, b1⟩
      go_wp2
      go_ret
      exact ⟨rfl, b1⟩
  · have hn0 : 0 < n0 := by omega
    have h1 : (n0 : Int) ≤ 64 := by omega
    have h2 : ((n0 : Int) == 0) = false := by simp; omega
    have h4 : (0 : Int) < (n0 : Int) := by omega
    have h3 : decide ((64 : Int) < (n0 : Int)) = false := by simp; omega
    have hn64 : n0 ≤ 64 := by omega
    clear hlen
    obtain ⟨blk, off, rfl, hblk, hcell⟩ := hI.open hn0
    have hl := hI.len
    obtain ⟨u, hu⟩ : ∃ u, l0[0]? = some u := ⟨_, List.getElem?_eq_getElem (by omega)⟩
    have hc0 := hcell 0 u hu
    rw [Nat.add_zero] at hc0
    have HU := Lib.hid hu
    have HL := Lib.hid hl
    clear hu hl hcell
    go_enter Try.func8, Try.ntmps8
    go_wp2_with fail
    refine (known7_any w).mono ?_
    rintro e w1 ⟨rfl, b1⟩
    go_wp2_with fail
    refine (new_is 3 w1 (by omega) (by omega)).mono ?_
    rintro e w2 ⟨d, S, rfl, hD, b2, hS⟩
    go_wp2_with fail
    refine (new_is 3 w2 (by omega) (by omega)).mono ?_
    rintro e w3 ⟨o, T, rfl, hO, b3, hT⟩
    have hD3 := hD.past b3
    have hST : ∀ k, S k → ¬ T k := fun k h1 h2 => by have := hD.lt k h1; have := hT k h2; omega
    have hw1 := b1.size
    have B2 := b1.trans (b2.mono b1.size)
    have B3 := B2.trans (b3.mono B2.size)
    have hI3 := hI.past B3
    clear hD
    go_wp2_with (at_builtin; refine wpList_append_ob rfl _ _ 22 22 rfl 5 byteTy _ 0 0 [] rfl (own_empty w3) _ rfl n0 l0 ((hI3.alloc _).src byteTy.ht) n0 (Nat.zero_add _) l0 rfl (by omega) ?_; intro g c1 w4 hM pM gM; have b4 := below_puts (Below.refl _ w3) pM (Nat.le_refl _); have hg3 := ge_new gM)
    have B4 := B3.trans (b4.mono B3.size)
    have hD4 := hD3.past b4
    have hO4 := hO.past b4
    have hSg : ¬ S g := fun q => by have := hD3.lt g q; omega
    have hTg : ¬ T g := fun q => by have := hO.lt g q; omega
    clear hD3 hO pM gM b4 hI3 b1 b2 b3
    refine (write_is hD4 rfl (room_of (by decide) (by decide)) (by simp [newD]) 1 (by omega) _ n0 c1 l0 hM.isB hn64).mono ?_
    rintro e w5 ⟨S5, rfl, hD5, k5, x5⟩
    have hcode : (newD 3).code = 0 := rfl
    rw [hcode]
    clear hcode
    have hM5 := hM.kp k5 hSg
    have hO5 := hO4.kp k5 (fun q hq hs => hST q hs hq)
    have hS4 : ∀ k, S k → w.heap.size ≤ k := fun k hk => Nat.le_trans hw1 (hS k hk)
    have B5 := B4.trans (k5.below B4.size hS4)
    have hSg5 : ¬ S5 g := fun q => by rcases x5 g q with h | h; exact hSg h; have := hM.lt; omega
    have hST5 : ∀ k, S5 k → ¬ T k := fun k h1 h2 => by rcases x5 k h1 with h | h; exact hST k h h2; have := hO4.lt k h2; omega
    have cg := hM5.cell 0 u HU.out
    have fg := hM5.free 0
    have hD6 : ∀ v, IsD (w5.setCell ⟨g, 0, none⟩ v) d 3 S5 ((newD 3).put 1 l0).spent := fun v => hD5.kp (Kp.set w5 g 0 v (S := fun k => k = g) rfl) (fun q hq e => hSg5 (by rw [← e]; exact hq))
    have hO6 : ∀ v, IsD (w5.setCell ⟨g, 0, none⟩ v) o 3 T (newD 3) := fun v => hO5.kp (Kp.set w5 g 0 v (S := fun k => k = g) rfl) (fun q hq e => hTg (by rw [← e]; exact hq))
    have hwg : w.heap.size ≤ g := Nat.le_trans B3.size hg3
    have B6 : ∀ v, Below w.heap.size w (w5.setCell ⟨g, 0, none⟩ v) := fun v => B5.setCell (p := ⟨g, 0, none⟩) hwg v
    have hpg : (((newD 3).put 1 l0).spent).pg 1 = pad (pad l0) := rfl
    have hp0 : (pad (pad l0))[0]? = some u := by rw [pad_pad, pad_get l0 0 (by rw [HL.out]; exact hn0) (by omega)]; exact HU.out
    have HP0 := Lib.hid hp0
    have HPG := Lib.hid hpg
    clear hM hD4 hO4 k5 x5 hM5 hp0 hpg hD5 hO5
    unfold bc at cg
    go_wp2_with fail
    generalize Value.int .u8 (((u.toNat : Int) + 1) % 256) = V
    refine (read_is (hD6 V) rfl 1 (by omega)).mono ?_
    rintro e w7 ⟨gx, rfl, hX, hgx, b7⟩
    rw [HPG.out] at hX
    have hD7 := (hD6 V).past b7
    have hO7 := (hO6 V).past b7
    have B7 := (B6 V).trans (b7.mono (B6 V).size)
    have hwx : w.heap.size ≤ gx := Nat.le_trans (B6 V).size hgx
    have hSx : ¬ S5 gx := fun q => by have := (hD6 V).lt gx q; omega
    have hTx : ¬ T gx := fun q => by have := (hO6 V).lt gx q; omega
    have cx := hX.cell 0 u HP0.out
    have fx := hX.free 0
    have hD8 : ∀ v, IsD (w7.setCell ⟨gx, 0, none⟩ v) d 3 S5 ((newD 3).put 1 l0).spent := fun v => hD7.kp (Kp.set w7 gx 0 v (S := fun k => k = gx) rfl) (fun q hq e => hSx (by rw [← e]; exact hq))
    have hO8 : ∀ v, IsD (w7.setCell ⟨gx, 0, none⟩ v) o 3 T (newD 3) := fun v => hO7.kp (Kp.set w7 gx 0 v (S := fun k => k = gx) rfl) (fun q hq e => hTx (by rw [← e]; exact hq))
    have B8 : ∀ v, Below w.heap.size w (w7.setCell ⟨gx, 0, none⟩ v) := fun v => B7.setCell (p := ⟨gx, 0, none⟩) hwx v
    clear hX hD7 hO7 b7 hD6 hO6 B6 cg fg hgx
    unfold bc at cx
    go_wp2_with fail
    generalize Value.int .u8 (((u.toNat : Int) + 1) % 256) = V
    refine (read_is (hD8 V) rfl 1 (by omega)).mono ?_
    rintro e wy ⟨gy, rfl, hY, hgy0, by_⟩
    rw [HPG.out] at hY
    have hOy := (hO8 V).past by_
    have By := (B8 V).trans (by_.mono (B8 V).size)
    clear hD8 hO8 B8 by_ cx fx
    go_wp2_with fail
    refine (read_is hOy rfl 1 (by omega)).mono ?_
    rintro e w9 ⟨gz, rfl, hZ, hgz, b9⟩
    have hY9 := hY.below b9 hY.lt
    have hgy := hY9.lt
    have cy := hY9.cell 0 u HP0.out
    have B9 := By.trans (b9.mono By.size)
    have cb : w9.cell? ⟨blk, off, none⟩ = some (bc u) := (B9.cell (p := ⟨blk, off, none⟩) hblk).trans hc0
    have hb9 : blk < w9.heap.size := Nat.lt_of_lt_of_le hblk B9.size
    have cst := Try.underlying9
    obtain ⟨zs, hzs⟩ : ∃ zs, List.replicate 64 (0 : UInt8) = zs := ⟨_, rfl⟩
    have hzp : (newD 3).pg 1 = List.replicate 64 0 := rfl
    rw [hzp, hzs] at hZ
    have HZS := Lib.hid hzs
    clear hzs hzp hOy hY hY9 By b9 hgz hgy0
    unfold bc at cy cb
    go_wp2_with fail
    refine wp_region_held_drew (S := fun w' => Below w9.heap.size w9 w') (by kernel_rfl) ((Below.refl _ _).drew) (fun hHeld => ?_)
    refine wpAnyH_take (i := 0) (v := ?_) rfl (by kernel_rfl) (by kernel_rfl) (by kernel_rfl) (fun _ _ _ h => h) (Or.inl ⟨by rfl, ?_⟩) hHeld ?_
    rotate_left 1
    focus (intro wq hSw; go_simp; try with_reducible rfl)
    try (simp only [Act.put, List.getElem_toArray, List.getElem_cons_succ, List.getElem_cons_zero, List.setIfInBounds_toArray, List.set_cons_zero, List.set_cons_succ])
    refine wpAnyH_take (i := 1) (v := ?_) rfl (by kernel_rfl) (by kernel_rfl) (by kernel_rfl) (fun _ _ _ h => h) (Or.inl ⟨by rfl, ?_⟩) hHeld ?_
    rotate_left 1
    focus (intro wq hSw; go_simp; try with_reducible rfl)
    try (simp only [Act.put, List.getElem_toArray, List.getElem_cons_succ, List.getElem_cons_zero, List.setIfInBounds_toArray, List.set_cons_zero, List.set_cons_succ])
    refine wpAnyH_take (i := 2) (v := ?_) rfl (by kernel_rfl) (by kernel_rfl) (by kernel_rfl) (fun _ _ _ h => h) (Or.inl ⟨by rfl, ?_⟩) hHeld ?_
    rotate_left 1
    focus (intro wq hSw; have hcv := ((hSw.cell (p := ⟨gy, 0, none⟩) hgy).trans cy); go_simp; try with_reducible rfl)
    try (simp only [Act.put, List.getElem_toArray, List.getElem_cons_succ, List.getElem_cons_zero, List.setIfInBounds_toArray, List.set_cons_zero, List.set_cons_succ])
    refine wpAnyH_take (i := 3) (v := ?_) rfl (by kernel_rfl) (by kernel_rfl) (by kernel_rfl) (fun _ _ _ h => h) (Or.inl ⟨by rfl, ?_⟩) hHeld ?_
    rotate_left 1
    focus (intro wq hSw; go_simp; try with_reducible rfl)
    try (simp only [Act.put, List.getElem_toArray, List.getElem_cons_succ, List.getElem_cons_zero, List.setIfInBounds_toArray, List.set_cons_zero, List.set_cons_succ])
    refine wpAnyH_take (i := 4) (v := ?_) rfl (by kernel_rfl) (by kernel_rfl) (by kernel_rfl) (fun _ _ _ h => h) (Or.inl ⟨by rfl, ?_⟩) hHeld ?_
    rotate_left 1
    focus (intro wq hSw; go_simp; try with_reducible rfl)
    try (simp only [Act.put, List.getElem_toArray, List.getElem_cons_succ, List.getElem_cons_zero, List.setIfInBounds_toArray, List.set_cons_zero, List.set_cons_succ])
    refine wpAnyH_take (i := 5) (v := ?_) rfl (by kernel_rfl) (by kernel_rfl) (by kernel_rfl) (fun _ _ _ h => h) (Or.inl ⟨by rfl, ?_⟩) hHeld ?_
    rotate_left 1
    focus (intro wq hSw; have hcv := ((hSw.cell (p := ⟨blk, off, none⟩) hb9).trans cb); go_simp; try with_reducible rfl)
    try (simp only [Act.put, List.getElem_toArray, List.getElem_cons_succ, List.getElem_cons_zero, List.setIfInBounds_toArray, List.set_cons_zero, List.set_cons_succ])
    refine wpAnyH_take (i := 6) (v := ?_) rfl (by kernel_rfl) (by kernel_rfl) (by kernel_rfl) (fun _ _ _ h => h) (Or.inl ⟨by rfl, ?_⟩) hHeld ?_
    rotate_left 1
    focus (intro wq hSw; go_simp; try with_reducible rfl)
    try (simp only [Act.put, List.getElem_toArray, List.getElem_cons_succ, List.getElem_cons_zero, List.setIfInBounds_toArray, List.set_cons_zero, List.set_cons_succ])
    refine wpAnyH_take (i := 7) (v := ?_) rfl (by kernel_rfl) (by kernel_rfl) (by kernel_rfl) (fun _ _ _ h => h) (Or.inl ⟨by rfl, ?_⟩) hHeld ?_
    rotate_left 1
    focus (intro wq hSw; go_simp; try with_reducible rfl)
    try (simp only [Act.put, List.getElem_toArray, List.getElem_cons_succ, List.getElem_cons_zero, List.setIfInBounds_toArray, List.set_cons_zero, List.set_cons_succ])
    refine wpAnyH_take (i := 8) (v := ?_) rfl (by kernel_rfl) (by kernel_rfl) (by kernel_rfl) (fun _ _ _ h => h) (Or.inl ⟨by rfl, ?_⟩) hHeld ?_
    rotate_left 1
    focus (intro wq hSw; go_simp; try with_reducible rfl)
    try (simp only [Act.put, List.getElem_toArray, List.getElem_cons_succ, List.getElem_cons_zero, List.setIfInBounds_toArray, List.set_cons_zero, List.set_cons_succ])
    refine wpAnyH_take (i := 9) (v := ?_) rfl (by kernel_rfl) (by kernel_rfl) (by kernel_rfl) (fun _ _ _ h => h) (Or.inl ⟨by rfl, ?_⟩) hHeld ?_
    rotate_left 1
    focus (intro wq hSw; have hcv := (hZ.isB.past hSw).conv byteTy cst; go_simp; try with_reducible rfl)
    try (simp only [Act.put, List.getElem_toArray, List.getElem_cons_succ, List.getElem_cons_zero, List.setIfInBounds_toArray, List.set_cons_zero, List.set_cons_succ])
    refine wpAnyH_ready (rs := [10]) (by kernel_rfl) (by simp) ?_
    refine AllReadyH.cons rfl (fun K hK => ?_) AllReadyH.nil
    rw [if_pos (by rfl)]
    refine wp_full_ob _ _ 22 rfl 5 byteTy .i64 .i64 64 rfl rfl (by omega) fun wm hMk bm => ?_
    rw [HZS.out] at hMk
    replace hMk : OwnB wm 5 w9.heap.size 64 64 zs := hMk
    have bm9 : Below w9.heap.size w9 wm := ((Below.refl _ _).drew).trans (bm.mono (Nat.le_refl _))
    refine hK.out _ _ bm9 (fun hHeld => ?_)
    clear hK K hHeld
    refine wpAnyH_renew (S' := fun w' => Below wm.heap.size wm w') (fun w' h => bm9.trans (h.mono bm9.size)) _ _ _ _ ?_
    have hHeld : Below wm.heap.size wm wm := Below.refl _ _
    try (simp only [Act.put, List.getElem_toArray, List.getElem_cons_succ, List.getElem_cons_zero, List.setIfInBounds_toArray, List.set_cons_zero, List.set_cons_succ])
    refine wpAnyH_take (i := 11) (v := ?_) rfl (by kernel_rfl) (by kernel_rfl) (by kernel_rfl) (fun _ _ _ h => h) (Or.inl ⟨by rfl, ?_⟩) hHeld ?_
    rotate_left 1
    focus (intro wq hSw; have hcv := (hMk.isB.past hSw).conv byteTy cst; go_simp; try with_reducible rfl)
    try (simp only [Act.put, List.getElem_toArray, List.getElem_cons_succ, List.getElem_cons_zero, List.setIfInBounds_toArray, List.set_cons_zero, List.set_cons_succ])
    refine wpAnyH_take (i := 12) (v := ?_) rfl (by kernel_rfl) (by kernel_rfl) (by kernel_rfl) (fun _ _ _ h => h) (Or.inl ⟨by rfl, ?_⟩) hHeld ?_
    rotate_left 1
    focus (intro wq hSw; go_simp; try with_reducible rfl)
    try (simp only [Act.put, List.getElem_toArray, List.getElem_cons_succ, List.getElem_cons_zero, List.setIfInBounds_toArray, List.set_cons_zero, List.set_cons_succ])
    refine wpAnyH_take (i := 13) (v := ?_) rfl (by kernel_rfl) (by kernel_rfl) (by kernel_rfl) (fun _ _ _ h => h) (Or.inl ⟨by rfl, ?_⟩) hHeld ?_
    rotate_left 1
    focus (intro wq hSw; go_simp; try with_reducible rfl)
    try (simp only [Act.put, List.getElem_toArray, List.getElem_cons_succ, List.getElem_cons_zero, List.setIfInBounds_toArray, List.set_cons_zero, List.set_cons_succ])
    refine wpAnyH_take (i := 14) (v := ?_) rfl (by kernel_rfl) (by kernel_rfl) (by kernel_rfl) (fun _ _ _ h => h) (Or.inl ⟨by rfl, ?_⟩) hHeld ?_
    rotate_left 1
    focus (intro wq hSw; go_simp; try with_reducible rfl)
    try (simp only [Act.put, List.getElem_toArray, List.getElem_cons_succ, List.getElem_cons_zero, List.setIfInBounds_toArray, List.set_cons_zero, List.set_cons_succ])
    refine wpAnyH_done (by kernel_rfl) ?_ _
    go_wp2_with fail
    go_ret
    exact ⟨by simp, B9.trans (bm9.mono B9.size)⟩
end Go.Proofs.Ytfajggiinoeaiaa
