/-
  DiskHalves, walked.
-/
import Derived.Test.YtfajggiinoeaiaaLDOwn
import Derived.OpenShut
namespace Go.Proofs.Ytfajggiinoeaiaa
open Go.RowKit
set_option linter.unusedSimpArgs false

theorem rep_set {a : UInt8} {i : Nat} (h : i < 64) : (List.replicate i a ++ List.replicate (64 - i) 0).set i a = List.replicate (i + 1) a ++ List.replicate (64 - (i + 1)) 0 := by
  rw [List.set_append_right _ _ (by simp)]
  simp only [List.length_replicate, Nat.sub_self]
  obtain ⟨k, hk⟩ : ∃ k, 64 - i = k + 1 := ⟨63 - i, by omega⟩
  rw [hk, List.replicate_succ, List.set_cons_zero, show 64 - (i + 1) = k by omega, List.replicate_succ', List.append_assoc]
  rfl
/-- What a pick takes: place by place. -/
theorem tk_get {x y : List UInt8} (hx : x.length = 64) (hy : y.length = 64) (pick : Int) (j : Nat) (hj : j < 64) : (tk x y pick)[j]? = if pick / 2 ^ (j / 32) % 2 = 1 then y[j]? else x[j]? := by
  have mget : ∀ (z : List UInt8), z.length = 64 → ∀ (a : Nat), a + 32 ≤ 64 → (mix z a ((y.drop a).take 32))[j]? = if a ≤ j ∧ j < a + 32 then y[j]? else z[j]? := fun z hz a ha => by
    have hq : ((y.drop a).take 32).length = 32 := by simp [hy]; omega
    unfold mix
    rw [pad_of hz, hq]
    by_cases h1 : j < a
    · rw [if_neg (by omega), List.append_assoc, List.getElem?_append_left (by simp [hz]; omega), List.getElem?_take_of_lt h1]
    · rw [List.append_assoc, List.getElem?_append_right (by simp; omega)]
      have e1 : (z.take a).length = a := by simp [hz]; omega
      rw [e1]
      by_cases h2 : j < a + 32
      · rw [if_pos ⟨by omega, h2⟩, List.getElem?_append_left (by omega), List.getElem?_take_of_lt (by omega), List.getElem?_drop, show a + (j - a) = j by omega]
      · rw [if_neg (by omega), List.getElem?_append_right (by omega), hq, List.getElem?_drop, show a + 32 + (j - a - 32) = j by omega]
  have h0 : (half x y pick 1).length = 64 := by
    by_cases h : pick / 2 ^ 0 % 2 = 1
    · rw [half_yes h]
      exact mix_length (by simp [hy])
    · rw [half_no h]
      exact hx
  have e1 : (half x y pick 1)[j]? = if pick / 2 ^ 0 % 2 = 1 ∧ j < 32 then y[j]? else x[j]? := by
    by_cases h : pick / 2 ^ 0 % 2 = 1
    · rw [half_yes h]
      have := mget x hx 0 (by omega)
      rw [show 0 * 32 = 0 from rfl]
      show (mix x 0 _)[j]? = _
      have h' : pick % 2 = 1 := by simpa using h
      rw [this]
      simp [h']
    · rw [half_no h, if_neg (fun q => h q.1)]
      rfl
  show (half x y pick (1 + 1))[j]? = _
  by_cases h : pick / 2 ^ 1 % 2 = 1
  · rw [half_yes h, show 1 * 32 = 32 from rfl, mget _ h0 32 (by omega), e1]
    by_cases h3 : j < 32
    · rw [if_neg (by omega), show j / 32 = 0 by omega]
      simp [h3]
    · rw [if_pos (by omega), show j / 32 = 1 by omega, if_pos h]
  · rw [half_no h, e1]
    by_cases h3 : j < 32
    · rw [show j / 32 = 0 by omega]
      simp [h3]
    · rw [if_neg (fun q => h3 q.2), show j / 32 = 1 by omega, if_neg h]
theorem tmod4 (a : Int) : a.tmod 4 = if 0 ≤ a ∨ a % 4 = 0 then a % 4 else a % 4 - 4 := by
  rw [Int.tmod_eq_emod]
  by_cases h : 0 ≤ a ∨ (4:Int) ∣ a
  · rw [if_pos h, if_pos (by omega)]; omega
  · rw [if_neg h, if_neg (by omega)]; rfl
theorem wth4 (a : Int) : wth a 4 = a % 4 := by
  unfold wth
  rw [tmod4]
  split <;> split <;> omega
theorem u8_of {a : Int} (h : (Lit.int .u8 a).wf = true) : ∃ u : UInt8, a = (u.toNat : Int) := by
  have := bounds_u8 h
  exact ⟨UInt8.ofNat a.toNat, by rw [UInt8.toNat_ofNat']; omega⟩
/-- What the page reads behind all that. -/
theorem halves_pg (X Y : List UInt8) (hX : X.length = 64) (hY : Y.length = 64) (pick : Int) :
    (((((newD 3).put 2 X).spent.sync.put 2 Y).spent).crash [pick]).pg 2 = tk X Y pick := by
  have e : (((((newD 3).put 2 X).spent.sync.put 2 Y).spent).crash [pick]).pg 2 = pad (pad (tk (pad (pad X)) (pad (pad Y)) pick)) := rfl
  have hl : (tk X Y pick).length = 64 := by
    unfold tk
    by_cases h : pick / 2 ^ 1 % 2 = 1
    · rw [half_yes h]; exact mix_length (by simp [hY])
    · rw [half_no h]
      by_cases h : pick / 2 ^ 0 % 2 = 1
      · rw [half_yes h]; exact mix_length (by simp [hY])
      · rw [half_no h]; exact hX
  rw [e, pad_pad, pad_pad, pad_pad, pad_of hX, pad_of hY, pad_of hl]
set_option maxRecDepth 100000 in
set_option maxHeartbeats 8000000 in
theorem diskHalves_walk (a0 a1 a2 : Int) (w : World) (f0 : (Lit.int .u8 a0).wf = true) (f1 : (Lit.int .u8 a1).wf = true) (_f2 : (Lit.int .i64 a2).wf = true) :
    Calls Try.prog 7 #[.int .u8 a0, .int .u8 a1, .int .i64 a2] w fun e w' => e = .returned (.bool true) ∧ Below w.heap.size w w' := by
  obtain ⟨ua, rfl⟩ := u8_of f0
  obtain ⟨ub, rfl⟩ := u8_of f1
  go_enter Try.func7, Try.ntmps7
  go_wp2_with fail
  refine (known7_any w).mono ?_
  rintro e w1 ⟨rfl, b1⟩
  go_wp2_with fail
  refine (new_is 3 w1 (by omega) (by omega)).mono ?_
  rintro e w2 ⟨d, S, rfl, hD, b2, hS⟩
  have hw1 := b1.size
  have B2 := b1.trans (b2.mono b1.size)
  go_wp2_with fail
  refine wp_region_held_drew (S := fun _ => True) (by kernel_rfl) trivial (fun hHeld => ?_)
  refine wpAnyH_ready (rs := [0, 1]) (by kernel_rfl) (by simp) ?_
  refine AllReadyH.cons rfl (fun K hK => ?_) (AllReadyH.cons rfl (fun K hK => ?_) AllReadyH.nil)
  · rw [if_pos (by rfl)]
    refine wp_full_ob _ _ 22 rfl 5 byteTy .i64 .i64 64 rfl rfl (by omega) fun w3 h3 b3 => ?_
    refine hK.out _ _ trivial (fun hHeld => ?_)
    clear hK K
    try (simp only [Act.put, List.getElem_toArray, List.getElem_cons_succ, List.getElem_cons_zero, List.setIfInBounds_toArray, List.set_cons_zero, List.set_cons_succ])
    refine wpAnyH_take (i := 2) (v := ?_) rfl (by kernel_rfl) (by kernel_rfl) (by kernel_rfl) (fun _ _ _ h => h) (Or.inl ⟨by rfl, ?_⟩) hHeld ?_
    rotate_left 1
    focus (intro wq hSw; go_simp; try with_reducible rfl)
    try (simp only [Act.put, List.getElem_toArray, List.getElem_cons_succ, List.getElem_cons_zero, List.setIfInBounds_toArray, List.set_cons_zero, List.set_cons_succ])
    refine wpAnyH_ready (rs := [1]) (by kernel_rfl) (by simp) ?_
    refine AllReadyH.cons rfl (fun K hK => ?_) AllReadyH.nil
    rw [if_pos (by rfl)]
    refine wp_full_ob _ _ 22 rfl 5 byteTy .i64 .i64 64 rfl rfl (by omega) fun w4 h4 b4 => ?_
    refine hK.out _ _ trivial (fun hHeld => ?_)
    clear hK K
    try (simp only [Act.put, List.getElem_toArray, List.getElem_cons_succ, List.getElem_cons_zero, List.setIfInBounds_toArray, List.set_cons_zero, List.set_cons_succ])
    refine wpAnyH_take (i := 3) (v := ?_) rfl (by kernel_rfl) (by kernel_rfl) (by kernel_rfl) (fun _ _ _ h => h) (Or.inl ⟨by rfl, ?_⟩) hHeld ?_
    rotate_left 1
    focus (intro wq hSw; go_simp; try with_reducible rfl)
    try (simp only [Act.put, List.getElem_toArray, List.getElem_cons_succ, List.getElem_cons_zero, List.setIfInBounds_toArray, List.set_cons_zero, List.set_cons_succ])
    refine wpAnyH_done (by kernel_rfl) ?_ _
    go_wp2_with fail
    have hlt3 := h3.lt
    have hB34 : Below w2.heap.size w2 w4 := ((Below.refl _ _).drew).trans (b3.mono (Nat.le_refl _) |>.trans (b4.mono b3.size))
    have hX : OwnB w4 5 w2.heap.size 64 64 (List.replicate 64 0) := h3.below b4 h3.lt
    have hY : OwnB w4 5 w3.heap.size 64 64 (List.replicate 64 0) := h4
    have hxy : w2.heap.size ≠ w3.heap.size := by have h1 := b3.size; have h2 := hlt3; simp at h1 h2 ⊢; omega
    have hD4 := hD.past hB34
    have B4 := B2.trans (hB34.mono B2.size)
    obtain ⟨gx, egx⟩ : ∃ g, g = w2.heap.size := ⟨_, rfl⟩
    obtain ⟨gy, egy⟩ : ∃ g, g = w3.heap.size := ⟨_, rfl⟩
    rw [← egx] at hX hxy
    rw [← egy] at hY hxy
    have hgx : w2.heap.size ≤ gx := by have h1 := b3.size; simp at h1; omega
    have hgy : w2.heap.size ≤ gy := by have h1 := b3.size; simp at h1; omega
    simp only [← egx, ← egy]
    clear hB34 b3 b4 hlt3 h3 h4 egx egy
    have hSx : ¬ S gx := fun q => by have := hD.lt gx q; omega
    have hSy : ¬ S gy := fun q => by have := hD.lt gy q; omega
    have hw2 := B2.size
    have hS2 : ∀ k, S k → w.heap.size ≤ k := fun k hk => Nat.le_trans hw1 (hS k hk)
    clear hD
    go_loopw [11] (fun v wr => ∃ i : Nat, i ≤ 64 ∧ v = .int .i64 i ∧ OwnB wr 5 gx 64 64 (List.replicate i ua ++ List.replicate (64 - i) 0) ∧ OwnB wr 5 gy 64 64 (List.replicate i ub ++ List.replicate (64 - i) 0) ∧ IsD wr d 3 S (newD 3) ∧ Below w.heap.size w wr) (fun v _ => (64 - (intOf v).toNat))
    case atStart => exact ⟨0, by omega, rfl, hX, hY, hD4, B4⟩
    case round =>
      clear hX hY hD4 B4
      obtain ⟨i, hi, rfl, hX, hY, hD, hB⟩ := hrel
      by_cases hi64 : i < 64
      · have hi2 : (i : Int) < 64 := by omega
        obtain ⟨vx, cx⟩ := hX.cell_any i hi64
        obtain ⟨vy, cy⟩ := hY.cell_any i hi64
        have fx := hX.free i
        have fy := hY.free i
        have hX1 := (hX.set i ua).kept (w' := (wr.setCell ⟨gx, i, none⟩ (bc ua)).setCell ⟨gy, i, none⟩ (bc ub)) (heap_setCell_other _ _ gx _ (by simpa using hxy))
        have hY0 : OwnB (wr.setCell ⟨gx, i, none⟩ (bc ua)) 5 gy 64 64 (List.replicate i ub ++ List.replicate (64 - i) 0) := hY.kept (heap_setCell_other _ _ gy _ (by simpa using fun e => hxy e.symm))
        have hY1 := hY0.set i ub
        rw [rep_set hi64] at hX1 hY1
        have kk : Kp wr ((wr.setCell ⟨gx, i, none⟩ (bc ua)).setCell ⟨gy, i, none⟩ (bc ub)) (fun k => k = gx ∨ k = gy) := (Kp.set wr gx i (bc ua) (S := fun k => k = gx ∨ k = gy) (.inl rfl)).trans (Kp.set _ gy i (bc ub) (S := fun k => k = gx ∨ k = gy) (.inr rfl)) (fun _ _ q => q)
        have hD1 := hD.kp kk (fun q hq e => by rcases e with e | e; exact hSx (by rw [← e]; exact hq); exact hSy (by rw [← e]; exact hq))
        have B1 := hB.trans (kk.below hB.size (fun k e => by rcases e with e | e <;> omega))
        have HX := Lib.hid (And.intro hX1 (And.intro hY1 (And.intro hD1 B1)))
        clear hX1 hY1 hY0 kk hD1 B1 hX hY hD hB
        unfold bc at HX
        go_wp2_with fail
        go_roundw
        case rel => exact ⟨i + 1, by omega, by go_num, HX.out⟩
        case measure => simp [intOf]; omega
      · obtain rfl : i = 64 := by omega
        rw [show (64 - 64 : Nat) = 0 from rfl, List.replicate_zero, List.append_nil] at hX hY
        obtain ⟨X, hXe⟩ : ∃ X, List.replicate 64 ua = X := ⟨_, rfl⟩
        obtain ⟨Y, hYe⟩ : ∃ Y, List.replicate 64 ub = Y := ⟨_, rfl⟩
        rw [hXe] at hX
        rw [hYe] at hY
        have HXE := Lib.hid hXe
        have HYE := Lib.hid hYe
        clear hXe hYe
        go_wp2_with fail
        refine (write_is hD rfl (room_of (by decide) (by decide)) (by simp [newD]) 2 (by omega) _ 64 64 X hX.isB (by omega)).mono ?_
        rintro e w5 ⟨S5, rfl, hD5, k5, x5⟩
        have hY5 := hY.kp k5 hSy
        have B5 := hB.trans (k5.below hB.size hS2)
        have hS5 := x5.ge hB.size hS2
        have hSy5 : ¬ S5 gy := fun q => by rcases x5 gy q with h | h; exact hSy h; have := hY.lt; omega
        clear hD hX hY k5 x5 hB
        go_wp2_with fail
        refine (sync_is hD5 rfl (room_of (show (-1000000 : Int) ≤ -1 by decide) (show (-1 : Int) ≤ 1000000 by decide)) (show (-1 : Int) ≠ 1 by decide) (by simp [newD, Dk.put, Dk.spent])).mono ?_
        rintro e w6 ⟨S6, rfl, hD6, k6, x6⟩
        have hY6 := hY5.kp k6 hSy5
        have B6 := B5.trans (k6.below B5.size hS5)
        have hS6 := x6.ge B5.size hS5
        clear hD5 hY5 k6 x6 B5
        go_wp2_with fail
        refine (write_is hD6 rfl (room_of (show (-1000000 : Int) ≤ -2 by decide) (show (-2 : Int) ≤ 1000000 by decide)) (by simp [newD, Dk.put, Dk.spent, Dk.sync]) 2 (by omega) _ 64 64 Y hY6.isB (by omega)).mono ?_
        rintro e w7 ⟨S7, rfl, hD7, k7, x7⟩
        have B7 := B6.trans (k7.below B6.size hS6)
        have hS7 := x7.ge B6.size hS6
        clear hD6 hY6 k7 x7 B6
        go_wp2_with fail
        have hD8 := hD7.past ((Below.refl _ _).alloc (Nat.le_refl _) (.cells #[.int .i64 a2] 3))
        have B8 : Below w.heap.size w (w7.alloc (.cells #[.int .i64 a2] 3)) := B7.alloc B7.size _
        refine (crash_is hD8 (by simp [newD, Dk.put, Dk.spent, Dk.sync]) _ 1 1 [a2] (ints_lit w7 3 [a2] 1 rfl (by omega) _ rfl) (fun a ha q => by cases ha; exact absurd (hD7.lt _ q) (Nat.lt_irrefl _))).mono ?_
        rintro e w9 ⟨S9, rfl, hD9, k9, x9⟩
        have B9 := B8.trans (k9.below B8.size hS7)
        clear hD7 hD8 k9 x9 B8 B7
        go_wp2_with fail
        refine (read_is hD9 rfl 2 (by omega)).mono ?_
        rintro e wz ⟨gz, rfl, hZ, hgz, bz⟩
        rw [halves_pg X Y (by rw [← HXE.out]; simp) (by rw [← HYE.out]; simp)] at hZ
        have Bz := B9.trans (bz.mono B9.size)
        clear hD9 bz B9
        have tg : ∀ j, j < 64 → (tk X Y a2)[j]? = some (if a2 / 2 ^ (j / 32) % 2 = 1 then ub else ua) := fun j hj => by
          rw [tk_get (by rw [← HXE.out]; simp) (by rw [← HYE.out]; simp) a2 j hj, ← HXE.out, ← HYE.out]
          by_cases hq : a2 / 2 ^ (j / 32) % 2 = 1
          · rw [if_pos hq, if_pos hq, List.getElem?_replicate, if_pos hj]
          · rw [if_neg hq, if_neg hq, List.getElem?_replicate, if_pos hj]
        have z0 := hZ.cell 0 _ (tg 0 (by omega))
        have z31 := hZ.cell 31 _ (tg 31 (by omega))
        have z32 := hZ.cell 32 _ (tg 32 (by omega))
        have z63 := hZ.cell 63 _ (tg 63 (by omega))
        simp only [show (0 : Nat) / 32 = 0 from rfl, show (31 : Nat) / 32 = 0 from rfl, show (32 : Nat) / 32 = 1 from rfl, show (63 : Nat) / 32 = 1 from rfl, Int.pow_zero, Int.pow_one, Int.ediv_one] at z0 z31 z32 z63
        clear hZ tg
        go_wp2_with fail
        refine (within7_any a2 4 _ (by omega) (by omega)).mono ?_
        rintro e w' ⟨rfl, rfl⟩
        rw [wth4]
        obtain ⟨k, hk⟩ : ∃ k, a2 % 4 = k := ⟨_, rfl⟩
        rw [hk]
        have k0 : 0 ≤ k := by omega
        have k4 : k < 4 := by omega
        by_cases c1 : a2 % 2 = 1
        · rw [if_pos c1] at z0 z31
          have e1 : (k % 2 == 1) = true := by simp; omega
          by_cases c2 : a2 / 2 % 2 = 1
          · rw [if_pos c2] at z32 z63
            have e2 : 2 ≤ k := by omega
            clear hk c1 c2
            unfold bc at z0 z31 z32 z63
            go_wp2_with fail
            go_ret
            exact ⟨by simp, Bz⟩
          · rw [if_neg c2] at z32 z63
            have e2 : ¬ 2 ≤ k := by omega
            clear hk c1 c2
            unfold bc at z0 z31 z32 z63
            go_wp2_with fail
            go_ret
            exact ⟨by simp, Bz⟩
        · rw [if_neg c1] at z0 z31
          have e1 : (k % 2 == 1) = false := by simp; omega
          by_cases c2 : a2 / 2 % 2 = 1
          · rw [if_pos c2] at z32 z63
            have e2 : 2 ≤ k := by omega
            clear hk c1 c2
            unfold bc at z0 z31 z32 z63
            go_wp2_with fail
            go_ret
            exact ⟨by simp, Bz⟩
          · rw [if_neg c2] at z32 z63
            have e2 : ¬ 2 ≤ k := by omega
            clear hk c1 c2
            unfold bc at z0 z31 z32 z63
            go_wp2_with fail
            go_ret
            exact ⟨by simp, Bz⟩
  · rw [if_pos (by rfl)]
    refine wp_full_ob _ _ 22 rfl 5 byteTy .i64 .i64 64 rfl rfl (by omega) fun w3 h3 b3 => ?_
    refine hK.out _ _ trivial (fun hHeld => ?_)
    clear hK K
    try (simp only [Act.put, List.getElem_toArray, List.getElem_cons_succ, List.getElem_cons_zero, List.setIfInBounds_toArray, List.set_cons_zero, List.set_cons_succ])
    refine wpAnyH_ready (rs := [0]) (by kernel_rfl) (by simp) ?_
    refine AllReadyH.cons rfl (fun K hK => ?_) AllReadyH.nil
    rw [if_pos (by rfl)]
    refine wp_full_ob _ _ 22 rfl 5 byteTy .i64 .i64 64 rfl rfl (by omega) fun w4 h4 b4 => ?_
    refine hK.out _ _ trivial (fun hHeld => ?_)
    clear hK K
    try (simp only [Act.put, List.getElem_toArray, List.getElem_cons_succ, List.getElem_cons_zero, List.setIfInBounds_toArray, List.set_cons_zero, List.set_cons_succ])
    refine wpAnyH_take (i := 2) (v := ?_) rfl (by kernel_rfl) (by kernel_rfl) (by kernel_rfl) (fun _ _ _ h => h) (Or.inl ⟨by rfl, ?_⟩) hHeld ?_
    rotate_left 1
    focus (intro wq hSw; go_simp; try with_reducible rfl)
    try (simp only [Act.put, List.getElem_toArray, List.getElem_cons_succ, List.getElem_cons_zero, List.setIfInBounds_toArray, List.set_cons_zero, List.set_cons_succ])
    refine wpAnyH_take (i := 3) (v := ?_) rfl (by kernel_rfl) (by kernel_rfl) (by kernel_rfl) (fun _ _ _ h => h) (Or.inl ⟨by rfl, ?_⟩) hHeld ?_
    rotate_left 1
    focus (intro wq hSw; go_simp; try with_reducible rfl)
    try (simp only [Act.put, List.getElem_toArray, List.getElem_cons_succ, List.getElem_cons_zero, List.setIfInBounds_toArray, List.set_cons_zero, List.set_cons_succ])
    refine wpAnyH_done (by kernel_rfl) ?_ _
    go_wp2_with fail
    have hlt3 := h3.lt
    have hB34 : Below w2.heap.size w2 w4 := ((Below.refl _ _).drew).trans (b3.mono (Nat.le_refl _) |>.trans (b4.mono b3.size))
    have hX : OwnB w4 5 w3.heap.size 64 64 (List.replicate 64 0) := h4
    have hY : OwnB w4 5 w2.heap.size 64 64 (List.replicate 64 0) := h3.below b4 h3.lt
    have hxy : w3.heap.size ≠ w2.heap.size := by have h1 := b3.size; have h2 := hlt3; simp at h1 h2 ⊢; omega
    have hD4 := hD.past hB34
    have B4 := B2.trans (hB34.mono B2.size)
    obtain ⟨gx, egx⟩ : ∃ g, g = w3.heap.size := ⟨_, rfl⟩
    obtain ⟨gy, egy⟩ : ∃ g, g = w2.heap.size := ⟨_, rfl⟩
    rw [← egx] at hX hxy
    rw [← egy] at hY hxy
    have hgx : w2.heap.size ≤ gx := by have h1 := b3.size; simp at h1; omega
    have hgy : w2.heap.size ≤ gy := by have h1 := b3.size; simp at h1; omega
    simp only [← egx, ← egy]
    clear hB34 b3 b4 hlt3 h3 h4 egx egy
    have hSx : ¬ S gx := fun q => by have := hD.lt gx q; omega
    have hSy : ¬ S gy := fun q => by have := hD.lt gy q; omega
    have hw2 := B2.size
    have hS2 : ∀ k, S k → w.heap.size ≤ k := fun k hk => Nat.le_trans hw1 (hS k hk)
    clear hD
    go_loopw [11] (fun v wr => ∃ i : Nat, i ≤ 64 ∧ v = .int .i64 i ∧ OwnB wr 5 gx 64 64 (List.replicate i ua ++ List.replicate (64 - i) 0) ∧ OwnB wr 5 gy 64 64 (List.replicate i ub ++ List.replicate (64 - i) 0) ∧ IsD wr d 3 S (newD 3) ∧ Below w.heap.size w wr) (fun v _ => (64 - (intOf v).toNat))
    case atStart => exact ⟨0, by omega, rfl, hX, hY, hD4, B4⟩
    case round =>
      clear hX hY hD4 B4
      obtain ⟨i, hi, rfl, hX, hY, hD, hB⟩ := hrel
      by_cases hi64 : i < 64
      · have hi2 : (i : Int) < 64 := by omega
        obtain ⟨vx, cx⟩ := hX.cell_any i hi64
        obtain ⟨vy, cy⟩ := hY.cell_any i hi64
        have fx := hX.free i
        have fy := hY.free i
        have hX1 := (hX.set i ua).kept (w' := (wr.setCell ⟨gx, i, none⟩ (bc ua)).setCell ⟨gy, i, none⟩ (bc ub)) (heap_setCell_other _ _ gx _ (by simpa using hxy))
        have hY0 : OwnB (wr.setCell ⟨gx, i, none⟩ (bc ua)) 5 gy 64 64 (List.replicate i ub ++ List.replicate (64 - i) 0) := hY.kept (heap_setCell_other _ _ gy _ (by simpa using fun e => hxy e.symm))
        have hY1 := hY0.set i ub
        rw [rep_set hi64] at hX1 hY1
        have kk : Kp wr ((wr.setCell ⟨gx, i, none⟩ (bc ua)).setCell ⟨gy, i, none⟩ (bc ub)) (fun k => k = gx ∨ k = gy) := (Kp.set wr gx i (bc ua) (S := fun k => k = gx ∨ k = gy) (.inl rfl)).trans (Kp.set _ gy i (bc ub) (S := fun k => k = gx ∨ k = gy) (.inr rfl)) (fun _ _ q => q)
        have hD1 := hD.kp kk (fun q hq e => by rcases e with e | e; exact hSx (by rw [← e]; exact hq); exact hSy (by rw [← e]; exact hq))
        have B1 := hB.trans (kk.below hB.size (fun k e => by rcases e with e | e <;> omega))
        have HX := Lib.hid (And.intro hX1 (And.intro hY1 (And.intro hD1 B1)))
        clear hX1 hY1 hY0 kk hD1 B1 hX hY hD hB
        unfold bc at HX
        go_wp2_with fail
        go_roundw
        case rel => exact ⟨i + 1, by omega, by go_num, HX.out⟩
        case measure => simp [intOf]; omega
      · obtain rfl : i = 64 := by omega
        rw [show (64 - 64 : Nat) = 0 from rfl, List.replicate_zero, List.append_nil] at hX hY
        obtain ⟨X, hXe⟩ : ∃ X, List.replicate 64 ua = X := ⟨_, rfl⟩
        obtain ⟨Y, hYe⟩ : ∃ Y, List.replicate 64 ub = Y := ⟨_, rfl⟩
        rw [hXe] at hX
        rw [hYe] at hY
        have HXE := Lib.hid hXe
        have HYE := Lib.hid hYe
        clear hXe hYe
        go_wp2_with fail
        refine (write_is hD rfl (room_of (by decide) (by decide)) (by simp [newD]) 2 (by omega) _ 64 64 X hX.isB (by omega)).mono ?_
        rintro e w5 ⟨S5, rfl, hD5, k5, x5⟩
        have hY5 := hY.kp k5 hSy
        have B5 := hB.trans (k5.below hB.size hS2)
        have hS5 := x5.ge hB.size hS2
        have hSy5 : ¬ S5 gy := fun q => by rcases x5 gy q with h | h; exact hSy h; have := hY.lt; omega
        clear hD hX hY k5 x5 hB
        go_wp2_with fail
        refine (sync_is hD5 rfl (room_of (show (-1000000 : Int) ≤ -1 by decide) (show (-1 : Int) ≤ 1000000 by decide)) (show (-1 : Int) ≠ 1 by decide) (by simp [newD, Dk.put, Dk.spent])).mono ?_
        rintro e w6 ⟨S6, rfl, hD6, k6, x6⟩
        have hY6 := hY5.kp k6 hSy5
        have B6 := B5.trans (k6.below B5.size hS5)
        have hS6 := x6.ge B5.size hS5
        clear hD5 hY5 k6 x6 B5
        go_wp2_with fail
        refine (write_is hD6 rfl (room_of (show (-1000000 : Int) ≤ -2 by decide) (show (-2 : Int) ≤ 1000000 by decide)) (by simp [newD, Dk.put, Dk.spent, Dk.sync]) 2 (by omega) _ 64 64 Y hY6.isB (by omega)).mono ?_
        rintro e w7 ⟨S7, rfl, hD7, k7, x7⟩
        have B7 := B6.trans (k7.below B6.size hS6)
        have hS7 := x7.ge B6.size hS6
        clear hD6 hY6 k7 x7 B6
        go_wp2_with fail
        have hD8 := hD7.past ((Below.refl _ _).alloc (Nat.le_refl _) (.cells #[.int .i64 a2] 3))
        have B8 : Below w.heap.size w (w7.alloc (.cells #[.int .i64 a2] 3)) := B7.alloc B7.size _
        refine (crash_is hD8 (by simp [newD, Dk.put, Dk.spent, Dk.sync]) _ 1 1 [a2] (ints_lit w7 3 [a2] 1 rfl (by omega) _ rfl) (fun a ha q => by cases ha; exact absurd (hD7.lt _ q) (Nat.lt_irrefl _))).mono ?_
        rintro e w9 ⟨S9, rfl, hD9, k9, x9⟩
        have B9 := B8.trans (k9.below B8.size hS7)
        clear hD7 hD8 k9 x9 B8 B7
        go_wp2_with fail
        refine (read_is hD9 rfl 2 (by omega)).mono ?_
        rintro e wz ⟨gz, rfl, hZ, hgz, bz⟩
        rw [halves_pg X Y (by rw [← HXE.out]; simp) (by rw [← HYE.out]; simp)] at hZ
        have Bz := B9.trans (bz.mono B9.size)
        clear hD9 bz B9
        have tg : ∀ j, j < 64 → (tk X Y a2)[j]? = some (if a2 / 2 ^ (j / 32) % 2 = 1 then ub else ua) := fun j hj => by
          rw [tk_get (by rw [← HXE.out]; simp) (by rw [← HYE.out]; simp) a2 j hj, ← HXE.out, ← HYE.out]
          by_cases hq : a2 / 2 ^ (j / 32) % 2 = 1
          · rw [if_pos hq, if_pos hq, List.getElem?_replicate, if_pos hj]
          · rw [if_neg hq, if_neg hq, List.getElem?_replicate, if_pos hj]
        have z0 := hZ.cell 0 _ (tg 0 (by omega))
        have z31 := hZ.cell 31 _ (tg 31 (by omega))
        have z32 := hZ.cell 32 _ (tg 32 (by omega))
        have z63 := hZ.cell 63 _ (tg 63 (by omega))
        simp only [show (0 : Nat) / 32 = 0 from rfl, show (31 : Nat) / 32 = 0 from rfl, show (32 : Nat) / 32 = 1 from rfl, show (63 : Nat) / 32 = 1 from rfl, Int.pow_zero, Int.pow_one, Int.ediv_one] at z0 z31 z32 z63
        clear hZ tg
        go_wp2_with fail
        refine (within7_any a2 4 _ (by omega) (by omega)).mono ?_
        rintro e w' ⟨rfl, rfl⟩
        rw [wth4]
        obtain ⟨k, hk⟩ : ∃ k, a2 % 4 = k := ⟨_, rfl⟩
        rw [hk]
        have k0 : 0 ≤ k := by omega
        have k4 : k < 4 := by omega
        by_cases c1 : a2 % 2 = 1
        · rw [if_pos c1] at z0 z31
          have e1 : (k % 2 == 1) = true := by simp; omega
          by_cases c2 : a2 / 2 % 2 = 1
          · rw [if_pos c2] at z32 z63
            have e2 : 2 ≤ k := by omega
            clear hk c1 c2
            unfold bc at z0 z31 z32 z63
            go_wp2_with fail
            go_ret
            exact ⟨by simp, Bz⟩
          · rw [if_neg c2] at z32 z63
            have e2 : ¬ 2 ≤ k := by omega
            clear hk c1 c2
            unfold bc at z0 z31 z32 z63
            go_wp2_with fail
            go_ret
            exact ⟨by simp, Bz⟩
        · rw [if_neg c1] at z0 z31
          have e1 : (k % 2 == 1) = false := by simp; omega
          by_cases c2 : a2 / 2 % 2 = 1
          · rw [if_pos c2] at z32 z63
            have e2 : 2 ≤ k := by omega
            clear hk c1 c2
            unfold bc at z0 z31 z32 z63
            go_wp2_with fail
            go_ret
            exact ⟨by simp, Bz⟩
          · rw [if_neg c2] at z32 z63
            have e2 : ¬ 2 ≤ k := by omega
            clear hk c1 c2
            unfold bc at z0 z31 z32 z63
            go_wp2_with fail
            go_ret
            exact ⟨by simp, Bz⟩
end Go.Proofs.Ytfajggiinoeaiaa
