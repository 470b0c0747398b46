/-
  DiskTampers, walked.
-/
import Derived.Test.YtfajggiinoeaiaaLDPages
import Derived.IntWalk
namespace Go.Proofs.Ytfajggiinoeaiaa
open Go.RowKit
set_option linter.unusedSimpArgs false

theorem mix_drop (x : List UInt8) (i : Nat) (b : List UInt8) (h : i + b.length ≤ 64) : ((mix x i b).drop i).take b.length = b := by
  have hx := pad_length x
  have e : ((pad x).take i).length = i := by simp [hx]; omega
  unfold mix
  rw [List.append_assoc, List.drop_append_of_le_length (by omega), List.drop_of_length_le (by omega), List.nil_append, List.take_left' rfl]
theorem tamper_pg (s : Dk) (P i : Nat) (b : List UInt8) (hP : P < s.last.length) (h : i + b.length ≤ 64) : (s.tamper P i b).pg P = mix (s.last.getD P []) i b := by
  show pad ((s.last.set P (mix (s.last.getD P []) i b)).getD P []) = _
  rw [set_get _ _ _ hP, pad_of (mix_length h)]
theorem tk_none (x y : List UInt8) : tk x y 0 = x := by
  show half x y 0 2 = x
  rw [half_no (by decide), half_no (by decide)]
  rfl
/-- Behind a Crash without picks what was written over stands there: nothing was open, or one Write of that page. -/
theorem crash_pg0 (s : Dk) (P i : Nat) (b : List UInt8) (hp : s.pend = []) (hl : P < s.last.length) (h : i + b.length ≤ 64) : (((s.tamper P i b).crash []).pg P) = mix (s.last.getD P []) i b := by
  have e : (s.tamper P i b).crash [] = { left := 0, gone := false, kept := (cr (s.tamper P i b).kept (s.tamper P i b).last s.pend [] s.pend.length).1, last := (cr (s.tamper P i b).kept (s.tamper P i b).last s.pend [] s.pend.length).2, pend := [] } := rfl
  rw [e, hp]
  exact tamper_pg s P i b hl h
theorem crash_pg1 (s : Dk) (P i : Nat) (b x : List UInt8) (hp : s.pend = [(P, x)]) (hl : P < s.last.length) (hk : P < s.kept.length) (h : i + b.length ≤ 64) : (((s.tamper P i b).crash []).pg P) = mix (s.kept.getD P []) i b := by
  have e : (s.tamper P i b).crash [] = { left := 0, gone := false, kept := (cr (s.tamper P i b).kept (s.tamper P i b).last s.pend [] s.pend.length).1, last := (cr (s.tamper P i b).kept (s.tamper P i b).last s.pend [] s.pend.length).2, pend := [] } := rfl
  rw [e, hp]
  show pad ((cr (s.kept.set P (mix (s.kept.getD P []) i b)) (s.last.set P (mix (s.last.getD P []) i b)) [(P, x)] [] 1).2.getD P []) = _
  have c : (cr (s.kept.set P (mix (s.kept.getD P []) i b)) (s.last.set P (mix (s.last.getD P []) i b)) [(P, x)] [] 1).2 = (s.last.set P (mix (s.last.getD P []) i b)).set P (pad (tk ((s.kept.set P (mix (s.kept.getD P []) i b)).getD P []) (pad x) 0)) := rfl
  rw [c, set_get _ _ _ (by simpa using hl), tk_none, set_get _ _ _ hk, pad_pad, pad_of (mix_length h)]
theorem isB_sub {w : World} {e : TypeId} {g : Nat} {l : List UInt8} (h : OwnB w e g 64 64 l) (i m : Nat) (hi : i < 64) (hm : i + m ≤ 64) : IsB w (some ⟨g, i, none⟩) m (64 - i) ((l.drop i).take m) := by
  have hl := h.len
  refine ⟨by simp [hl]; omega, by omega, by unfold maxLen; omega, (fun h => by cases h), fun a ha j u hu => ?_⟩
  obtain rfl := Option.some.inj ha
  have hj : j < m := by
    have := (List.getElem?_eq_some_iff.1 hu).1
    simp at this
    omega
  rw [List.getElem?_take_of_lt hj, List.getElem?_drop] at hu
  rw [Addr.add_lit]
  exact h.cell _ u hu
theorem slice_sub (g i m : Nat) (hi : i < 64) (hm : i + m ≤ 64) (w : World) : (Instr.slice 22 (.slice (some ⟨g, 0, none⟩) 64 64) (some (.int .i64 (i : Int))) (some (.int .i64 ((i : Int) + (m : Int)))) none).run Try.prog w = .ok (.slice (some ⟨g, i, none⟩) m (64 - i)) w := by
  have hz : (sizeOf (Try.prog.elem 22)).run Try.prog w = .ok 1 w := by kernel_rfl
  rw [run_slice_lh w 22 (some ⟨g, 0, none⟩) 64 64 (by kernel_rfl) .i64 .i64 (i : Int) ((i : Int) + (m : Int)) (by omega) (by omega) (by omega), hz]
  simp only [Result.andThen_ok, sliced]
  rw [Int.toNat_natCast, if_neg (by omega), show ((i : Int) + (m : Int)).toNat = i + m by omega, Option.map_some, Addr.add_lit, Nat.zero_add, Nat.mul_one, Nat.add_sub_cancel_left]
set_option maxRecDepth 100000 in
set_option maxHeartbeats 8000000 in
theorem diskTampers_walk (a0 a1 : Int) (ab : Option Addr) (nb cb : Nat) (lb : List UInt8) (b3 : Bool) (w : World) (_f0 : (Lit.int .i64 a0).wf = true) (_f1 : (Lit.int .i64 a1).wf = true) (hb : IsB w ab nb cb lb) :
    Calls Try.prog 6 #[.int .i64 a0, .int .i64 a1, .slice ab nb cb, .bool b3] w fun e w' => e = .returned (.bool true) ∧ Below w.heap.size w w' := by
  by_cases hlen : nb = 0 ∨ 64 < nb
  · rcases hlen with rfl | hlen
    · go_enter Try.func6, Try.ntmps6
      go_wp2_with fail
      refine (known7_any w).mono ?_
      rintro e w1 ⟨rfl, b1⟩
      go_wp2
      go_ret
      exact ⟨rfl, b1⟩
    · have h1 : (64 : Int) < (nb : Int) := by omega
      have h2 : ((nb : Int) == 0) = false := by simp; omega
      go_enter Try.func6, Try.ntmps6
      go_wp2_with fail
      refine (known7_any w).mono ?_
      rintro e w1 ⟨rfl, b1⟩
      go_wp2
      go_ret
      exact ⟨rfl, b1⟩
  · have hn0 : 0 < nb := by omega
    have hnb : nb ≤ 64 := by omega
    have h2 : ((nb : Int) == 0) = false := by simp; omega
    have h3 : decide ((64 : Int) < (nb : Int)) = false := by simp; omega
    have h4 : (nb : Int) ≤ 64 := by omega
    have h5 : (0 : Int) < (nb : Int) := by omega
    clear hlen
    have hblk : ∀ a, ab = some a → a.block < w.heap.size := fun a ha => by
      have hl := hb.len
      have hc := hb.cell a ha 0 _ (List.getElem?_eq_getElem (by omega))
      have := World.block_lt_of_cell? w _ hc
      have e : (a.add 0).block = a.block := by unfold Addr.add; split <;> rfl
      rwa [e] at this
    obtain ⟨P, hP, hP5i⟩ := wth_of a0 5 (by omega)
    obtain ⟨A, hA, hAi⟩ := wth_of a1 (65 - (nb : Int)) (by omega)
    have hP5 : P < 5 := by omega
    have hAn : A + nb ≤ 64 := by omega
    have hA64 : A < 64 := by omega
    have HP := Lib.hid hP
    have HA := Lib.hid hA
    have HLB := Lib.hid hb.len
    clear hP hA hP5i hAi
    go_enter Try.func6, Try.ntmps6
    go_wp2_with fail
    refine (known7_any w).mono ?_
    rintro e w1 ⟨rfl, b1⟩
    go_wp2_with fail
    refine (new_is 5 w1 (by omega) (by omega)).mono ?_
    rintro e w2 ⟨d, S, rfl, hD, b2, hS⟩
    have hw1 := b1.size
    have B2 := b1.trans (b2.mono b1.size)
    have hS0 : ∀ k, S k → w.heap.size ≤ k := fun k hk => Nat.le_trans hw1 (hS k hk)
    go_wp2_with fail
    refine (within7_any a0 5 _ (by omega) (by omega)).mono ?_
    rintro e w' ⟨rfl, rfl⟩
    rw [HP.out]
    go_wp2_with fail
    refine (within7_any a1 (65 - (nb : Int)) _ (by omega) (by omega)).mono ?_
    rintro e w' ⟨rfl, rfl⟩
    rw [HA.out]
    go_wp2_with fail
    have bI : Below w2.heap.size w2 (w2.alloc (.cells #[.int .u8 1, .int .u8 2, .int .u8 3] 5)) := (Below.refl _ _).alloc (Nat.le_refl _) _
    have hI := isB_lit w2 #[.int .u8 1, .int .u8 2, .int .u8 3] 5 [1, 2, 3] 3 rfl rfl (by omega)
    have hDI := hD.past bI
    have BI := B2.trans (bI.mono B2.size)
    refine (write_is hDI rfl (room_of (by decide) (by decide)) (by simp [newD]) P hP5 _ 3 3 [1, 2, 3] hI (by omega)).mono ?_
    rintro e w3 ⟨S3, rfl, hD3, k3, x3⟩
    have B3 := BI.trans (k3.below BI.size hS0)
    have hS3 := x3.ge BI.size hS0
    clear hD hDI hI k3 x3 BI bI B2 b2 b1
    rw [show (newD 5).code = 0 from rfl]
    have hl5 : (((newD 5).put P [1, 2, 3]).spent).last.length = 5 := hD3.lasts
    have hk5 : (((newD 5).put P [1, 2, 3]).spent).kept.length = 5 := hD3.kepts
    cases b3
    · have hF : ((((((newD 5).put P [1, 2, 3]).spent).tamper P A lb).crash []).pg P |>.drop A).take nb = lb := by
        rw [crash_pg1 _ P A lb (pad [1, 2, 3]) rfl (by rw [hl5]; exact hP5) (by rw [hk5]; exact hP5) (by rw [HLB.out]; exact hAn), ← HLB.out]
        exact mix_drop _ _ _ (by rw [HLB.out]; exact hAn)
      have hG5 : (((newD 5).put P [1, 2, 3]).spent).gone = false := rfl
      have hp5 : (((newD 5).put P [1, 2, 3]).spent).pend.length ≤ 1 := by simp [newD, Dk.put, Dk.spent]
      generalize ((newD 5).put P [1, 2, 3]).spent = s5 at hD3 hl5 hF hG5 hp5
      have hD5 := hD3
      have B5 := B3
      have hS5 := hS3
      have HF5 := Lib.hid hF
      have HG5 := Lib.hid hG5
      have HL5 := Lib.hid hl5
      clear hD3 B3 hS3 hF hG5 hl5 hk5
      go_wp2_with fail
      have hmixl := mix_drop (s5.last.getD P []) A lb (by rw [HLB.out]; exact hAn)
      refine (tamper_is hD5 P A hP5 ab nb cb lb (hb.past B5) (fun a ha q => by have := hS5 _ q; have := hblk a ha; omega) (by omega) (by omega)).mono ?_
      rintro e w6 ⟨S6, rfl, hD6, k6, x6⟩
      have B6 := B5.trans (k6.below B5.size hS5)
      have hS6 := x6.ge B5.size hS5
      clear hD5 k6 x6 B5
      go_wp2_with fail
      refine (read_is hD6 (by exact HG5.out) P hP5).mono ?_
      rintro e w7 ⟨gx, rfl, hX0, hgx, b7⟩
      have hpgx : (((s5.tamper P A lb).pg P).drop A).take nb = lb := by rw [tamper_pg s5 P A lb (by rw [HL5.out]; exact hP5) (by rw [HLB.out]; exact hAn), ← HLB.out]; exact hmixl
      have HPX := Lib.hid hpgx
      have hSgx : ¬ S6 gx := fun q => by have := hD6.lt gx q; omega
      have hD7 := hD6.past b7
      have B7 := B6.trans (b7.mono B6.size)
      clear hD6 b7 B6 hpgx hmixl
      go_wp2_with fail
      refine (crash_is hD7 (by show s5.pend.length ≤ _; omega) none 0 0 [] (IsR.nilR _) (fun a ha => by cases ha)).mono ?_
      rintro e w8 ⟨S8, rfl, hD8, k8, x8⟩
      have hX8 := hX0.kp k8 hSgx
      have B8 := B7.trans (k8.below B7.size hS6)
      clear hD7 k8 x8 B7 hX0
      go_wp2_with fail
      refine (read_is hD8 rfl P hP5).mono ?_
      rintro e w9 ⟨gy, rfl, hY0, hgy, b9⟩
      have B9 := B8.trans (b9.mono B8.size)
      have hD9 := hD8.past b9
      have hDd := hD9.drew
      have hb9 := hb.past B9
      have hX := isB_sub (hX8.below b9 hX8.lt) A nb hA64 hAn
      rw [HPX.out] at hX
      have hY := isB_sub hY0 A nb hA64 hAn
      rw [HF5.out] at hY
      have hsx := fun w' => slice_sub gx A nb hA64 hAn w'
      have hsy := fun w' => slice_sub gy A nb hA64 hAn w'
      have cst := Try.underlying9
      have wr1 : IntKind.i64.wrap ((A : Int) + (nb : Int)) = (A : Int) + (nb : Int) := IntWalk.i64_in _ (by omega)
      have wr2 : IntKind.i64.wrap (65 - (nb : Int)) = 65 - (nb : Int) := IntWalk.i64_in _ (by omega)
      clear hD8 hD9 b9 hX8 hY0 B8
      go_wp2_with fail
      refine wp_region_held_drew (S := fun w' => Below w9.heap.size w9 w') (by kernel_rfl) ((Below.refl _ _).drew) (fun hHeld => ?_)
      refine wpAnyH_take (i := 0) (v := ?_) rfl (by kernel_rfl) (by kernel_rfl) (by kernel_rfl) (fun _ _ _ h => h) (Or.inl ⟨by rfl, ?_⟩) hHeld ?_
      rotate_left 1
      focus (intro wq hSw; go_simp; try with_reducible rfl)
      try (simp only [Act.put, List.getElem_toArray, List.getElem_cons_succ, List.getElem_cons_zero, List.setIfInBounds_toArray, List.set_cons_zero, List.set_cons_succ])
      refine wpAnyH_take (i := 1) (v := ?_) rfl (by kernel_rfl) (by kernel_rfl) (by kernel_rfl) (fun _ _ _ h => h) (Or.inl ⟨by rfl, ?_⟩) hHeld ?_
      rotate_left 1
      focus (intro wq hSw; go_simp; try with_reducible rfl)
      try (simp only [Act.put, List.getElem_toArray, List.getElem_cons_succ, List.getElem_cons_zero, List.setIfInBounds_toArray, List.set_cons_zero, List.set_cons_succ])
      refine wpAnyH_take (i := 2) (v := ?_) rfl (by kernel_rfl) (by kernel_rfl) (by kernel_rfl) (fun _ _ _ h => h) (Or.inl ⟨by rfl, ?_⟩) hHeld ?_
      rotate_left 1
      focus (intro wq hSw; go_simp; try with_reducible rfl)
      try (simp only [Act.put, List.getElem_toArray, List.getElem_cons_succ, List.getElem_cons_zero, List.setIfInBounds_toArray, List.set_cons_zero, List.set_cons_succ])
      refine wpAnyH_take (i := 3) (v := ?_) rfl (by kernel_rfl) (by kernel_rfl) (by kernel_rfl) (fun _ _ _ h => h) (Or.inl ⟨by rfl, ?_⟩) hHeld ?_
      rotate_left 1
      focus (intro wq hSw; go_simp; try with_reducible rfl)
      try (simp only [Act.put, List.getElem_toArray, List.getElem_cons_succ, List.getElem_cons_zero, List.setIfInBounds_toArray, List.set_cons_zero, List.set_cons_succ])
      refine wpAnyH_take (i := 4) (v := ?_) rfl (by kernel_rfl) (by kernel_rfl) (by kernel_rfl) (fun _ _ _ h => h) (Or.inl ⟨by rfl, ?_⟩) hHeld ?_
      rotate_left 1
      focus (intro wq hSw; go_simp; try with_reducible rfl)
      try (simp only [Act.put, List.getElem_toArray, List.getElem_cons_succ, List.getElem_cons_zero, List.setIfInBounds_toArray, List.set_cons_zero, List.set_cons_succ])
      refine wpAnyH_take (i := 5) (v := ?_) rfl (by kernel_rfl) (by kernel_rfl) (by kernel_rfl) (fun _ _ _ h => h) (Or.inl ⟨by rfl, ?_⟩) hHeld ?_
      rotate_left 1
      focus (intro wq hSw; go_simp; try with_reducible rfl)
      try (simp only [Act.put, List.getElem_toArray, List.getElem_cons_succ, List.getElem_cons_zero, List.setIfInBounds_toArray, List.set_cons_zero, List.set_cons_succ])
      refine wpAnyH_take (i := 6) (v := ?_) rfl (by kernel_rfl) (by kernel_rfl) (by kernel_rfl) (fun _ _ _ h => h) (Or.inl ⟨by rfl, ?_⟩) hHeld ?_
      rotate_left 1
      focus (intro wq hSw; go_simp; try with_reducible rfl)
      try (simp only [Act.put, List.getElem_toArray, List.getElem_cons_succ, List.getElem_cons_zero, List.setIfInBounds_toArray, List.set_cons_zero, List.set_cons_succ])
      refine wpAnyH_take (i := 7) (v := ?_) rfl (by kernel_rfl) (by kernel_rfl) (by kernel_rfl) (fun _ _ _ h => h) (Or.inl ⟨by rfl, ?_⟩) hHeld ?_
      rotate_left 1
      focus (intro wq hSw; go_simp; try with_reducible rfl)
      try (simp only [Act.put, List.getElem_toArray, List.getElem_cons_succ, List.getElem_cons_zero, List.setIfInBounds_toArray, List.set_cons_zero, List.set_cons_succ])
      refine wpAnyH_take (i := 8) (v := ?_) rfl (by kernel_rfl) (by kernel_rfl) (by kernel_rfl) (fun _ _ _ h => h) (Or.inl ⟨by rfl, ?_⟩) hHeld ?_
      rotate_left 1
      focus (intro wq hSw; have hcv := hsx wq; go_simp; try with_reducible rfl)
      try (simp only [Act.put, List.getElem_toArray, List.getElem_cons_succ, List.getElem_cons_zero, List.setIfInBounds_toArray, List.set_cons_zero, List.set_cons_succ])
      refine wpAnyH_take (i := 9) (v := ?_) rfl (by kernel_rfl) (by kernel_rfl) (by kernel_rfl) (fun _ _ _ h => h) (Or.inl ⟨by rfl, ?_⟩) hHeld ?_
      rotate_left 1
      focus (intro wq hSw; have hcv := (hX.past hSw).conv byteTy cst; go_simp; try with_reducible rfl)
      try (simp only [Act.put, List.getElem_toArray, List.getElem_cons_succ, List.getElem_cons_zero, List.setIfInBounds_toArray, List.set_cons_zero, List.set_cons_succ])
      refine wpAnyH_take (i := 10) (v := ?_) rfl (by kernel_rfl) (by kernel_rfl) (by kernel_rfl) (fun _ _ _ h => h) (Or.inl ⟨by rfl, ?_⟩) hHeld ?_
      rotate_left 1
      focus (intro wq hSw; go_simp; try with_reducible rfl)
      try (simp only [Act.put, List.getElem_toArray, List.getElem_cons_succ, List.getElem_cons_zero, List.setIfInBounds_toArray, List.set_cons_zero, List.set_cons_succ])
      refine wpAnyH_take (i := 11) (v := ?_) rfl (by kernel_rfl) (by kernel_rfl) (by kernel_rfl) (fun _ _ _ h => h) (Or.inl ⟨by rfl, ?_⟩) hHeld ?_
      rotate_left 1
      focus (intro wq hSw; have hcv := (hb9.past hSw).conv byteTy cst; go_simp; try with_reducible rfl)
      try (simp only [Act.put, List.getElem_toArray, List.getElem_cons_succ, List.getElem_cons_zero, List.setIfInBounds_toArray, List.set_cons_zero, List.set_cons_succ])
      refine wpAnyH_take (i := 12) (v := ?_) rfl (by kernel_rfl) (by kernel_rfl) (by kernel_rfl) (fun _ _ _ h => h) (Or.inl ⟨by rfl, ?_⟩) hHeld ?_
      rotate_left 1
      focus (intro wq hSw; go_simp; try with_reducible rfl)
      try (simp only [Act.put, List.getElem_toArray, List.getElem_cons_succ, List.getElem_cons_zero, List.setIfInBounds_toArray, List.set_cons_zero, List.set_cons_succ])
      refine wpAnyH_take (i := 13) (v := ?_) rfl (by kernel_rfl) (by kernel_rfl) (by kernel_rfl) (fun _ _ _ h => h) (Or.inl ⟨by rfl, ?_⟩) hHeld ?_
      rotate_left 1
      focus (intro wq hSw; go_simp; try with_reducible rfl)
      try (simp only [Act.put, List.getElem_toArray, List.getElem_cons_succ, List.getElem_cons_zero, List.setIfInBounds_toArray, List.set_cons_zero, List.set_cons_succ])
      refine wpAnyH_take (i := 14) (v := ?_) rfl (by kernel_rfl) (by kernel_rfl) (by kernel_rfl) (fun _ _ _ h => h) (Or.inl ⟨by rfl, ?_⟩) hHeld ?_
      rotate_left 1
      focus (intro wq hSw; go_simp; try with_reducible rfl)
      try (simp only [Act.put, List.getElem_toArray, List.getElem_cons_succ, List.getElem_cons_zero, List.setIfInBounds_toArray, List.set_cons_zero, List.set_cons_succ])
      refine wpAnyH_take (i := 15) (v := ?_) rfl (by kernel_rfl) (by kernel_rfl) (by kernel_rfl) (fun _ _ _ h => h) (Or.inl ⟨by rfl, ?_⟩) hHeld ?_
      rotate_left 1
      focus (intro wq hSw; go_simp; try with_reducible rfl)
      try (simp only [Act.put, List.getElem_toArray, List.getElem_cons_succ, List.getElem_cons_zero, List.setIfInBounds_toArray, List.set_cons_zero, List.set_cons_succ])
      refine wpAnyH_take (i := 16) (v := ?_) rfl (by kernel_rfl) (by kernel_rfl) (by kernel_rfl) (fun _ _ _ h => h) (Or.inl ⟨by rfl, ?_⟩) hHeld ?_
      rotate_left 1
      focus (intro wq hSw; go_simp; try with_reducible rfl)
      try (simp only [Act.put, List.getElem_toArray, List.getElem_cons_succ, List.getElem_cons_zero, List.setIfInBounds_toArray, List.set_cons_zero, List.set_cons_succ])
      refine wpAnyH_take (i := 17) (v := ?_) rfl (by kernel_rfl) (by kernel_rfl) (by kernel_rfl) (fun _ _ _ h => h) (Or.inl ⟨by rfl, ?_⟩) hHeld ?_
      rotate_left 1
      focus (intro wq hSw; go_simp; try with_reducible rfl)
      try (simp only [Act.put, List.getElem_toArray, List.getElem_cons_succ, List.getElem_cons_zero, List.setIfInBounds_toArray, List.set_cons_zero, List.set_cons_succ])
      refine wpAnyH_take (i := 18) (v := ?_) rfl (by kernel_rfl) (by kernel_rfl) (by kernel_rfl) (fun _ _ _ h => h) (Or.inl ⟨by rfl, ?_⟩) hHeld ?_
      rotate_left 1
      focus (intro wq hSw; go_simp; try with_reducible rfl)
      try (simp only [Act.put, List.getElem_toArray, List.getElem_cons_succ, List.getElem_cons_zero, List.setIfInBounds_toArray, List.set_cons_zero, List.set_cons_succ])
      refine wpAnyH_take (i := 19) (v := ?_) rfl (by kernel_rfl) (by kernel_rfl) (by kernel_rfl) (fun _ _ _ h => h) (Or.inl ⟨by rfl, ?_⟩) hHeld ?_
      rotate_left 1
      focus (intro wq hSw; go_simp; try with_reducible rfl)
      try (simp only [Act.put, List.getElem_toArray, List.getElem_cons_succ, List.getElem_cons_zero, List.setIfInBounds_toArray, List.set_cons_zero, List.set_cons_succ])
      refine wpAnyH_take (i := 20) (v := ?_) rfl (by kernel_rfl) (by kernel_rfl) (by kernel_rfl) (fun _ _ _ h => h) (Or.inl ⟨by rfl, ?_⟩) hHeld ?_
      rotate_left 1
      focus (intro wq hSw; go_simp; try with_reducible rfl)
      try (simp only [Act.put, List.getElem_toArray, List.getElem_cons_succ, List.getElem_cons_zero, List.setIfInBounds_toArray, List.set_cons_zero, List.set_cons_succ])
      refine wpAnyH_take (i := 21) (v := ?_) rfl (by kernel_rfl) (by kernel_rfl) (by kernel_rfl) (fun _ _ _ h => h) (Or.inl ⟨by rfl, ?_⟩) hHeld ?_
      rotate_left 1
      focus (intro wq hSw; have hcv := hsy wq; go_simp; try with_reducible rfl)
      try (simp only [Act.put, List.getElem_toArray, List.getElem_cons_succ, List.getElem_cons_zero, List.setIfInBounds_toArray, List.set_cons_zero, List.set_cons_succ])
      refine wpAnyH_take (i := 22) (v := ?_) rfl (by kernel_rfl) (by kernel_rfl) (by kernel_rfl) (fun _ _ _ h => h) (Or.inl ⟨by rfl, ?_⟩) hHeld ?_
      rotate_left 1
      focus (intro wq hSw; have hcv := (hY.past hSw).conv byteTy cst; go_simp; try with_reducible rfl)
      try (simp only [Act.put, List.getElem_toArray, List.getElem_cons_succ, List.getElem_cons_zero, List.setIfInBounds_toArray, List.set_cons_zero, List.set_cons_succ])
      refine wpAnyH_take (i := 23) (v := ?_) rfl (by kernel_rfl) (by kernel_rfl) (by kernel_rfl) (fun _ _ _ h => h) (Or.inl ⟨by rfl, ?_⟩) hHeld ?_
      rotate_left 1
      focus (intro wq hSw; go_simp; try with_reducible rfl)
      try (simp only [Act.put, List.getElem_toArray, List.getElem_cons_succ, List.getElem_cons_zero, List.setIfInBounds_toArray, List.set_cons_zero, List.set_cons_succ])
      refine wpAnyH_take (i := 24) (v := ?_) rfl (by kernel_rfl) (by kernel_rfl) (by kernel_rfl) (fun _ _ _ h => h) (Or.inl ⟨by rfl, ?_⟩) hHeld ?_
      rotate_left 1
      focus (intro wq hSw; have hcv := (hb9.past hSw).conv byteTy cst; go_simp; try with_reducible rfl)
      try (simp only [Act.put, List.getElem_toArray, List.getElem_cons_succ, List.getElem_cons_zero, List.setIfInBounds_toArray, List.set_cons_zero, List.set_cons_succ])
      refine wpAnyH_take (i := 25) (v := ?_) rfl (by kernel_rfl) (by kernel_rfl) (by kernel_rfl) (fun _ _ _ h => h) (Or.inl ⟨by rfl, ?_⟩) hHeld ?_
      rotate_left 1
      focus (intro wq hSw; go_simp; try with_reducible rfl)
      try (simp only [Act.put, List.getElem_toArray, List.getElem_cons_succ, List.getElem_cons_zero, List.setIfInBounds_toArray, List.set_cons_zero, List.set_cons_succ])
      refine wpAnyH_take (i := 26) (v := ?_) rfl (by kernel_rfl) (by kernel_rfl) (by kernel_rfl) (fun _ _ _ h => h) (Or.inl ⟨by rfl, ?_⟩) hHeld ?_
      rotate_left 1
      focus (intro wq hSw; go_simp; try with_reducible rfl)
      try (simp only [Act.put, List.getElem_toArray, List.getElem_cons_succ, List.getElem_cons_zero, List.setIfInBounds_toArray, List.set_cons_zero, List.set_cons_succ])
      refine wpAnyH_take (i := 27) (v := ?_) rfl (by kernel_rfl) (by kernel_rfl) (by kernel_rfl) (fun _ _ _ h => h) (Or.inl ⟨by rfl, ?_⟩) hHeld ?_
      rotate_left 1
      focus (intro wq hSw; go_simp; try with_reducible rfl)
      try (simp only [Act.put, List.getElem_toArray, List.getElem_cons_succ, List.getElem_cons_zero, List.setIfInBounds_toArray, List.set_cons_zero, List.set_cons_succ])
      refine wpAnyH_take (i := 28) (v := ?_) rfl (by kernel_rfl) (by kernel_rfl) (by kernel_rfl) (fun _ _ _ h => h) (Or.inl ⟨by rfl, ?_⟩) hHeld ?_
      rotate_left 1
      focus (intro wq hSw; go_simp; try with_reducible rfl)
      try (simp only [Act.put, List.getElem_toArray, List.getElem_cons_succ, List.getElem_cons_zero, List.setIfInBounds_toArray, List.set_cons_zero, List.set_cons_succ])
      refine wpAnyH_take (i := 29) (v := ?_) rfl (by kernel_rfl) (by kernel_rfl) (by kernel_rfl) (fun _ _ _ h => h) (Or.inl ⟨by rfl, ?_⟩) hHeld ?_
      rotate_left 1
      focus (intro wq hSw; go_simp; try with_reducible rfl)
      try (simp only [Act.put, List.getElem_toArray, List.getElem_cons_succ, List.getElem_cons_zero, List.setIfInBounds_toArray, List.set_cons_zero, List.set_cons_succ])
      refine wpAnyH_take (i := 30) (v := ?_) rfl (by kernel_rfl) (by kernel_rfl) (by kernel_rfl) (fun _ _ _ h => h) (Or.inl ⟨by rfl, ?_⟩) hHeld ?_
      rotate_left 1
      focus (intro wq hSw; go_simp; try with_reducible rfl)
      try (simp only [Act.put, List.getElem_toArray, List.getElem_cons_succ, List.getElem_cons_zero, List.setIfInBounds_toArray, List.set_cons_zero, List.set_cons_succ])
      refine wpAnyH_take (i := 31) (v := ?_) rfl (by kernel_rfl) (by kernel_rfl) (by kernel_rfl) (fun _ _ _ h => h) (Or.inl ⟨by rfl, ?_⟩) hHeld ?_
      rotate_left 1
      focus (intro wq hSw; go_simp; try with_reducible rfl)
      try (simp only [Act.put, List.getElem_toArray, List.getElem_cons_succ, List.getElem_cons_zero, List.setIfInBounds_toArray, List.set_cons_zero, List.set_cons_succ])
      refine wpAnyH_take (i := 32) (v := ?_) rfl (by kernel_rfl) (by kernel_rfl) (by kernel_rfl) (fun _ _ _ h => h) (Or.inl ⟨by rfl, ?_⟩) hHeld ?_
      rotate_left 1
      focus (intro wq hSw; go_simp; try with_reducible rfl)
      try (simp only [Act.put, List.getElem_toArray, List.getElem_cons_succ, List.getElem_cons_zero, List.setIfInBounds_toArray, List.set_cons_zero, List.set_cons_succ])
      refine wpAnyH_take (i := 33) (v := ?_) rfl (by kernel_rfl) (by kernel_rfl) (by kernel_rfl) (fun _ _ _ h => h) (Or.inl ⟨by rfl, ?_⟩) hHeld ?_
      rotate_left 1
      focus (intro wq hSw; go_simp; try with_reducible rfl)
      try (simp only [Act.put, List.getElem_toArray, List.getElem_cons_succ, List.getElem_cons_zero, List.setIfInBounds_toArray, List.set_cons_zero, List.set_cons_succ])
      refine wpAnyH_ready (rs := [34]) (by kernel_rfl) (by simp) ?_
      refine AllReadyH.cons rfl (fun K hK => ?_) AllReadyH.nil
      go_simp
      go_at_call 19
      (with_reducible refine (tamper_out_is hDd P (65 - (nb : Int)) hP5 ab nb cb (by omega) (.inr (by omega))).mono ?_)
      rintro e w' ⟨rfl, rfl⟩
      refine hK.out _ _ (((Below.refl _ _).drew)) (fun hHeld => ?_)
      clear hK K
      try (simp only [Act.put, List.getElem_toArray, List.getElem_cons_succ, List.getElem_cons_zero, List.setIfInBounds_toArray, List.set_cons_zero, List.set_cons_succ])
      refine wpAnyH_take (i := 35) (v := ?_) rfl (by kernel_rfl) (by kernel_rfl) (by kernel_rfl) (fun _ _ _ h => h) (Or.inl ⟨by rfl, ?_⟩) hHeld ?_
      rotate_left 1
      focus (intro wq hSw; go_simp; try with_reducible rfl)
      try (simp only [Act.put, List.getElem_toArray, List.getElem_cons_succ, List.getElem_cons_zero, List.setIfInBounds_toArray, List.set_cons_zero, List.set_cons_succ])
      refine wpAnyH_take (i := 36) (v := ?_) rfl (by kernel_rfl) (by kernel_rfl) (by kernel_rfl) (fun _ _ _ h => h) (Or.inl ⟨by rfl, ?_⟩) hHeld ?_
      rotate_left 1
      focus (intro wq hSw; go_simp; try with_reducible rfl)
      try (simp only [Act.put, List.getElem_toArray, List.getElem_cons_succ, List.getElem_cons_zero, List.setIfInBounds_toArray, List.set_cons_zero, List.set_cons_succ])
      refine wpAnyH_take (i := 37) (v := ?_) rfl (by kernel_rfl) (by kernel_rfl) (by kernel_rfl) (fun _ _ _ h => h) (Or.inl ⟨by rfl, ?_⟩) hHeld ?_
      rotate_left 1
      focus (intro wq hSw; go_simp; try with_reducible rfl)
      try (simp only [Act.put, List.getElem_toArray, List.getElem_cons_succ, List.getElem_cons_zero, List.setIfInBounds_toArray, List.set_cons_zero, List.set_cons_succ])
      refine wpAnyH_take (i := 38) (v := ?_) rfl (by kernel_rfl) (by kernel_rfl) (by kernel_rfl) (fun _ _ _ h => h) (Or.inl ⟨by rfl, ?_⟩) hHeld ?_
      rotate_left 1
      focus (intro wq hSw; go_simp; try with_reducible rfl)
      try (simp only [Act.put, List.getElem_toArray, List.getElem_cons_succ, List.getElem_cons_zero, List.setIfInBounds_toArray, List.set_cons_zero, List.set_cons_succ])
      refine wpAnyH_take (i := 39) (v := ?_) rfl (by kernel_rfl) (by kernel_rfl) (by kernel_rfl) (fun _ _ _ h => h) (Or.inl ⟨by rfl, ?_⟩) hHeld ?_
      rotate_left 1
      focus (intro wq hSw; go_simp; try with_reducible rfl)
      try (simp only [Act.put, List.getElem_toArray, List.getElem_cons_succ, List.getElem_cons_zero, List.setIfInBounds_toArray, List.set_cons_zero, List.set_cons_succ])
      refine wpAnyH_take (i := 40) (v := ?_) rfl (by kernel_rfl) (by kernel_rfl) (by kernel_rfl) (fun _ _ _ h => h) (Or.inl ⟨by rfl, ?_⟩) hHeld ?_
      rotate_left 1
      focus (intro wq hSw; go_simp; try with_reducible rfl)
      try (simp only [Act.put, List.getElem_toArray, List.getElem_cons_succ, List.getElem_cons_zero, List.setIfInBounds_toArray, List.set_cons_zero, List.set_cons_succ])
      refine wpAnyH_ready (rs := [41]) (by kernel_rfl) (by simp) ?_
      refine AllReadyH.cons rfl (fun K hK => ?_) AllReadyH.nil
      go_simp
      go_at_call 19
      (with_reducible refine (tamper_out_is hDd P (-1) hP5 ab nb cb (by omega) (.inl (by omega))).mono ?_)
      rintro e w' ⟨rfl, rfl⟩
      refine hK.out _ _ (((Below.refl _ _).drew)) (fun hHeld => ?_)
      clear hK K
      try (simp only [Act.put, List.getElem_toArray, List.getElem_cons_succ, List.getElem_cons_zero, List.setIfInBounds_toArray, List.set_cons_zero, List.set_cons_succ])
      refine wpAnyH_take (i := 42) (v := ?_) rfl (by kernel_rfl) (by kernel_rfl) (by kernel_rfl) (fun _ _ _ h => h) (Or.inl ⟨by rfl, ?_⟩) hHeld ?_
      rotate_left 1
      focus (intro wq hSw; go_simp; try with_reducible rfl)
      try (simp only [Act.put, List.getElem_toArray, List.getElem_cons_succ, List.getElem_cons_zero, List.setIfInBounds_toArray, List.set_cons_zero, List.set_cons_succ])
      refine wpAnyH_take (i := 43) (v := ?_) rfl (by kernel_rfl) (by kernel_rfl) (by kernel_rfl) (fun _ _ _ h => h) (Or.inl ⟨by rfl, ?_⟩) hHeld ?_
      rotate_left 1
      focus (intro wq hSw; go_simp; try with_reducible rfl)
      try (simp only [Act.put, List.getElem_toArray, List.getElem_cons_succ, List.getElem_cons_zero, List.setIfInBounds_toArray, List.set_cons_zero, List.set_cons_succ])
      refine wpAnyH_take (i := 44) (v := ?_) rfl (by kernel_rfl) (by kernel_rfl) (by kernel_rfl) (fun _ _ _ h => h) (Or.inl ⟨by rfl, ?_⟩) hHeld ?_
      rotate_left 1
      focus (intro wq hSw; go_simp; try with_reducible rfl)
      try (simp only [Act.put, List.getElem_toArray, List.getElem_cons_succ, List.getElem_cons_zero, List.setIfInBounds_toArray, List.set_cons_zero, List.set_cons_succ])
      refine wpAnyH_take (i := 45) (v := ?_) rfl (by kernel_rfl) (by kernel_rfl) (by kernel_rfl) (fun _ _ _ h => h) (Or.inl ⟨by rfl, ?_⟩) hHeld ?_
      rotate_left 1
      focus (intro wq hSw; go_simp; try with_reducible rfl)
      try (simp only [Act.put, List.getElem_toArray, List.getElem_cons_succ, List.getElem_cons_zero, List.setIfInBounds_toArray, List.set_cons_zero, List.set_cons_succ])
      refine wpAnyH_take (i := 46) (v := ?_) rfl (by kernel_rfl) (by kernel_rfl) (by kernel_rfl) (fun _ _ _ h => h) (Or.inl ⟨by rfl, ?_⟩) hHeld ?_
      rotate_left 1
      focus (intro wq hSw; go_simp; try with_reducible rfl)
      try (simp only [Act.put, List.getElem_toArray, List.getElem_cons_succ, List.getElem_cons_zero, List.setIfInBounds_toArray, List.set_cons_zero, List.set_cons_succ])
      refine wpAnyH_ready (rs := [47]) (by kernel_rfl) (by simp) ?_
      refine AllReadyH.cons rfl (fun K hK => ?_) AllReadyH.nil
      go_simp
      go_at_call 19
      (with_reducible refine (tamper_none_is hDd 5 0 (.inr (by omega)) ab nb cb).mono ?_)
      rintro e w' ⟨rfl, rfl⟩
      refine hK.out _ _ (((Below.refl _ _).drew)) (fun hHeld => ?_)
      clear hK K
      try (simp only [Act.put, List.getElem_toArray, List.getElem_cons_succ, List.getElem_cons_zero, List.setIfInBounds_toArray, List.set_cons_zero, List.set_cons_succ])
      refine wpAnyH_take (i := 48) (v := ?_) rfl (by kernel_rfl) (by kernel_rfl) (by kernel_rfl) (fun _ _ _ h => h) (Or.inl ⟨by rfl, ?_⟩) hHeld ?_
      rotate_left 1
      focus (intro wq hSw; go_simp; try with_reducible rfl)
      try (simp only [Act.put, List.getElem_toArray, List.getElem_cons_succ, List.getElem_cons_zero, List.setIfInBounds_toArray, List.set_cons_zero, List.set_cons_succ])
      refine wpAnyH_take (i := 49) (v := ?_) rfl (by kernel_rfl) (by kernel_rfl) (by kernel_rfl) (fun _ _ _ h => h) (Or.inl ⟨by rfl, ?_⟩) hHeld ?_
      rotate_left 1
      focus (intro wq hSw; go_simp; try with_reducible rfl)
      try (simp only [Act.put, List.getElem_toArray, List.getElem_cons_succ, List.getElem_cons_zero, List.setIfInBounds_toArray, List.set_cons_zero, List.set_cons_succ])
      refine wpAnyH_take (i := 50) (v := ?_) rfl (by kernel_rfl) (by kernel_rfl) (by kernel_rfl) (fun _ _ _ h => h) (Or.inl ⟨by rfl, ?_⟩) hHeld ?_
      rotate_left 1
      focus (intro wq hSw; go_simp; try with_reducible rfl)
      try (simp only [Act.put, List.getElem_toArray, List.getElem_cons_succ, List.getElem_cons_zero, List.setIfInBounds_toArray, List.set_cons_zero, List.set_cons_succ])
      refine wpAnyH_done (by kernel_rfl) ?_ _
      go_wp2_with fail
      go_ret
      exact ⟨by simp, B9.drew⟩
    · go_wp2_with fail
      refine (sync_is hD3 rfl (room_of (show (-1000000 : Int) ≤ -1 by decide) (show (-1 : Int) ≤ 1000000 by decide)) (show (-1 : Int) ≠ 1 by decide) (by simp [newD, Dk.put, Dk.spent])).mono ?_
      rintro e w5 ⟨S5, rfl, hD5, k5, x5⟩
      have B5 := B3.trans (k5.below B3.size hS3)
      have hS5 := x5.ge B3.size hS3
      have hF : ((((((newD 5).put P [1, 2, 3]).spent).sync.tamper P A lb).crash []).pg P |>.drop A).take nb = lb := by
        rw [crash_pg0 _ P A lb rfl (by show P < (((newD 5).put P [1, 2, 3]).spent).last.length; rw [hl5]; exact hP5) (by rw [HLB.out]; exact hAn), ← HLB.out]
        exact mix_drop _ _ _ (by rw [HLB.out]; exact hAn)
      have hG5 : (((newD 5).put P [1, 2, 3]).spent).sync.gone = false := rfl
      have hp5 : (((newD 5).put P [1, 2, 3]).spent).sync.pend.length ≤ 1 := by simp [Dk.sync]
      have hl6 : (((newD 5).put P [1, 2, 3]).spent).sync.last.length = 5 := hl5
      generalize ((newD 5).put P [1, 2, 3]).spent.sync = s5 at hD5 hl6 hF hG5 hp5
      have HF5 := Lib.hid hF
      have HG5 := Lib.hid hG5
      have HL5 := Lib.hid hl6
      clear hD3 B3 hS3 hF hG5 hl5 hk5 hl6 k5 x5
      go_wp2_with fail
      have hmixl := mix_drop (s5.last.getD P []) A lb (by rw [HLB.out]; exact hAn)
      refine (tamper_is hD5 P A hP5 ab nb cb lb (hb.past B5) (fun a ha q => by have := hS5 _ q; have := hblk a ha; omega) (by omega) (by omega)).mono ?_
      rintro e w6 ⟨S6, rfl, hD6, k6, x6⟩
      have B6 := B5.trans (k6.below B5.size hS5)
      have hS6 := x6.ge B5.size hS5
      clear hD5 k6 x6 B5
      go_wp2_with fail
      refine (read_is hD6 (by exact HG5.out) P hP5).mono ?_
      rintro e w7 ⟨gx, rfl, hX0, hgx, b7⟩
      have hpgx : (((s5.tamper P A lb).pg P).drop A).take nb = lb := by rw [tamper_pg s5 P A lb (by rw [HL5.out]; exact hP5) (by rw [HLB.out]; exact hAn), ← HLB.out]; exact hmixl
      have HPX := Lib.hid hpgx
      have hSgx : ¬ S6 gx := fun q => by have := hD6.lt gx q; omega
      have hD7 := hD6.past b7
      have B7 := B6.trans (b7.mono B6.size)
      clear hD6 b7 B6 hpgx hmixl
      go_wp2_with fail
      refine (crash_is hD7 (by show s5.pend.length ≤ _; omega) none 0 0 [] (IsR.nilR _) (fun a ha => by cases ha)).mono ?_
      rintro e w8 ⟨S8, rfl, hD8, k8, x8⟩
      have hX8 := hX0.kp k8 hSgx
      have B8 := B7.trans (k8.below B7.size hS6)
      clear hD7 k8 x8 B7 hX0
      go_wp2_with fail
      refine (read_is hD8 rfl P hP5).mono ?_
      rintro e w9 ⟨gy, rfl, hY0, hgy, b9⟩
      have B9 := B8.trans (b9.mono B8.size)
      have hD9 := hD8.past b9
      have hDd := hD9.drew
      have hb9 := hb.past B9
      have hX := isB_sub (hX8.below b9 hX8.lt) A nb hA64 hAn
      rw [HPX.out] at hX
      have hY := isB_sub hY0 A nb hA64 hAn
      rw [HF5.out] at hY
      have hsx := fun w' => slice_sub gx A nb hA64 hAn w'
      have hsy := fun w' => slice_sub gy A nb hA64 hAn w'
      have cst := Try.underlying9
      have wr1 : IntKind.i64.wrap ((A : Int) + (nb : Int)) = (A : Int) + (nb : Int) := IntWalk.i64_in _ (by omega)
      have wr2 : IntKind.i64.wrap (65 - (nb : Int)) = 65 - (nb : Int) := IntWalk.i64_in _ (by omega)
      clear hD8 hD9 b9 hX8 hY0 B8
      go_wp2_with fail
      refine wp_region_held_drew (S := fun w' => Below w9.heap.size w9 w') (by kernel_rfl) ((Below.refl _ _).drew) (fun hHeld => ?_)
      refine wpAnyH_take (i := 0) (v := ?_) rfl (by kernel_rfl) (by kernel_rfl) (by kernel_rfl) (fun _ _ _ h => h) (Or.inl ⟨by rfl, ?_⟩) hHeld ?_
      rotate_left 1
      focus (intro wq hSw; go_simp; try with_reducible rfl)
      try (simp only [Act.put, List.getElem_toArray, List.getElem_cons_succ, List.getElem_cons_zero, List.setIfInBounds_toArray, List.set_cons_zero, List.set_cons_succ])
      refine wpAnyH_take (i := 1) (v := ?_) rfl (by kernel_rfl) (by kernel_rfl) (by kernel_rfl) (fun _ _ _ h => h) (Or.inl ⟨by rfl, ?_⟩) hHeld ?_
      rotate_left 1
      focus (intro wq hSw; go_simp; try with_reducible rfl)
      try (simp only [Act.put, List.getElem_toArray, List.getElem_cons_succ, List.getElem_cons_zero, List.setIfInBounds_toArray, List.set_cons_zero, List.set_cons_succ])
      refine wpAnyH_take (i := 2) (v := ?_) rfl (by kernel_rfl) (by kernel_rfl) (by kernel_rfl) (fun _ _ _ h => h) (Or.inl ⟨by rfl, ?_⟩) hHeld ?_
      rotate_left 1
      focus (intro wq hSw; go_simp; try with_reducible rfl)
      try (simp only [Act.put, List.getElem_toArray, List.getElem_cons_succ, List.getElem_cons_zero, List.setIfInBounds_toArray, List.set_cons_zero, List.set_cons_succ])
      refine wpAnyH_take (i := 3) (v := ?_) rfl (by kernel_rfl) (by kernel_rfl) (by kernel_rfl) (fun _ _ _ h => h) (Or.inl ⟨by rfl, ?_⟩) hHeld ?_
      rotate_left 1
      focus (intro wq hSw; go_simp; try with_reducible rfl)
      try (simp only [Act.put, List.getElem_toArray, List.getElem_cons_succ, List.getElem_cons_zero, List.setIfInBounds_toArray, List.set_cons_zero, List.set_cons_succ])
      refine wpAnyH_take (i := 4) (v := ?_) rfl (by kernel_rfl) (by kernel_rfl) (by kernel_rfl) (fun _ _ _ h => h) (Or.inl ⟨by rfl, ?_⟩) hHeld ?_
      rotate_left 1
      focus (intro wq hSw; go_simp; try with_reducible rfl)
      try (simp only [Act.put, List.getElem_toArray, List.getElem_cons_succ, List.getElem_cons_zero, List.setIfInBounds_toArray, List.set_cons_zero, List.set_cons_succ])
      refine wpAnyH_take (i := 5) (v := ?_) rfl (by kernel_rfl) (by kernel_rfl) (by kernel_rfl) (fun _ _ _ h => h) (Or.inl ⟨by rfl, ?_⟩) hHeld ?_
      rotate_left 1
      focus (intro wq hSw; go_simp; try with_reducible rfl)
      try (simp only [Act.put, List.getElem_toArray, List.getElem_cons_succ, List.getElem_cons_zero, List.setIfInBounds_toArray, List.set_cons_zero, List.set_cons_succ])
      refine wpAnyH_take (i := 6) (v := ?_) rfl (by kernel_rfl) (by kernel_rfl) (by kernel_rfl) (fun _ _ _ h => h) (Or.inl ⟨by rfl, ?_⟩) hHeld ?_
      rotate_left 1
      focus (intro wq hSw; go_simp; try with_reducible rfl)
      try (simp only [Act.put, List.getElem_toArray, List.getElem_cons_succ, List.getElem_cons_zero, List.setIfInBounds_toArray, List.set_cons_zero, List.set_cons_succ])
      refine wpAnyH_take (i := 7) (v := ?_) rfl (by kernel_rfl) (by kernel_rfl) (by kernel_rfl) (fun _ _ _ h => h) (Or.inl ⟨by rfl, ?_⟩) hHeld ?_
      rotate_left 1
      focus (intro wq hSw; go_simp; try with_reducible rfl)
      try (simp only [Act.put, List.getElem_toArray, List.getElem_cons_succ, List.getElem_cons_zero, List.setIfInBounds_toArray, List.set_cons_zero, List.set_cons_succ])
      refine wpAnyH_take (i := 8) (v := ?_) rfl (by kernel_rfl) (by kernel_rfl) (by kernel_rfl) (fun _ _ _ h => h) (Or.inl ⟨by rfl, ?_⟩) hHeld ?_
      rotate_left 1
      focus (intro wq hSw; have hcv := hsx wq; go_simp; try with_reducible rfl)
      try (simp only [Act.put, List.getElem_toArray, List.getElem_cons_succ, List.getElem_cons_zero, List.setIfInBounds_toArray, List.set_cons_zero, List.set_cons_succ])
      refine wpAnyH_take (i := 9) (v := ?_) rfl (by kernel_rfl) (by kernel_rfl) (by kernel_rfl) (fun _ _ _ h => h) (Or.inl ⟨by rfl, ?_⟩) hHeld ?_
      rotate_left 1
      focus (intro wq hSw; have hcv := (hX.past hSw).conv byteTy cst; go_simp; try with_reducible rfl)
      try (simp only [Act.put, List.getElem_toArray, List.getElem_cons_succ, List.getElem_cons_zero, List.setIfInBounds_toArray, List.set_cons_zero, List.set_cons_succ])
      refine wpAnyH_take (i := 10) (v := ?_) rfl (by kernel_rfl) (by kernel_rfl) (by kernel_rfl) (fun _ _ _ h => h) (Or.inl ⟨by rfl, ?_⟩) hHeld ?_
      rotate_left 1
      focus (intro wq hSw; go_simp; try with_reducible rfl)
      try (simp only [Act.put, List.getElem_toArray, List.getElem_cons_succ, List.getElem_cons_zero, List.setIfInBounds_toArray, List.set_cons_zero, List.set_cons_succ])
      refine wpAnyH_take (i := 11) (v := ?_) rfl (by kernel_rfl) (by kernel_rfl) (by kernel_rfl) (fun _ _ _ h => h) (Or.inl ⟨by rfl, ?_⟩) hHeld ?_
      rotate_left 1
      focus (intro wq hSw; have hcv := (hb9.past hSw).conv byteTy cst; go_simp; try with_reducible rfl)
      try (simp only [Act.put, List.getElem_toArray, List.getElem_cons_succ, List.getElem_cons_zero, List.setIfInBounds_toArray, List.set_cons_zero, List.set_cons_succ])
      refine wpAnyH_take (i := 12) (v := ?_) rfl (by kernel_rfl) (by kernel_rfl) (by kernel_rfl) (fun _ _ _ h => h) (Or.inl ⟨by rfl, ?_⟩) hHeld ?_
      rotate_left 1
      focus (intro wq hSw; go_simp; try with_reducible rfl)
      try (simp only [Act.put, List.getElem_toArray, List.getElem_cons_succ, List.getElem_cons_zero, List.setIfInBounds_toArray, List.set_cons_zero, List.set_cons_succ])
      refine wpAnyH_take (i := 13) (v := ?_) rfl (by kernel_rfl) (by kernel_rfl) (by kernel_rfl) (fun _ _ _ h => h) (Or.inl ⟨by rfl, ?_⟩) hHeld ?_
      rotate_left 1
      focus (intro wq hSw; go_simp; try with_reducible rfl)
      try (simp only [Act.put, List.getElem_toArray, List.getElem_cons_succ, List.getElem_cons_zero, List.setIfInBounds_toArray, List.set_cons_zero, List.set_cons_succ])
      refine wpAnyH_take (i := 14) (v := ?_) rfl (by kernel_rfl) (by kernel_rfl) (by kernel_rfl) (fun _ _ _ h => h) (Or.inl ⟨by rfl, ?_⟩) hHeld ?_
      rotate_left 1
      focus (intro wq hSw; go_simp; try with_reducible rfl)
      try (simp only [Act.put, List.getElem_toArray, List.getElem_cons_succ, List.getElem_cons_zero, List.setIfInBounds_toArray, List.set_cons_zero, List.set_cons_succ])
      refine wpAnyH_take (i := 15) (v := ?_) rfl (by kernel_rfl) (by kernel_rfl) (by kernel_rfl) (fun _ _ _ h => h) (Or.inl ⟨by rfl, ?_⟩) hHeld ?_
      rotate_left 1
      focus (intro wq hSw; go_simp; try with_reducible rfl)
      try (simp only [Act.put, List.getElem_toArray, List.getElem_cons_succ, List.getElem_cons_zero, List.setIfInBounds_toArray, List.set_cons_zero, List.set_cons_succ])
      refine wpAnyH_take (i := 16) (v := ?_) rfl (by kernel_rfl) (by kernel_rfl) (by kernel_rfl) (fun _ _ _ h => h) (Or.inl ⟨by rfl, ?_⟩) hHeld ?_
      rotate_left 1
      focus (intro wq hSw; go_simp; try with_reducible rfl)
      try (simp only [Act.put, List.getElem_toArray, List.getElem_cons_succ, List.getElem_cons_zero, List.setIfInBounds_toArray, List.set_cons_zero, List.set_cons_succ])
      refine wpAnyH_take (i := 17) (v := ?_) rfl (by kernel_rfl) (by kernel_rfl) (by kernel_rfl) (fun _ _ _ h => h) (Or.inl ⟨by rfl, ?_⟩) hHeld ?_
      rotate_left 1
      focus (intro wq hSw; go_simp; try with_reducible rfl)
      try (simp only [Act.put, List.getElem_toArray, List.getElem_cons_succ, List.getElem_cons_zero, List.setIfInBounds_toArray, List.set_cons_zero, List.set_cons_succ])
      refine wpAnyH_take (i := 18) (v := ?_) rfl (by kernel_rfl) (by kernel_rfl) (by kernel_rfl) (fun _ _ _ h => h) (Or.inl ⟨by rfl, ?_⟩) hHeld ?_
      rotate_left 1
      focus (intro wq hSw; go_simp; try with_reducible rfl)
      try (simp only [Act.put, List.getElem_toArray, List.getElem_cons_succ, List.getElem_cons_zero, List.setIfInBounds_toArray, List.set_cons_zero, List.set_cons_succ])
      refine wpAnyH_take (i := 19) (v := ?_) rfl (by kernel_rfl) (by kernel_rfl) (by kernel_rfl) (fun _ _ _ h => h) (Or.inl ⟨by rfl, ?_⟩) hHeld ?_
      rotate_left 1
      focus (intro wq hSw; go_simp; try with_reducible rfl)
      try (simp only [Act.put, List.getElem_toArray, List.getElem_cons_succ, List.getElem_cons_zero, List.setIfInBounds_toArray, List.set_cons_zero, List.set_cons_succ])
      refine wpAnyH_take (i := 20) (v := ?_) rfl (by kernel_rfl) (by kernel_rfl) (by kernel_rfl) (fun _ _ _ h => h) (Or.inl ⟨by rfl, ?_⟩) hHeld ?_
      rotate_left 1
      focus (intro wq hSw; go_simp; try with_reducible rfl)
      try (simp only [Act.put, List.getElem_toArray, List.getElem_cons_succ, List.getElem_cons_zero, List.setIfInBounds_toArray, List.set_cons_zero, List.set_cons_succ])
      refine wpAnyH_take (i := 21) (v := ?_) rfl (by kernel_rfl) (by kernel_rfl) (by kernel_rfl) (fun _ _ _ h => h) (Or.inl ⟨by rfl, ?_⟩) hHeld ?_
      rotate_left 1
      focus (intro wq hSw; have hcv := hsy wq; go_simp; try with_reducible rfl)
      try (simp only [Act.put, List.getElem_toArray, List.getElem_cons_succ, List.getElem_cons_zero, List.setIfInBounds_toArray, List.set_cons_zero, List.set_cons_succ])
      refine wpAnyH_take (i := 22) (v := ?_) rfl (by kernel_rfl) (by kernel_rfl) (by kernel_rfl) (fun _ _ _ h => h) (Or.inl ⟨by rfl, ?_⟩) hHeld ?_
      rotate_left 1
      focus (intro wq hSw; have hcv := (hY.past hSw).conv byteTy cst; go_simp; try with_reducible rfl)
      try (simp only [Act.put, List.getElem_toArray, List.getElem_cons_succ, List.getElem_cons_zero, List.setIfInBounds_toArray, List.set_cons_zero, List.set_cons_succ])
      refine wpAnyH_take (i := 23) (v := ?_) rfl (by kernel_rfl) (by kernel_rfl) (by kernel_rfl) (fun _ _ _ h => h) (Or.inl ⟨by rfl, ?_⟩) hHeld ?_
      rotate_left 1
      focus (intro wq hSw; go_simp; try with_reducible rfl)
      try (simp only [Act.put, List.getElem_toArray, List.getElem_cons_succ, List.getElem_cons_zero, List.setIfInBounds_toArray, List.set_cons_zero, List.set_cons_succ])
      refine wpAnyH_take (i := 24) (v := ?_) rfl (by kernel_rfl) (by kernel_rfl) (by kernel_rfl) (fun _ _ _ h => h) (Or.inl ⟨by rfl, ?_⟩) hHeld ?_
      rotate_left 1
      focus (intro wq hSw; have hcv := (hb9.past hSw).conv byteTy cst; go_simp; try with_reducible rfl)
      try (simp only [Act.put, List.getElem_toArray, List.getElem_cons_succ, List.getElem_cons_zero, List.setIfInBounds_toArray, List.set_cons_zero, List.set_cons_succ])
      refine wpAnyH_take (i := 25) (v := ?_) rfl (by kernel_rfl) (by kernel_rfl) (by kernel_rfl) (fun _ _ _ h => h) (Or.inl ⟨by rfl, ?_⟩) hHeld ?_
      rotate_left 1
      focus (intro wq hSw; go_simp; try with_reducible rfl)
      try (simp only [Act.put, List.getElem_toArray, List.getElem_cons_succ, List.getElem_cons_zero, List.setIfInBounds_toArray, List.set_cons_zero, List.set_cons_succ])
      refine wpAnyH_take (i := 26) (v := ?_) rfl (by kernel_rfl) (by kernel_rfl) (by kernel_rfl) (fun _ _ _ h => h) (Or.inl ⟨by rfl, ?_⟩) hHeld ?_
      rotate_left 1
      focus (intro wq hSw; go_simp; try with_reducible rfl)
      try (simp only [Act.put, List.getElem_toArray, List.getElem_cons_succ, List.getElem_cons_zero, List.setIfInBounds_toArray, List.set_cons_zero, List.set_cons_succ])
      refine wpAnyH_take (i := 27) (v := ?_) rfl (by kernel_rfl) (by kernel_rfl) (by kernel_rfl) (fun _ _ _ h => h) (Or.inl ⟨by rfl, ?_⟩) hHeld ?_
      rotate_left 1
      focus (intro wq hSw; go_simp; try with_reducible rfl)
      try (simp only [Act.put, List.getElem_toArray, List.getElem_cons_succ, List.getElem_cons_zero, List.setIfInBounds_toArray, List.set_cons_zero, List.set_cons_succ])
      refine wpAnyH_take (i := 28) (v := ?_) rfl (by kernel_rfl) (by kernel_rfl) (by kernel_rfl) (fun _ _ _ h => h) (Or.inl ⟨by rfl, ?_⟩) hHeld ?_
      rotate_left 1
      focus (intro wq hSw; go_simp; try with_reducible rfl)
      try (simp only [Act.put, List.getElem_toArray, List.getElem_cons_succ, List.getElem_cons_zero, List.setIfInBounds_toArray, List.set_cons_zero, List.set_cons_succ])
      refine wpAnyH_take (i := 29) (v := ?_) rfl (by kernel_rfl) (by kernel_rfl) (by kernel_rfl) (fun _ _ _ h => h) (Or.inl ⟨by rfl, ?_⟩) hHeld ?_
      rotate_left 1
      focus (intro wq hSw; go_simp; try with_reducible rfl)
      try (simp only [Act.put, List.getElem_toArray, List.getElem_cons_succ, List.getElem_cons_zero, List.setIfInBounds_toArray, List.set_cons_zero, List.set_cons_succ])
      refine wpAnyH_take (i := 30) (v := ?_) rfl (by kernel_rfl) (by kernel_rfl) (by kernel_rfl) (fun _ _ _ h => h) (Or.inl ⟨by rfl, ?_⟩) hHeld ?_
      rotate_left 1
      focus (intro wq hSw; go_simp; try with_reducible rfl)
      try (simp only [Act.put, List.getElem_toArray, List.getElem_cons_succ, List.getElem_cons_zero, List.setIfInBounds_toArray, List.set_cons_zero, List.set_cons_succ])
      refine wpAnyH_take (i := 31) (v := ?_) rfl (by kernel_rfl) (by kernel_rfl) (by kernel_rfl) (fun _ _ _ h => h) (Or.inl ⟨by rfl, ?_⟩) hHeld ?_
      rotate_left 1
      focus (intro wq hSw; go_simp; try with_reducible rfl)
      try (simp only [Act.put, List.getElem_toArray, List.getElem_cons_succ, List.getElem_cons_zero, List.setIfInBounds_toArray, List.set_cons_zero, List.set_cons_succ])
      refine wpAnyH_take (i := 32) (v := ?_) rfl (by kernel_rfl) (by kernel_rfl) (by kernel_rfl) (fun _ _ _ h => h) (Or.inl ⟨by rfl, ?_⟩) hHeld ?_
      rotate_left 1
      focus (intro wq hSw; go_simp; try with_reducible rfl)
      try (simp only [Act.put, List.getElem_toArray, List.getElem_cons_succ, List.getElem_cons_zero, List.setIfInBounds_toArray, List.set_cons_zero, List.set_cons_succ])
      refine wpAnyH_take (i := 33) (v := ?_) rfl (by kernel_rfl) (by kernel_rfl) (by kernel_rfl) (fun _ _ _ h => h) (Or.inl ⟨by rfl, ?_⟩) hHeld ?_
      rotate_left 1
      focus (intro wq hSw; go_simp; try with_reducible rfl)
      try (simp only [Act.put, List.getElem_toArray, List.getElem_cons_succ, List.getElem_cons_zero, List.setIfInBounds_toArray, List.set_cons_zero, List.set_cons_succ])
      refine wpAnyH_ready (rs := [34]) (by kernel_rfl) (by simp) ?_
      refine AllReadyH.cons rfl (fun K hK => ?_) AllReadyH.nil
      go_simp
      go_at_call 19
      (with_reducible refine (tamper_out_is hDd P (65 - (nb : Int)) hP5 ab nb cb (by omega) (.inr (by omega))).mono ?_)
      rintro e w' ⟨rfl, rfl⟩
      refine hK.out _ _ (((Below.refl _ _).drew)) (fun hHeld => ?_)
      clear hK K
      try (simp only [Act.put, List.getElem_toArray, List.getElem_cons_succ, List.getElem_cons_zero, List.setIfInBounds_toArray, List.set_cons_zero, List.set_cons_succ])
      refine wpAnyH_take (i := 35) (v := ?_) rfl (by kernel_rfl) (by kernel_rfl) (by kernel_rfl) (fun _ _ _ h => h) (Or.inl ⟨by rfl, ?_⟩) hHeld ?_
      rotate_left 1
      focus (intro wq hSw; go_simp; try with_reducible rfl)
      try (simp only [Act.put, List.getElem_toArray, List.getElem_cons_succ, List.getElem_cons_zero, List.setIfInBounds_toArray, List.set_cons_zero, List.set_cons_succ])
      refine wpAnyH_take (i := 36) (v := ?_) rfl (by kernel_rfl) (by kernel_rfl) (by kernel_rfl) (fun _ _ _ h => h) (Or.inl ⟨by rfl, ?_⟩) hHeld ?_
      rotate_left 1
      focus (intro wq hSw; go_simp; try with_reducible rfl)
      try (simp only [Act.put, List.getElem_toArray, List.getElem_cons_succ, List.getElem_cons_zero, List.setIfInBounds_toArray, List.set_cons_zero, List.set_cons_succ])
      refine wpAnyH_take (i := 37) (v := ?_) rfl (by kernel_rfl) (by kernel_rfl) (by kernel_rfl) (fun _ _ _ h => h) (Or.inl ⟨by rfl, ?_⟩) hHeld ?_
      rotate_left 1
      focus (intro wq hSw; go_simp; try with_reducible rfl)
      try (simp only [Act.put, List.getElem_toArray, List.getElem_cons_succ, List.getElem_cons_zero, List.setIfInBounds_toArray, List.set_cons_zero, List.set_cons_succ])
      refine wpAnyH_take (i := 38) (v := ?_) rfl (by kernel_rfl) (by kernel_rfl) (by kernel_rfl) (fun _ _ _ h => h) (Or.inl ⟨by rfl, ?_⟩) hHeld ?_
      rotate_left 1
      focus (intro wq hSw; go_simp; try with_reducible rfl)
      try (simp only [Act.put, List.getElem_toArray, List.getElem_cons_succ, List.getElem_cons_zero, List.setIfInBounds_toArray, List.set_cons_zero, List.set_cons_succ])
      refine wpAnyH_take (i := 39) (v := ?_) rfl (by kernel_rfl) (by kernel_rfl) (by kernel_rfl) (fun _ _ _ h => h) (Or.inl ⟨by rfl, ?_⟩) hHeld ?_
      rotate_left 1
      focus (intro wq hSw; go_simp; try with_reducible rfl)
      try (simp only [Act.put, List.getElem_toArray, List.getElem_cons_succ, List.getElem_cons_zero, List.setIfInBounds_toArray, List.set_cons_zero, List.set_cons_succ])
      refine wpAnyH_take (i := 40) (v := ?_) rfl (by kernel_rfl) (by kernel_rfl) (by kernel_rfl) (fun _ _ _ h => h) (Or.inl ⟨by rfl, ?_⟩) hHeld ?_
      rotate_left 1
      focus (intro wq hSw; go_simp; try with_reducible rfl)
      try (simp only [Act.put, List.getElem_toArray, List.getElem_cons_succ, List.getElem_cons_zero, List.setIfInBounds_toArray, List.set_cons_zero, List.set_cons_succ])
      refine wpAnyH_ready (rs := [41]) (by kernel_rfl) (by simp) ?_
      refine AllReadyH.cons rfl (fun K hK => ?_) AllReadyH.nil
      go_simp
      go_at_call 19
      (with_reducible refine (tamper_out_is hDd P (-1) hP5 ab nb cb (by omega) (.inl (by omega))).mono ?_)
      rintro e w' ⟨rfl, rfl⟩
      refine hK.out _ _ (((Below.refl _ _).drew)) (fun hHeld => ?_)
      clear hK K
      try (simp only [Act.put, List.getElem_toArray, List.getElem_cons_succ, List.getElem_cons_zero, List.setIfInBounds_toArray, List.set_cons_zero, List.set_cons_succ])
      refine wpAnyH_take (i := 42) (v := ?_) rfl (by kernel_rfl) (by kernel_rfl) (by kernel_rfl) (fun _ _ _ h => h) (Or.inl ⟨by rfl, ?_⟩) hHeld ?_
      rotate_left 1
      focus (intro wq hSw; go_simp; try with_reducible rfl)
      try (simp only [Act.put, List.getElem_toArray, List.getElem_cons_succ, List.getElem_cons_zero, List.setIfInBounds_toArray, List.set_cons_zero, List.set_cons_succ])
      refine wpAnyH_take (i := 43) (v := ?_) rfl (by kernel_rfl) (by kernel_rfl) (by kernel_rfl) (fun _ _ _ h => h) (Or.inl ⟨by rfl, ?_⟩) hHeld ?_
      rotate_left 1
      focus (intro wq hSw; go_simp; try with_reducible rfl)
      try (simp only [Act.put, List.getElem_toArray, List.getElem_cons_succ, List.getElem_cons_zero, List.setIfInBounds_toArray, List.set_cons_zero, List.set_cons_succ])
      refine wpAnyH_take (i := 44) (v := ?_) rfl (by kernel_rfl) (by kernel_rfl) (by kernel_rfl) (fun _ _ _ h => h) (Or.inl ⟨by rfl, ?_⟩) hHeld ?_
      rotate_left 1
      focus (intro wq hSw; go_simp; try with_reducible rfl)
      try (simp only [Act.put, List.getElem_toArray, List.getElem_cons_succ, List.getElem_cons_zero, List.setIfInBounds_toArray, List.set_cons_zero, List.set_cons_succ])
      refine wpAnyH_take (i := 45) (v := ?_) rfl (by kernel_rfl) (by kernel_rfl) (by kernel_rfl) (fun _ _ _ h => h) (Or.inl ⟨by rfl, ?_⟩) hHeld ?_
      rotate_left 1
      focus (intro wq hSw; go_simp; try with_reducible rfl)
      try (simp only [Act.put, List.getElem_toArray, List.getElem_cons_succ, List.getElem_cons_zero, List.setIfInBounds_toArray, List.set_cons_zero, List.set_cons_succ])
      refine wpAnyH_take (i := 46) (v := ?_) rfl (by kernel_rfl) (by kernel_rfl) (by kernel_rfl) (fun _ _ _ h => h) (Or.inl ⟨by rfl, ?_⟩) hHeld ?_
      rotate_left 1
      focus (intro wq hSw; go_simp; try with_reducible rfl)
      try (simp only [Act.put, List.getElem_toArray, List.getElem_cons_succ, List.getElem_cons_zero, List.setIfInBounds_toArray, List.set_cons_zero, List.set_cons_succ])
      refine wpAnyH_ready (rs := [47]) (by kernel_rfl) (by simp) ?_
      refine AllReadyH.cons rfl (fun K hK => ?_) AllReadyH.nil
      go_simp
      go_at_call 19
      (with_reducible refine (tamper_none_is hDd 5 0 (.inr (by omega)) ab nb cb).mono ?_)
      rintro e w' ⟨rfl, rfl⟩
      refine hK.out _ _ (((Below.refl _ _).drew)) (fun hHeld => ?_)
      clear hK K
      try (simp only [Act.put, List.getElem_toArray, List.getElem_cons_succ, List.getElem_cons_zero, List.setIfInBounds_toArray, List.set_cons_zero, List.set_cons_succ])
      refine wpAnyH_take (i := 48) (v := ?_) rfl (by kernel_rfl) (by kernel_rfl) (by kernel_rfl) (fun _ _ _ h => h) (Or.inl ⟨by rfl, ?_⟩) hHeld ?_
      rotate_left 1
      focus (intro wq hSw; go_simp; try with_reducible rfl)
      try (simp only [Act.put, List.getElem_toArray, List.getElem_cons_succ, List.getElem_cons_zero, List.setIfInBounds_toArray, List.set_cons_zero, List.set_cons_succ])
      refine wpAnyH_take (i := 49) (v := ?_) rfl (by kernel_rfl) (by kernel_rfl) (by kernel_rfl) (fun _ _ _ h => h) (Or.inl ⟨by rfl, ?_⟩) hHeld ?_
      rotate_left 1
      focus (intro wq hSw; go_simp; try with_reducible rfl)
      try (simp only [Act.put, List.getElem_toArray, List.getElem_cons_succ, List.getElem_cons_zero, List.setIfInBounds_toArray, List.set_cons_zero, List.set_cons_succ])
      refine wpAnyH_take (i := 50) (v := ?_) rfl (by kernel_rfl) (by kernel_rfl) (by kernel_rfl) (fun _ _ _ h => h) (Or.inl ⟨by rfl, ?_⟩) hHeld ?_
      rotate_left 1
      focus (intro wq hSw; go_simp; try with_reducible rfl)
      try (simp only [Act.put, List.getElem_toArray, List.getElem_cons_succ, List.getElem_cons_zero, List.setIfInBounds_toArray, List.set_cons_zero, List.set_cons_succ])
      refine wpAnyH_done (by kernel_rfl) ?_ _
      go_wp2_with fail
      go_ret
      exact ⟨by simp, B9.drew⟩
end Go.Proofs.Ytfajggiinoeaiaa
