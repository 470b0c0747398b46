/-
  merkle's above: the row above.
-/
import Derived.Test.YtpphlmbhonaglaaDoorPair
import Derived.Deep.RegionHeld3
namespace Go.Proofs.YtpphlmbhonaglaaDoor
open Go.RowKit
set_option linter.unusedSimpArgs false

/-- A ROW OF SUMS IS ANSWERED: the call's own. -/
def HsOut (w : World) (n : Nat) (hs : List (List UInt8)) (e : Ending) (w' : World) : Prop := ∃ v, e = .returned v ∧ OwnH w' w.heap.size v n hs ∧ Below w.heap.size w w'
/-- 'make([]api.Hash, 0, N)'. -/
theorem wpList_make_hs {w : World} {ops : Array Oper} {rest : List Oper} {o : Oper} {a : Act} {Q : Exit → Act → World → Prop} (hgd : o.guard = none) (l c : Operand)
    (ho : o.op = Op.makeSlice 24 l c) (kl kc : IntKind) (C : Int) (N : Nat) (hl : a.eval l = .int kl 0) (hc : a.eval c = .int kc C) (hC : C = (N : Int)) (hN : N ≤ 100000)
    (hK : ∀ v w', OwnH w' w.heap.size v 0 [] → Below w.heap.size w w' → wpList Tryd.prog ops Q rest (a.put o.dst v) w') :
    wpList Tryd.prog ops Q (o :: rest) a w := by
  obtain ⟨i, hi, hz, hsize, hby⟩ := info_parts info_hash
  refine wpList_make_own w hgd l c 24 ho w.heap.size 27 i (.agg (bcs (List.replicate 32 0)).toArray) 32 Tryd.underlying24 hi hz hsize kl kc C N hl hc hC (by rw [hby]; omega) (by unfold maxLen; omega) (Nat.le_refl _) fun w' hown hgr => ?_
  exact hK _ w' ⟨hown, rfl, by simp⟩ ((Below.refl _ w).grown hgr (Nat.le_refl _) (fun k h => by cases h))
theorem above_snoc (hs : List (List UInt8)) (k : Nat) (hk : 2 * k + 1 < hs.length) : Mk.above two (hs.take (2 * (k + 1))) = Mk.above two (hs.take (2 * k)) ++ [two (hs.getD (2 * k) []) (hs.getD (2 * k + 1) [])] := by
  have e : hs.take (2 * (k + 1)) = hs.take (2 * k) ++ [hs.getD (2 * k) [], hs.getD (2 * k + 1) []] := by
    rw [show 2 * (k + 1) = 2 * k + 1 + 1 by omega, List.take_succ_eq_append_getElem (by omega), List.take_succ_eq_append_getElem (by omega)]
    have e1 : hs.getD (2 * k) [] = hs[2 * k] := by simp [List.getD, show 2 * k < hs.length by omega]
    have e2 : hs.getD (2 * k + 1) [] = hs[2 * k + 1] := by simp [List.getD, show 2 * k + 1 < hs.length by omega]
    rw [e1, e2, List.append_assoc]
    rfl
  rw [e, Mk.above_append two _ _ (by rw [List.length_take]; omega)]
  rfl
theorem above_end (hs : List (List UInt8)) : Mk.above two hs = Mk.above two (hs.take (2 * (hs.length / 2))) ++ hs.drop (2 * (hs.length / 2)) := by
  conv => lhs; rw [← List.take_append_drop (2 * (hs.length / 2)) hs]
  rw [Mk.above_append two _ _ (by rw [List.length_take]; omega), Mk.above_short two (hs.drop _) (by rw [List.length_drop]; omega)]

set_option maxRecDepth 100000 in
set_option maxHeartbeats 2000000 in
theorem above_any (a0 : Addr) (n0 c0 : Nat) (hs : List (List UInt8)) (w : World) (hC : RC w) (h : IsH w (some a0) n0 c0 hs) (hn : n0 ≤ 1000) :
    Calls Tryd.prog 14 #[.slice (some a0) n0 c0] w (HsOut w ((n0 + 1) / 2) (Mk.above two hs)) := by
  have hl := h.len
  have HL := Lib.hid hl
  clear hl
  obtain ⟨p, hp⟩ : ∃ p, p = n0 / 2 := ⟨_, rfl⟩
  have ep : (n0 : Int) / 2 = p := by omega
  have hpn : 2 * p ≤ n0 := by omega
  have en : (n0 : Int) - (p : Int) = ((n0 - p : Nat) : Int) := by omega
  have EN := Lib.hid en
  have HP := Lib.hid hp
  clear en hp
  go_enter Tryd.func14, Tryd.ntmps14
  go_wp2_with (at_make; refine wpList_make_hs rfl _ _ rfl .i64 .i64 _ (n0 - p) rfl rfl EN.out (by omega) ?_; intro v1 w1 hO1 B1)
  clear ep
  go_loopw [4, 15] (fun v i wq => ∃ k : Nat, k ≤ p ∧ i = .int .i64 k ∧ OwnH wq w.heap.size v k (Mk.above two (hs.take (2 * k))) ∧ Below w.heap.size w wq) (fun _ i _ => p - (intOf i).toNat)
  case atStart => exact ⟨0, by omega, rfl, hO1, B1⟩
  case round =>
    clear hO1 B1
    obtain ⟨k, hk, rfl, hO, hB⟩ := hrel
    have hs1 := hB.size
    by_cases hkp : k < p
    · have hA1 := h.at_ a0 rfl (2 * k) (by omega)
      have hA2 := h.at_ a0 rfl (2 * k + 1) (by omega)
      have h1 := h.one (2 * k) (by omega)
      have h2 := h.one (2 * k + 1) (by omega)
      have HX := above_snoc hs k (by rw [HL.out]; omega)
      generalize hs.getD (2 * k) [] = x at hA1 h1 HX
      generalize hs.getD (2 * k + 1) [] = y at hA2 h2 HX
      have HX2 := Lib.hid HX
      have H1 := Lib.hid h1
      have H2 := Lib.hid h2
      clear HX h1 h2
      have m1 : 2 * (k : Int) < n0 := by omega
      have m2 : 2 * (k : Int) + 1 < n0 := by omega
      go_wp2_with fail
      have u24 := Tryd.underlying27
      have e1 := IntWalk.i64_in (2 * (k : Int)) (by omega)
      have e2 := IntWalk.i64_in (2 * (k : Int) + 1) (by omega)
      have z1 : 0 ≤ 2 * (k : Int) := by omega
      have z2 : 0 ≤ 2 * (k : Int) + 1 := by omega
      have c1 : (2 * (k : Int)).toNat = 2 * k := by omega
      have c2 : (2 * (k : Int) + 1).toNat = 2 * k + 1 := by omega
      refine wp_region_held_drew (S := fun w' => Below w.heap.size w w') (by kernel_rfl) hB.drew (fun hHeld => ?_)
      refine wpAnyH_take (i := 0) (v := ?_) rfl (by kernel_rfl) (by kernel_rfl) (by kernel_rfl) (fun _ _ _ h => h) (Or.inl ⟨by rfl, ?_⟩) hHeld ?_
      rotate_left 1
      focus (intro wq hSw; go_simp; try with_reducible rfl)
      try (simp only [Act.put, List.getElem_toArray, List.getElem_cons_succ, List.getElem_cons_zero, List.setIfInBounds_toArray, List.set_cons_zero, List.set_cons_succ])
      refine wpAnyH_take (i := 1) (v := ?_) rfl (by kernel_rfl) (by kernel_rfl) (by kernel_rfl) (fun _ _ _ h => h) (Or.inl ⟨by rfl, ?_⟩) hHeld ?_
      rotate_left 1
      focus (intro wq hSw; go_simp; try with_reducible rfl)
      try (simp only [Act.put, List.getElem_toArray, List.getElem_cons_succ, List.getElem_cons_zero, List.setIfInBounds_toArray, List.set_cons_zero, List.set_cons_succ])
      refine wpAnyH_take (i := 2) (v := ?_) rfl (by kernel_rfl) (by kernel_rfl) (by kernel_rfl) (fun _ _ _ h => h) (Or.inl ⟨by rfl, ?_⟩) hHeld ?_
      rotate_left 1
      focus (intro wq hSw; go_simp; try with_reducible rfl)
      try (simp only [Act.put, List.getElem_toArray, List.getElem_cons_succ, List.getElem_cons_zero, List.setIfInBounds_toArray, List.set_cons_zero, List.set_cons_succ])
      refine wpAnyH_take (i := 3) (v := ?_) rfl (by kernel_rfl) (by kernel_rfl) (by kernel_rfl) (fun _ _ _ h => h) (Or.inl ⟨by rfl, ?_⟩) hHeld ?_
      rotate_left 1
      focus (intro wq hSw; go_simp; try with_reducible rfl)
      try (simp only [Act.put, List.getElem_toArray, List.getElem_cons_succ, List.getElem_cons_zero, List.setIfInBounds_toArray, List.set_cons_zero, List.set_cons_succ])
      refine wpAnyH_take (i := 4) (v := ?_) rfl (by kernel_rfl) (by kernel_rfl) (by kernel_rfl) (fun _ _ _ h => h) (Or.inl ⟨by rfl, ?_⟩) hHeld ?_
      rotate_left 1
      focus (intro wq hSw; go_simp; try with_reducible rfl)
      try (simp only [Act.put, List.getElem_toArray, List.getElem_cons_succ, List.getElem_cons_zero, List.setIfInBounds_toArray, List.set_cons_zero, List.set_cons_succ])
      refine wpAnyH_take (i := 5) (v := .agg (bcs (x)).toArray) rfl (by kernel_rfl) (by kernel_rfl) (by kernel_rfl) (fun _ _ _ h => h) (yieldsIf_load_at (by rfl) 27 _ rfl (a0.add (2 * k * 32)) rfl (x) (fun wq hSw => hA1.past hSw) _ _ u24 (hash_size x H1.out)) hHeld ?_
      try (simp only [Act.put, List.getElem_toArray, List.getElem_cons_succ, List.getElem_cons_zero, List.setIfInBounds_toArray, List.set_cons_zero, List.set_cons_succ])
      refine wpAnyH_take (i := 6) (v := ?_) rfl (by kernel_rfl) (by kernel_rfl) (by kernel_rfl) (fun _ _ _ h => h) (Or.inl ⟨by rfl, ?_⟩) hHeld ?_
      rotate_left 1
      focus (intro wq hSw; go_simp; try with_reducible rfl)
      try (simp only [Act.put, List.getElem_toArray, List.getElem_cons_succ, List.getElem_cons_zero, List.setIfInBounds_toArray, List.set_cons_zero, List.set_cons_succ])
      refine wpAnyH_take (i := 7) (v := ?_) rfl (by kernel_rfl) (by kernel_rfl) (by kernel_rfl) (fun _ _ _ h => h) (Or.inl ⟨by rfl, ?_⟩) hHeld ?_
      rotate_left 1
      focus (intro wq hSw; go_simp; try with_reducible rfl)
      try (simp only [Act.put, List.getElem_toArray, List.getElem_cons_succ, List.getElem_cons_zero, List.setIfInBounds_toArray, List.set_cons_zero, List.set_cons_succ])
      refine wpAnyH_take (i := 8) (v := ?_) rfl (by kernel_rfl) (by kernel_rfl) (by kernel_rfl) (fun _ _ _ h => h) (Or.inl ⟨by rfl, ?_⟩) hHeld ?_
      rotate_left 1
      focus (intro wq hSw; go_simp; try with_reducible rfl)
      try (simp only [Act.put, List.getElem_toArray, List.getElem_cons_succ, List.getElem_cons_zero, List.setIfInBounds_toArray, List.set_cons_zero, List.set_cons_succ])
      refine wpAnyH_take (i := 9) (v := ?_) rfl (by kernel_rfl) (by kernel_rfl) (by kernel_rfl) (fun _ _ _ h => h) (Or.inl ⟨by rfl, ?_⟩) hHeld ?_
      rotate_left 1
      focus (intro wq hSw; go_simp; try with_reducible rfl)
      try (simp only [Act.put, List.getElem_toArray, List.getElem_cons_succ, List.getElem_cons_zero, List.setIfInBounds_toArray, List.set_cons_zero, List.set_cons_succ])
      refine wpAnyH_take (i := 10) (v := ?_) rfl (by kernel_rfl) (by kernel_rfl) (by kernel_rfl) (fun _ _ _ h => h) (Or.inl ⟨by rfl, ?_⟩) hHeld ?_
      rotate_left 1
      focus (intro wq hSw; go_simp; try with_reducible rfl)
      try (simp only [Act.put, List.getElem_toArray, List.getElem_cons_succ, List.getElem_cons_zero, List.setIfInBounds_toArray, List.set_cons_zero, List.set_cons_succ])
      refine wpAnyH_take (i := 11) (v := .agg (bcs (y)).toArray) rfl (by kernel_rfl) (by kernel_rfl) (by kernel_rfl) (fun _ _ _ h => h) (yieldsIf_load_at (by rfl) 27 _ rfl (a0.add ((2 * k + 1) * 32)) rfl (y) (fun wq hSw => hA2.past hSw) _ _ u24 (hash_size y H2.out)) hHeld ?_
      try (simp only [Act.put, List.getElem_toArray, List.getElem_cons_succ, List.getElem_cons_zero, List.setIfInBounds_toArray, List.set_cons_zero, List.set_cons_succ])
      refine wpAnyH_ready (rs := [12]) (by kernel_rfl) (by simp) ?_
      refine AllReadyH.cons rfl (fun K hK => ?_) AllReadyH.nil
      go_simp
      go_at_call 17
      (with_reducible refine (pair_any x y _ ?_ H1.out H2.out).mono ?_)
      · exact hC.past hB.drew
      rintro e w3 ⟨rfl, b3⟩
      have O3 : OwnH w3 w.heap.size u4 k (Mk.above two (hs.take (2 * k))) := hO.past ((Below.refl _ _).drew.trans b3)
      have B3 : Below w.heap.size w w3 := hB.drew.trans (b3.mono hs1)
      refine hK.out _ _ (B3) (fun hHeld => ?_)
      clear hK K
      try (simp only [Act.put, List.getElem_toArray, List.getElem_cons_succ, List.getElem_cons_zero, List.setIfInBounds_toArray, List.set_cons_zero, List.set_cons_succ])
      refine wpAnyH_ready (rs := [13]) (by kernel_rfl) (by simp) ?_
      refine AllReadyH.cons rfl (fun K hK => ?_) AllReadyH.nil
      rw [if_pos (by rfl)]
      refine wp_buildSlice_hs 1 _ rfl [two x y] rfl (by simp [two_length]) (by omega) (by omega) (by simp only [List.map_toArray, List.map_cons, List.map_nil]; rfl) fun w5 _ I5 b5 => ?_
      have O5 := O3.past b5
      have B5 := B3.trans (b5.mono B3.size)
      refine hK.out _ _ B5 (fun hHeld => ?_)
      clear hK K O3 b5
      try (simp only [Act.put, List.getElem_toArray, List.getElem_cons_succ, List.getElem_cons_zero, List.setIfInBounds_toArray, List.set_cons_zero, List.set_cons_succ])
      refine wpAnyH_ready (rs := [14]) (by kernel_rfl) (by simp) ?_
      refine AllReadyH.cons rfl (fun K hK => ?_) AllReadyH.nil
      rw [if_pos (by rfl)]
      refine wp_append_hs (.tmp 18) (.tmp 31) rfl w.heap.size B5.size _ k _ rfl O5 ⟨w3.heap.size, 0, none⟩ 1 1 [two x y] rfl I5 (by omega) fun v2 w4 hO4 g4 => ?_
      have B4 := O5.step B5 B5.size (Nat.le_refl _) g4
      rw [← HX2.out] at hO4
      refine hK.out _ _ B4 (fun hHeld => ?_)
      clear hK K O5 I5 B5 B3 g4
      try (simp only [Act.put, List.getElem_toArray, List.getElem_cons_succ, List.getElem_cons_zero, List.setIfInBounds_toArray, List.set_cons_zero, List.set_cons_succ])
      refine wpAnyH_take (i := 15) (v := ?_) rfl (by kernel_rfl) (by kernel_rfl) (by kernel_rfl) (fun _ _ _ h => h) (Or.inl ⟨by rfl, ?_⟩) hHeld ?_
      rotate_left 1
      focus (intro wq hSw; go_simp; try with_reducible rfl)
      try (simp only [Act.put, List.getElem_toArray, List.getElem_cons_succ, List.getElem_cons_zero, List.setIfInBounds_toArray, List.set_cons_zero, List.set_cons_succ])
      refine wpAnyH_done (by kernel_rfl) ?_ _
      clear hHeld
      go_wp2_with fail
      go_roundw
      case rel => exact ⟨k + 1, by omega, by go_num, hO4, B4⟩
      case measure => simp [intOf]; omega
    · obtain rfl : k = p := by omega
      have hIs := h.past hB
      obtain ⟨ao2, hcut, hI2, hsome⟩ := IsH_cut hIs (2 * k) (by omega)
      obtain ⟨b2, rfl⟩ := hsome a0 rfl
      have hcut' : ∀ w' : World, (Instr.slice 24 (.slice (some a0) n0 c0) (some (.int .i64 (2 * (k : Int)))) none none).run Tryd.prog w' = .ok (.slice (some b2) (n0 - 2 * k) (c0 - 2 * k)) w' := hcut
      have hap := above_end hs
      rw [HL.out, ← HP.out] at hap
      have HAP := Lib.hid hap
      have hm : k + (n0 - 2 * k) = (n0 + 1) / 2 := by have := HP.out; omega
      have HM := Lib.hid hm
      clear hcut hap hm hIs
      go_wp2_with (at_builtin; refine wpList_append_hs rfl (.tmp 34) (.tmp 38) rfl w.heap.size hs1 _ k _ rfl hO b2 _ _ _ rfl hI2 (by omega) ?_; intro v2 w4 hO4 g4)
      rw [← HAP.out, HM.out] at hO4
      have B4 := hO.step hB hs1 (Nat.le_refl _) g4
      have FIN : Hid (HsOut w ((n0 + 1) / 2) (Mk.above two hs) (.returned v2) w4) := ⟨v2, rfl, hO4, B4⟩
      clear hO hB hO4 g4 hcut' hI2
      go_wp2_with fail
      go_ret
      exact FIN.out
end Go.Proofs.YtpphlmbhonaglaaDoor
