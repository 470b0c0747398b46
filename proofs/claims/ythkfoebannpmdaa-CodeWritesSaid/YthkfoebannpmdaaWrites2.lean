/-
  CodeWrites, walked. Made by gen_writes.py.
-/
import Derived.Test.YthkfoebannpmdaaOrder
import Derived.Test.YthkfoebannpmdaaRefs
import Derived.Deep.RegionHeld3
namespace Go.Proofs.Ythkfoebannpmdaa
open Go.RowKit
set_option linter.unusedSimpArgs false

theorem wpAnyH_more {P : Program} {ops : Array Oper} {Q : Exit → Act → World → Prop} {md : Region.Mode} {S S' : World → Prop} (hS : ∀ w, S' w → S w) :
    ∀ (fuel : Nat) (listed : Array Bool) (a : Act) (w : World), wpAnyH P md ops Q S' fuel listed a w → wpAnyH P md ops Q S fuel listed a w
  | 0, _, _, _, h => h
  | fuel + 1, _, _, _, h => ⟨h.1, fun i hi => wpOp_mono (fun a' w' h' => ⟨hS _ h'.1, wpAnyH_more hS fuel _ a' w' h'.2⟩) (h.2 i hi)⟩
theorem below_puts' {w w' : World} {g n : Nat} (h : Below w.heap.size w w') : Puts w w' g n := Below.puts h g n

set_option maxHeartbeats 400000 in
theorem writes_long (a0 : Option Addr) (n0 c0 : Nat) (x : Int) (s : ByteArray) (w : World) (h : 300 < n0 ∨ 500 < s.size) :
    Calls Try.prog 3 #[.slice a0 n0 c0, .int .i64 x, .string s] w (Told w true) := by
  by_cases h1 : 300 < n0
  · clear h
    go_enter Try.func3, Try.ntmps3
    go_wp2_with (go_at_call 11; refine (known_any _).mono ?_; rintro e wA ⟨rfl, hbA⟩)
    go_ret
    exact ⟨rfl, hbA⟩
  · have h2 : 500 < s.size := by omega
    clear h
    go_enter Try.func3, Try.ntmps3
    go_wp2_with (go_at_call 11; refine (known_any _).mono ?_; rintro e wA ⟨rfl, hbA⟩)
    go_ret
    exact ⟨rfl, hbA⟩

set_option maxRecDepth 100000 in
set_option maxHeartbeats 4000000 in
theorem writes_walk (a0 : Option Addr) (n0 c0 : Nat) (l : List UInt8) (x : Int) (s : ByteArray) (w : World) (h : IsB w a0 n0 c0 l) :
    Calls Try.prog 3 #[.slice a0 n0 c0, .int .i64 x, .string s] w (Told w true) := by
  by_cases hc : 300 < n0 ∨ 500 < s.size
  · exact writes_long a0 n0 c0 x s w hc
  have h1 : n0 ≤ 300 := by omega
  have h2 : s.size ≤ 500 := by omega
  clear hc
  have cst := Try.underlying9
  have Cst := Lib.hid cst
  clear cst
  go_enter Try.func3, Try.ntmps3
  go_wp2_with (first
    | (go_at_call 11; refine (known_any _).mono ?_; rintro e wA ⟨rfl, hbA⟩)
    | (at_builtin; refine wpList_append_ob rfl _ _ 22 22 rfl 5 byteTy _ 0 0 [] rfl (own_empty wA) _ rfl n0 l (((h.past hbA).alloc _).src byteTy.ht) n0 (Nat.zero_add _) l rfl (by omega) ?_; intro g1 c1 w1 o1 p1 q1; have B1 := below_puts hbA p1 (Nat.le_refl _); have G1 := ge_new q1))
  have GL := Nat.le_trans hbA.size G1
  have O1 := o1.drew
  have B0 := Below.drew B1
  clear o1 p1 q1 B1 G1 hbA
  refine wp_region_held_drew (S := fun w' => Puts w1.drew w' g1 n0) (by kernel_rfl) (Puts.refl _ _ _) (fun hHeld => ?_)
  refine wpAnyH_take (i := 0) (v := ?_) rfl (by kernel_rfl) (by kernel_rfl) (by kernel_rfl) (fun _ _ _ h => h) (Or.inl ⟨by rfl, ?_⟩) hHeld ?_
  rotate_left 1
  focus (intro wq hSw; go_simp; try with_reducible rfl)
  try (simp only [Act.put, List.getElem_toArray, List.getElem_cons_succ, List.getElem_cons_zero, List.setIfInBounds_toArray, List.set_cons_zero, List.set_cons_succ])
  refine wpAnyH_take (i := 1) (v := ?_) rfl (by kernel_rfl) (by kernel_rfl) (by kernel_rfl) (fun _ _ _ h => h) (Or.inl ⟨by rfl, ?_⟩) hHeld ?_
  rotate_left 1
  focus (intro wq hSw; go_simp; try with_reducible rfl)
  try (simp only [Act.put, List.getElem_toArray, List.getElem_cons_succ, List.getElem_cons_zero, List.setIfInBounds_toArray, List.set_cons_zero, List.set_cons_succ])
  refine wpAnyH_take (i := 4) (v := ?_) rfl (by kernel_rfl) (by kernel_rfl) (by kernel_rfl) (fun _ _ _ h => h) (Or.inl ⟨by rfl, ?_⟩) hHeld ?_
  rotate_left 1
  focus (intro wq hSw; go_simp; try with_reducible rfl)
  try (simp only [Act.put, List.getElem_toArray, List.getElem_cons_succ, List.getElem_cons_zero, List.setIfInBounds_toArray, List.set_cons_zero, List.set_cons_succ])
  refine wpAnyH_take (i := 5) (v := ?_) rfl (by kernel_rfl) (by kernel_rfl) (by kernel_rfl) (fun _ _ _ h => h) (Or.inl ⟨by rfl, ?_⟩) hHeld ?_
  rotate_left 1
  focus (intro wq hSw; go_simp; try with_reducible rfl)
  try (simp only [Act.put, List.getElem_toArray, List.getElem_cons_succ, List.getElem_cons_zero, List.setIfInBounds_toArray, List.set_cons_zero, List.set_cons_succ])
  refine wpAnyH_ready (rs := [2]) (by kernel_rfl) (by simp) ?_
  refine AllReadyH.cons rfl (fun K hK => ?_) AllReadyH.nil
  go_simp
  go_at_call 12
  (with_reducible refine (int_any a0 n0 c0 l x _ ?_ (by omega)).mono ?_)
  · exact h.past B0
  rintro e w2 ⟨g2, c2, rfl, o2, b2, q2⟩
  have B2 := below_on B0 b2
  have O2 := OwnB.below O1 b2 (OwnB.lt O1)
  have n2 : g2 ≠ g1 := Nat.ne_of_gt (Nat.lt_of_lt_of_le (OwnB.lt O1) q2)
  have cx2 := fun (w' : World) (hp : Puts w2 w' g1 n0) => (o2.puts hp (.inl n2)).isB.conv byteTy Cst.out
  clear o2 n2
  have hP : Puts w1.drew w2 g1 n0 := below_puts' b2
  refine hK.out _ _ hP (fun _ => ?_)
  clear hK K
  refine wpAnyH_more (S' := fun w' => Puts w2 w' g1 n0) (fun w' h => hP.trans h (.inl ⟨rfl, Nat.le_refl _⟩)) _ _ _ _ ?_
  clear hHeld hP
  have hHeld : Puts w2 w2 g1 n0 := Puts.refl _ _ _
  try (simp only [Act.put, List.getElem_toArray, List.getElem_cons_succ, List.getElem_cons_zero, List.setIfInBounds_toArray, List.set_cons_zero, List.set_cons_succ])
  refine wpAnyH_take (i := 3) (v := ?_) rfl (by kernel_rfl) (by kernel_rfl) (by kernel_rfl) (fun _ _ _ h => h) (Or.inl ⟨by rfl, ?_⟩) hHeld ?_
  rotate_left 1
  focus (intro wq hSw; have hcv := cx2 wq hSw; go_simp; try with_reducible rfl)
  try (simp only [Act.put, List.getElem_toArray, List.getElem_cons_succ, List.getElem_cons_zero, List.setIfInBounds_toArray, List.set_cons_zero, List.set_cons_succ])
  refine wpAnyH_ready (rs := [6]) (by kernel_rfl) (by simp) ?_
  refine AllReadyH.cons rfl (fun K hK => ?_) AllReadyH.nil
  go_simp
  go_at_call 13
  (with_reducible refine (rint_any g1 n0 c1 l x _ ?_ (by omega)).mono ?_)
  · exact O2
  rintro e w3 ⟨g3, c3, rfl, o3, p3, q3⟩
  have B3 := Below.trans B2 (p3.below GL B2.size)
  have O3 := O2.puts p3 (.inr (Nat.le_refl _))
  have cy3 := o3.isB.conv byteTy Cst.out
  clear o3 B2 O2
  have hP : Puts w2 w3 g1 n0 := p3
  refine hK.out _ _ hP (fun _ => ?_)
  clear hK K
  refine wpAnyH_more (S' := fun w' => Puts w3 w' g1 n0) (fun w' h => hP.trans h (.inl ⟨rfl, Nat.le_refl _⟩)) _ _ _ _ ?_
  clear hHeld hP
  have hHeld : Puts w3 w3 g1 n0 := Puts.refl _ _ _
  try (simp only [Act.put, List.getElem_toArray, List.getElem_cons_succ, List.getElem_cons_zero, List.setIfInBounds_toArray, List.set_cons_zero, List.set_cons_succ])
  clear cx2
  refine wpAnyH_ready (rs := [7]) (by kernel_rfl) (by simp) ?_
  refine AllReadyH.cons rfl (fun K hK => ?_) AllReadyH.nil
  have hcv := cy3
  go_simp
  refine hK.out _ _ hHeld (fun _ => ?_)
  clear hK K hcv cy3
  try (simp only [Act.put, List.getElem_toArray, List.getElem_cons_succ, List.getElem_cons_zero, List.setIfInBounds_toArray, List.set_cons_zero, List.set_cons_succ])
  refine wpAnyH_take (i := 8) (v := ?_) rfl (by kernel_rfl) (by kernel_rfl) (by kernel_rfl) (fun _ _ _ h => h) (Or.inl ⟨by rfl, ?_⟩) hHeld ?_
  rotate_left 1
  focus (intro wq hSw; go_simp; try with_reducible rfl)
  try (simp only [Act.put, List.getElem_toArray, List.getElem_cons_succ, List.getElem_cons_zero, List.setIfInBounds_toArray, List.set_cons_zero, List.set_cons_succ])
  refine wpAnyH_take (i := 9) (v := ?_) rfl (by kernel_rfl) (by kernel_rfl) (by kernel_rfl) (fun _ _ _ h => h) (Or.inl ⟨by rfl, ?_⟩) hHeld ?_
  rotate_left 1
  focus (intro wq hSw; go_simp; try with_reducible rfl)
  try (simp only [Act.put, List.getElem_toArray, List.getElem_cons_succ, List.getElem_cons_zero, List.setIfInBounds_toArray, List.set_cons_zero, List.set_cons_succ])
  refine wpAnyH_take (i := 10) (v := ?_) rfl (by kernel_rfl) (by kernel_rfl) (by kernel_rfl) (fun _ _ _ h => h) (Or.inl ⟨by rfl, ?_⟩) hHeld ?_
  rotate_left 1
  focus (intro wq hSw; go_simp; try with_reducible rfl)
  try (simp only [Act.put, List.getElem_toArray, List.getElem_cons_succ, List.getElem_cons_zero, List.setIfInBounds_toArray, List.set_cons_zero, List.set_cons_succ])
  refine wpAnyH_take (i := 11) (v := ?_) rfl (by kernel_rfl) (by kernel_rfl) (by kernel_rfl) (fun _ _ _ h => h) (Or.inl ⟨by rfl, ?_⟩) hHeld ?_
  rotate_left 1
  focus (intro wq hSw; go_simp; try with_reducible rfl)
  try (simp only [Act.put, List.getElem_toArray, List.getElem_cons_succ, List.getElem_cons_zero, List.setIfInBounds_toArray, List.set_cons_zero, List.set_cons_succ])
  refine wpAnyH_take (i := 14) (v := ?_) rfl (by kernel_rfl) (by kernel_rfl) (by kernel_rfl) (fun _ _ _ h => h) (Or.inl ⟨by rfl, ?_⟩) hHeld ?_
  rotate_left 1
  focus (intro wq hSw; go_simp; try with_reducible rfl)
  try (simp only [Act.put, List.getElem_toArray, List.getElem_cons_succ, List.getElem_cons_zero, List.setIfInBounds_toArray, List.set_cons_zero, List.set_cons_succ])
  refine wpAnyH_take (i := 15) (v := ?_) rfl (by kernel_rfl) (by kernel_rfl) (by kernel_rfl) (fun _ _ _ h => h) (Or.inl ⟨by rfl, ?_⟩) hHeld ?_
  rotate_left 1
  focus (intro wq hSw; go_simp; try with_reducible rfl)
  try (simp only [Act.put, List.getElem_toArray, List.getElem_cons_succ, List.getElem_cons_zero, List.setIfInBounds_toArray, List.set_cons_zero, List.set_cons_succ])
  refine wpAnyH_ready (rs := [12]) (by kernel_rfl) (by simp) ?_
  refine AllReadyH.cons rfl (fun K hK => ?_) AllReadyH.nil
  go_simp
  go_at_call 14
  (with_reducible refine (byte_any a0 n0 c0 l x _ ?_ (by omega)).mono ?_)
  · exact h.past B3
  rintro e w4 ⟨g4, c4, rfl, o4, b4, q4⟩
  have B4 := below_on B3 b4
  have O4 := OwnB.below O3 b4 (OwnB.lt O3)
  have n4 : g4 ≠ g1 := Nat.ne_of_gt (Nat.lt_of_lt_of_le (OwnB.lt O3) q4)
  have cx4 := fun (w' : World) (hp : Puts w4 w' g1 n0) => (o4.puts hp (.inl n4)).isB.conv byteTy Cst.out
  clear o4 n4
  have hP : Puts w3 w4 g1 n0 := below_puts' b4
  refine hK.out _ _ hP (fun _ => ?_)
  clear hK K
  refine wpAnyH_more (S' := fun w' => Puts w4 w' g1 n0) (fun w' h => hP.trans h (.inl ⟨rfl, Nat.le_refl _⟩)) _ _ _ _ ?_
  clear hHeld hP
  have hHeld : Puts w4 w4 g1 n0 := Puts.refl _ _ _
  try (simp only [Act.put, List.getElem_toArray, List.getElem_cons_succ, List.getElem_cons_zero, List.setIfInBounds_toArray, List.set_cons_zero, List.set_cons_succ])
  refine wpAnyH_take (i := 13) (v := ?_) rfl (by kernel_rfl) (by kernel_rfl) (by kernel_rfl) (fun _ _ _ h => h) (Or.inl ⟨by rfl, ?_⟩) hHeld ?_
  rotate_left 1
  focus (intro wq hSw; have hcv := cx4 wq hSw; go_simp; try with_reducible rfl)
  try (simp only [Act.put, List.getElem_toArray, List.getElem_cons_succ, List.getElem_cons_zero, List.setIfInBounds_toArray, List.set_cons_zero, List.set_cons_succ])
  refine wpAnyH_ready (rs := [16]) (by kernel_rfl) (by simp) ?_
  refine AllReadyH.cons rfl (fun K hK => ?_) AllReadyH.nil
  go_simp
  go_at_call 15
  (with_reducible refine (rbyte_any g1 n0 c1 l x _ ?_ (by omega)).mono ?_)
  · exact O4
  rintro e w5 ⟨g5, c5, rfl, o5, p5, q5⟩
  have B5 := Below.trans B4 (p5.below GL B4.size)
  have O5 := O4.puts p5 (.inr (Nat.le_refl _))
  have cy5 := o5.isB.conv byteTy Cst.out
  clear o5 B4 O4
  have hP : Puts w4 w5 g1 n0 := p5
  refine hK.out _ _ hP (fun _ => ?_)
  clear hK K
  refine wpAnyH_more (S' := fun w' => Puts w5 w' g1 n0) (fun w' h => hP.trans h (.inl ⟨rfl, Nat.le_refl _⟩)) _ _ _ _ ?_
  clear hHeld hP
  have hHeld : Puts w5 w5 g1 n0 := Puts.refl _ _ _
  try (simp only [Act.put, List.getElem_toArray, List.getElem_cons_succ, List.getElem_cons_zero, List.setIfInBounds_toArray, List.set_cons_zero, List.set_cons_succ])
  clear cx4
  refine wpAnyH_ready (rs := [17]) (by kernel_rfl) (by simp) ?_
  refine AllReadyH.cons rfl (fun K hK => ?_) AllReadyH.nil
  have hcv := cy5
  go_simp
  refine hK.out _ _ hHeld (fun _ => ?_)
  clear hK K hcv cy5
  try (simp only [Act.put, List.getElem_toArray, List.getElem_cons_succ, List.getElem_cons_zero, List.setIfInBounds_toArray, List.set_cons_zero, List.set_cons_succ])
  refine wpAnyH_take (i := 18) (v := ?_) rfl (by kernel_rfl) (by kernel_rfl) (by kernel_rfl) (fun _ _ _ h => h) (Or.inl ⟨by rfl, ?_⟩) hHeld ?_
  rotate_left 1
  focus (intro wq hSw; go_simp; try with_reducible rfl)
  try (simp only [Act.put, List.getElem_toArray, List.getElem_cons_succ, List.getElem_cons_zero, List.setIfInBounds_toArray, List.set_cons_zero, List.set_cons_succ])
  refine wpAnyH_take (i := 19) (v := ?_) rfl (by kernel_rfl) (by kernel_rfl) (by kernel_rfl) (fun _ _ _ h => h) (Or.inl ⟨by rfl, ?_⟩) hHeld ?_
  rotate_left 1
  focus (intro wq hSw; go_simp; try with_reducible rfl)
  try (simp only [Act.put, List.getElem_toArray, List.getElem_cons_succ, List.getElem_cons_zero, List.setIfInBounds_toArray, List.set_cons_zero, List.set_cons_succ])
  refine wpAnyH_take (i := 20) (v := ?_) rfl (by kernel_rfl) (by kernel_rfl) (by kernel_rfl) (fun _ _ _ h => h) (Or.inl ⟨by rfl, ?_⟩) hHeld ?_
  rotate_left 1
  focus (intro wq hSw; go_simp; try with_reducible rfl)
  try (simp only [Act.put, List.getElem_toArray, List.getElem_cons_succ, List.getElem_cons_zero, List.setIfInBounds_toArray, List.set_cons_zero, List.set_cons_succ])
  refine wpAnyH_take (i := 21) (v := ?_) rfl (by kernel_rfl) (by kernel_rfl) (by kernel_rfl) (fun _ _ _ h => h) (Or.inl ⟨by rfl, ?_⟩) hHeld ?_
  rotate_left 1
  focus (intro wq hSw; go_simp; try with_reducible rfl)
  try (simp only [Act.put, List.getElem_toArray, List.getElem_cons_succ, List.getElem_cons_zero, List.setIfInBounds_toArray, List.set_cons_zero, List.set_cons_succ])
  refine wpAnyH_take (i := 22) (v := ?_) rfl (by kernel_rfl) (by kernel_rfl) (by kernel_rfl) (fun _ _ _ h => h) (Or.inl ⟨by rfl, ?_⟩) hHeld ?_
  rotate_left 1
  focus (intro wq hSw; go_simp; try with_reducible rfl)
  try (simp only [Act.put, List.getElem_toArray, List.getElem_cons_succ, List.getElem_cons_zero, List.setIfInBounds_toArray, List.set_cons_zero, List.set_cons_succ])
  refine wpAnyH_take (i := 25) (v := ?_) rfl (by kernel_rfl) (by kernel_rfl) (by kernel_rfl) (fun _ _ _ h => h) (Or.inl ⟨by rfl, ?_⟩) hHeld ?_
  rotate_left 1
  focus (intro wq hSw; go_simp; try with_reducible rfl)
  try (simp only [Act.put, List.getElem_toArray, List.getElem_cons_succ, List.getElem_cons_zero, List.setIfInBounds_toArray, List.set_cons_zero, List.set_cons_succ])
  refine wpAnyH_take (i := 26) (v := ?_) rfl (by kernel_rfl) (by kernel_rfl) (by kernel_rfl) (fun _ _ _ h => h) (Or.inl ⟨by rfl, ?_⟩) hHeld ?_
  rotate_left 1
  focus (intro wq hSw; go_simp; try with_reducible rfl)
  try (simp only [Act.put, List.getElem_toArray, List.getElem_cons_succ, List.getElem_cons_zero, List.setIfInBounds_toArray, List.set_cons_zero, List.set_cons_succ])
  refine wpAnyH_ready (rs := [23]) (by kernel_rfl) (by simp) ?_
  refine AllReadyH.cons rfl (fun K hK => ?_) AllReadyH.nil
  go_simp
  go_at_call 16
  (with_reducible refine (text_small a0 n0 c0 l s _ ?_ (by omega) (by omega)).mono ?_)
  · exact h.past B5
  rintro e w6 ⟨g6, c6, rfl, o6, b6, q6⟩
  have B6 := below_on B5 b6
  have O6 := OwnB.below O5 b6 (OwnB.lt O5)
  have n6 : g6 ≠ g1 := Nat.ne_of_gt (Nat.lt_of_lt_of_le (OwnB.lt O5) q6)
  have cx6 := fun (w' : World) (hp : Puts w6 w' g1 n0) => (o6.puts hp (.inl n6)).isB.conv byteTy Cst.out
  clear o6 n6
  have hP : Puts w5 w6 g1 n0 := below_puts' b6
  refine hK.out _ _ hP (fun _ => ?_)
  clear hK K
  refine wpAnyH_more (S' := fun w' => Puts w6 w' g1 n0) (fun w' h => hP.trans h (.inl ⟨rfl, Nat.le_refl _⟩)) _ _ _ _ ?_
  clear hHeld hP
  have hHeld : Puts w6 w6 g1 n0 := Puts.refl _ _ _
  try (simp only [Act.put, List.getElem_toArray, List.getElem_cons_succ, List.getElem_cons_zero, List.setIfInBounds_toArray, List.set_cons_zero, List.set_cons_succ])
  refine wpAnyH_take (i := 24) (v := ?_) rfl (by kernel_rfl) (by kernel_rfl) (by kernel_rfl) (fun _ _ _ h => h) (Or.inl ⟨by rfl, ?_⟩) hHeld ?_
  rotate_left 1
  focus (intro wq hSw; have hcv := cx6 wq hSw; go_simp; try with_reducible rfl)
  try (simp only [Act.put, List.getElem_toArray, List.getElem_cons_succ, List.getElem_cons_zero, List.setIfInBounds_toArray, List.set_cons_zero, List.set_cons_succ])
  refine wpAnyH_ready (rs := [27]) (by kernel_rfl) (by simp) ?_
  refine AllReadyH.cons rfl (fun K hK => ?_) AllReadyH.nil
  go_simp
  go_at_call 17
  (with_reducible refine (rtext_any g1 n0 c1 l s _ ?_ (by omega) (by omega)).mono ?_)
  · exact O6
  rintro e w7 ⟨g7, c7, rfl, o7, p7, q7⟩
  have B7 := Below.trans B6 (p7.below GL B6.size)
  have O7 := O6.puts p7 (.inr (Nat.le_refl _))
  have cy7 := o7.isB.conv byteTy Cst.out
  clear o7 B6 O6
  have hP : Puts w6 w7 g1 n0 := p7
  refine hK.out _ _ hP (fun _ => ?_)
  clear hK K
  refine wpAnyH_more (S' := fun w' => Puts w7 w' g1 n0) (fun w' h => hP.trans h (.inl ⟨rfl, Nat.le_refl _⟩)) _ _ _ _ ?_
  clear hHeld hP
  have hHeld : Puts w7 w7 g1 n0 := Puts.refl _ _ _
  try (simp only [Act.put, List.getElem_toArray, List.getElem_cons_succ, List.getElem_cons_zero, List.setIfInBounds_toArray, List.set_cons_zero, List.set_cons_succ])
  clear cx6
  refine wpAnyH_ready (rs := [28]) (by kernel_rfl) (by simp) ?_
  refine AllReadyH.cons rfl (fun K hK => ?_) AllReadyH.nil
  have hcv := cy7
  go_simp
  refine hK.out _ _ hHeld (fun _ => ?_)
  clear hK K hcv cy7
  try (simp only [Act.put, List.getElem_toArray, List.getElem_cons_succ, List.getElem_cons_zero, List.setIfInBounds_toArray, List.set_cons_zero, List.set_cons_succ])
  refine wpAnyH_take (i := 29) (v := ?_) rfl (by kernel_rfl) (by kernel_rfl) (by kernel_rfl) (fun _ _ _ h => h) (Or.inl ⟨by rfl, ?_⟩) hHeld ?_
  rotate_left 1
  focus (intro wq hSw; go_simp; try with_reducible rfl)
  try (simp only [Act.put, List.getElem_toArray, List.getElem_cons_succ, List.getElem_cons_zero, List.setIfInBounds_toArray, List.set_cons_zero, List.set_cons_succ])
  refine wpAnyH_take (i := 30) (v := ?_) rfl (by kernel_rfl) (by kernel_rfl) (by kernel_rfl) (fun _ _ _ h => h) (Or.inl ⟨by rfl, ?_⟩) hHeld ?_
  rotate_left 1
  focus (intro wq hSw; go_simp; try with_reducible rfl)
  try (simp only [Act.put, List.getElem_toArray, List.getElem_cons_succ, List.getElem_cons_zero, List.setIfInBounds_toArray, List.set_cons_zero, List.set_cons_succ])
  refine wpAnyH_take (i := 31) (v := ?_) rfl (by kernel_rfl) (by kernel_rfl) (by kernel_rfl) (fun _ _ _ h => h) (Or.inl ⟨by rfl, ?_⟩) hHeld ?_
  rotate_left 1
  focus (intro wq hSw; go_simp; try with_reducible rfl)
  try (simp only [Act.put, List.getElem_toArray, List.getElem_cons_succ, List.getElem_cons_zero, List.setIfInBounds_toArray, List.set_cons_zero, List.set_cons_succ])
  refine wpAnyH_done (by kernel_rfl) ?_ _
  go_wp2_with fail
  go_ret
  exact ⟨rfl, B7⟩
end Go.Proofs.Ythkfoebannpmdaa
