/-
  A page is written over.
-/
import Derived.Test.YtpfhggalbdjjmaaDNew
namespace Go.Proofs.Ytpfhggalbdjjmaa
open Go.RowKit
set_option linter.unusedSimpArgs false

theorem slice_at (g o i : Nat) (hi : i < 64) (w : World) : (Instr.sliceAt 74 (.pointer (some ⟨g, o, none⟩)) (some (.int .i64 (i : Int))) none none).run Try.prog w = .ok (.slice (some ⟨g, o + i, none⟩) (64 - i) (64 - i)) w := by
  have hz : ∀ w', (sizeOf (Try.prog.elem 74)).run Try.prog w' = .ok 1 w' := fun w' => by kernel_rfl
  have hl : Try.prog.arrayLen 74 = 64 := by kernel_rfl
  rw [run_sliceAt_array_l w 74 ⟨g, o, none⟩ (by kernel_rfl) .i64 _ (by omega) (by rw [hl]; omega), hz, hl]
  simp only [Result.andThen_ok, slicedAt]
  rw [Int.toNat_natCast, if_neg (by omega), Addr.add_lit, Nat.mul_one]
/-- What a Tamper leaves. -/
def Dk.tamper (s : Dk) (p i : Nat) (b : List UInt8) : Dk := { s with last := s.last.set p (mix (s.last.getD p []) i b), kept := s.kept.set p (mix (s.kept.getD p []) i b) }
section
variable {w : World} {d L K n : Nat} {ao : Option Addr} {m c : Nat} {s : Dk}
set_option maxRecDepth 100000 in
set_option maxHeartbeats 2000000 in
theorem tamper_yes (h : DkAt w d L K n ao m c s) (p i : Nat) (hp : p < n) (bo : Option Addr) (bn bc' : Nat) (b : List UInt8) (hb : IsB w bo bn bc' b) (hF : Far (ownD d L K ao) bo) (hi : i < 64) (hbn : i + bn ≤ 64) :
    Calls Try.prog 21 #[.pointer (some ⟨d, 0, none⟩), .int .i64 p, .int .i64 i, .slice bo bn bc'] w fun e w' => e = .returned (.bool true) ∧ DkAt w' d L K n ao m c (s.tamper p i b) ∧ Kp w w' (ownD d L K ao) := by
  have hi0 : ¬ (i : Int) < 0 := by omega
  have hpi : (p : Int) < (n : Int) := by omega
  have hi1 : ¬ (64 - (bn : Int)) < (i : Int) := by omega
  have hbn2 : (bn : Int) ≤ 64 := by omega
  have c2 := h.c2
  have s2 := slice_at L (p * 64) i hi
  have s3 := slice_at K (p * 64) i hi
  have hbl : b.take bn = b := List.take_of_length_le (by rw [hb.len]; exact Nat.le_refl _)
  have HBL := Lib.hid hbl
  clear hbl
  go_enter Try.func21, Try.ntmps21
  go_wp2_with fail
  refine (has_yes h p hp).mono ?_
  rintro e w' ⟨rfl, rfl⟩
  have hO := h.last
  go_wp2_with (first
    | ((with_reducible refine wpList_copy_pg (o := ⟨some 33, _, _, _, _, _⟩) rfl (.tmp 31) (.tmp 32) ?_ p i (64 - i) (64 - i) hO ?_ hp bo bn bc' b ?_ hb bn ?_ ?_ ?_); (rfl); (rfl); (rfl); (omega); (omega); (intro w2 hO2 g2; rw [HBL.out] at hO2; have h2 := h.putLast _ hO2 g2; have k2 : Kp w w2 (ownD d L K ao) := Kp.ofGrown g2 (fun z e => by cases e; exact .inr (.inl rfl)); have hb2 := hb.kp k2 hF; have hK2 := h2.kept; have c3 := h2.c3))
    | ((with_reducible refine wpList_copy_pg (o := ⟨some 43, _, _, _, _, _⟩) rfl (.tmp 41) (.tmp 42) ?_ p i (64 - i) (64 - i) hK2 ?_ hp bo bn bc' b ?_ hb2 bn ?_ ?_ ?_); (rfl); (rfl); (rfl); (omega); (omega); (intro w3 hO3 g3; rw [HBL.out] at hO3; have h3 := h2.putKept _ hO3 g3; have k3 := k2.trans (Kp.ofGrown (S := ownD d L K ao) g3 (fun z e => by cases e; exact .inr (.inr (.inl rfl)))) (fun _ _ q => q); have H3 := Lib.hid h3)))
  go_ret
  exact ⟨rfl, H3.out, k3⟩
theorem tamper_none (h : DkAt w d L K n ao m c s) (p i : Int) (hp : p < 0 ∨ (n : Int) ≤ p) (bo : Option Addr) (bn bc' : Nat) :
    Calls Try.prog 21 #[.pointer (some ⟨d, 0, none⟩), .int .i64 p, .int .i64 i, .slice bo bn bc'] w fun e w' => e = .returned (.bool false) ∧ w = w' := by
  go_enter Try.func21, Try.ntmps21
  go_wp2_with fail
  refine (has_no h p hp).mono ?_
  rintro e w' ⟨rfl, rfl⟩
  go_wp2
  go_ret
  exact ⟨rfl, rfl⟩
theorem tamper_out (h : DkAt w d L K n ao m c s) (p : Nat) (i : Int) (hp : p < n) (bo : Option Addr) (bn bc' : Nat) (hbn : bn ≤ 1000000) (hi : i < 0 ∨ 64 - (bn : Int) < i) :
    Calls Try.prog 21 #[.pointer (some ⟨d, 0, none⟩), .int .i64 p, .int .i64 i, .slice bo bn bc'] w fun e w' => e = .returned (.bool false) ∧ w = w' := by
  have hbn2 : (bn : Int) ≤ 1000000 := by omega
  by_cases h0 : i < 0
  · clear hi
    go_enter Try.func21, Try.ntmps21
    go_wp2_with fail
    refine (has_yes h p hp).mono ?_
    rintro e w' ⟨rfl, rfl⟩
    go_wp2
    go_ret
    exact ⟨rfl, rfl⟩
  · have h1 : 64 - (bn : Int) < i := by omega
    clear hi
    go_enter Try.func21, Try.ntmps21
    go_wp2_with fail
    refine (has_yes h p hp).mono ?_
    rintro e w' ⟨rfl, rfl⟩
    go_wp2
    go_ret
    exact ⟨rfl, rfl⟩
end
end Go.Proofs.Ytpfhggalbdjjmaa
