/-
  A page is read.
-/
import Derived.Test.YtpfhggalbdjjmaaPg
namespace Go.Proofs.Ytpfhggalbdjjmaa
open Go.RowKit

/-- WHAT READ TELLS: a new slice of sixty-four bytes. -/
def ReadIs (w : World) (l : List UInt8) (e : Ending) (w' : World) : Prop :=
  ∃ g, e = .returned (.tuple #[.slice (some ⟨g, 0, none⟩) 64 64, .int .i64 0]) ∧ OwnB w' 5 g 64 64 l ∧ w.heap.size ≤ g ∧ Below w.heap.size w w'
theorem slice_pg (t : TypeId) (ht : t = 74 ∨ t = 73) (g o : Nat) (w : World) : (Instr.sliceAt t (.pointer (some ⟨g, o, none⟩)) none none none).run Try.prog w = .ok (.slice (some ⟨g, o, none⟩) 64 64) w := by
  rcases ht with rfl | rfl
  · kernel_rfl
  · kernel_rfl
section
variable {w : World} {d L K n : Nat} {ao : Option Addr} {m c : Nat} {s : Dk}
set_option maxRecDepth 100000 in
set_option maxHeartbeats 1000000 in
theorem read_at (h : DkAt w d L K n ao m c s) (hg : s.gone = false) (p : Nat) (hp : p < n) :
    Calls Try.prog 47 #[.pointer (some ⟨d, 0, none⟩), .int .i64 p] w (ReadIs w (s.pg p)) := by
  have HG := Lib.hid hg
  clear hg
  go_enter Try.func47, Try.ntmps47
  go_wp2_with fail
  refine (dead_at h).mono ?_
  rintro e w' ⟨rfl, rfl⟩
  rw [HG.out]
  go_wp2_with fail
  refine (has_yes h p hp).mono ?_
  rintro e w' ⟨rfl, rfl⟩
  have hsl := slice_pg 74 (.inl rfl) L (p * 64)
  have hpi : (p : Int) < (n : Int) := by omega
  go_wp2_with (first | (at_make; refine wpList_full_ob rfl _ _ 31 rfl 5 byteTy .i64 .i64 _ _ 64 rfl rfl rfl rfl (by omega) ?_; intro w1 hO b1; have h1 := h.past b1; have c2 := h1.c2; have hpg := h1.last.isB_pg p 0 hp (by omega); have hpl := pad_length (s.last.getD p [])) | (with_reducible refine wpList_copy_ob rfl (.tmp 14) (.tmp 21) 31 31 rfl 5 byteTy.ht sizeU8 _ 64 64 _ 5 rfl hO _ 64 64 _ rfl hpg ?_; intro w2 O2 g2; have b2 := b1.grown g2 (Nat.le_of_lt hO.lt) (fun k hk => by cases hk; exact Nat.le_refl _); replace O2 : OwnB w2 5 w.heap.size 64 64 (s.pg p) := (by simpa [Dk.pg, pad_length, List.take_of_length_le] using O2)))
  go_ret2
  exact ⟨_, rfl, O2, Nat.le_refl _, b2⟩
/-- The power is gone; there is no such page. -/
theorem read_dead (h : DkAt w d L K n ao m c s) (hg : s.gone = true) (p : Int) :
    Calls Try.prog 47 #[.pointer (some ⟨d, 0, none⟩), .int .i64 p] w fun e w' => e = .returned (.tuple #[.slice none 0 0, .int .i64 15]) ∧ w = w' := by
  have HG := Lib.hid hg
  clear hg
  go_enter Try.func47, Try.ntmps47
  go_wp2_with fail
  refine (dead_at h).mono ?_
  rintro e w' ⟨rfl, rfl⟩
  rw [HG.out]
  go_wp2
  go_ret2
  exact ⟨rfl, rfl⟩
theorem read_none (h : DkAt w d L K n ao m c s) (hg : s.gone = false) (p : Int) (hp : p < 0 ∨ (n : Int) ≤ p) :
    Calls Try.prog 47 #[.pointer (some ⟨d, 0, none⟩), .int .i64 p] w fun e w' => e = .returned (.tuple #[.slice none 0 0, .int .i64 1]) ∧ w = w' := by
  have HG := Lib.hid hg
  clear hg
  go_enter Try.func47, Try.ntmps47
  go_wp2_with fail
  refine (dead_at h).mono ?_
  rintro e w' ⟨rfl, rfl⟩
  rw [HG.out]
  go_wp2_with fail
  refine (has_no h p hp).mono ?_
  rintro e w' ⟨rfl, rfl⟩
  go_wp2
  go_ret2
  exact ⟨rfl, rfl⟩
end
end Go.Proofs.Ytpfhggalbdjjmaa
