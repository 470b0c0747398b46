/-
  A slice of slices of bytes that comes in.
-/
import Derived.Test.YtpfhggalbdjjmaaOpenI
import Derived.Test.YtpfhggalbdjjmaaIsP
import Derived.Deep.Matrix
namespace Go.Proofs.Ytpfhggalbdjjmaa
open Go.ChangeShapes Go.WideShapes Go.ChangeAt Go.RowKit
section
variable {H : Type} {enc : TypeId × Value → H} {W : World} {sp : Nat → Bool} {held : Bool}
theorem rows_of_byte_p {w : World} {A : Option Addr} {L C : Nat} {Z : List Int} (h1 : L ≤ C) (h2 : C ≤ maxLen) (h3 : Z.length = C) (h4 : ∀ n ∈ Z, (Lit.int .u8 n).wf = true) (h5 : A = none → C = 0) (h6 : ∀ a', A = some a' → ∀ c, c < C → w.cell? (a'.add c) = some (.int .u8 (Z.getD c 0))) : ∃ l, IsB w A L C l := by
  cases A with
  | none =>
    have := h5 rfl
    obtain rfl : C = 0 := this
    obtain rfl : L = 0 := by omega
    exact ⟨[], IsB.nilB w⟩
  | some a => exact isB_of_row (.inr ⟨a, rfl, h1, h2, h3, fun i hi => h6 a rfl i (by omega), h4⟩)
theorem open_rows_p {ao : Option Addr} {n c : Nat} {d : DataW H} {p : List MemPlace} (h : DataW.Trod enc Try.prog W 0 (fun _ => true) held 22 (.slice ao n c) d p) : ∃ ps : List (List UInt8), IsP W ao n ps := by
  obtain ⟨fuel, hf⟩ := h
  rcases Deep.open_int_rows Try.underlying22 Try.underlying31 Try.underlying5 (by kernel_rfl) (by kernel_rfl) hf with ⟨hcs, _⟩ | ⟨a, len, cap, A, L, C, Z, hcs, _, hl, hm, _, hx⟩
  · simp [Value.cells] at hcs
    obtain ⟨rfl, rfl, rfl⟩ := hcs
    exact ⟨[], rfl, fun h => by omega, fun a ha => by cases ha⟩
  · simp [Value.cells] at hcs
    obtain ⟨rfl, rfl, rfl⟩ := hcs
    have each : ∀ r, r < n → ∃ l, IsB W (A r) (L r) (C r) l := fun r hr => by
      obtain ⟨_, x1, x2, x3, x4, x5, x6⟩ := hx r (by omega)
      exact rows_of_byte_p x1 x2 x3 x4 x5 (fun a' ha' => (x6 a' ha').2)
    obtain ⟨f, hf⟩ := Deep.choose_lt each
    have hg : ∀ j, j < n → ((List.range n).map f).getD j [] = f j := fun j hj => by simp [List.getD, hj]
    refine ⟨(List.range n).map f, by simp, fun _ => ⟨a, rfl⟩, fun a' ha' j hj => ?_⟩
    obtain rfl := Option.some.inj ha'
    exact ⟨A j, L j, C j, (hx j (by omega)).1, by rw [hg j hj]; exact hf j hj⟩
end
end Go.Proofs.Ytpfhggalbdjjmaa
