/-
  A slice of slices of bytes, and of integers, that comes in.
-/
import Derived.Test.YtgjjpejimpiikaaDoorDoor
namespace Go.Proofs.YtgjjpejimpiikaaDoor
open Go.ChangeShapes Go.WideShapes Go.ChangeAt Go.RowKit

/-- THE SLICE ao, n READS AS THE INTEGERS zs. -/
structure IsI (w : World) (ao : Option Addr) (n : Nat) (zs : List Int) : Prop where
  len : zs.length = n
  max : n ≤ maxLen
  has : 0 < n → ∃ a, ao = some a
  cell : ∀ a, ao = some a → ∀ j, j < n → w.cell? (a.add j) = some (.int .i64 (zs.getD j 0))
section
variable {H : Type} {enc : TypeId × Value → H} {W : World} {sp : Nat → Bool} {held : Bool}
theorem rows_of_byte {w : World} {A : Option Addr} {L C : Nat} {Z : List Int} (h1 : L ≤ C) (h2 : C ≤ maxLen) (h3 : Z.length = C) (h4 : ∀ n ∈ Z, (Lit.int .u8 n).wf = true) (h5 : A = none → C = 0) (h6 : ∀ a', A = some a' → ∀ c, c < C → w.cell? (a'.add c) = some (.int .u8 (Z.getD c 0))) : ∃ l, IsB w A L C l := by
  cases A with
  | none =>
    have := h5 rfl
    obtain rfl : C = 0 := this
    obtain rfl : L = 0 := by omega
    exact ⟨[], IsB.nilB w⟩
  | some a => exact isB_of_row (.inr ⟨a, rfl, h1, h2, h3, fun i hi => h6 a rfl i (by omega), h4⟩)
theorem open_rows_b {ao : Option Addr} {n c : Nat} {d : DataW H} {p : List MemPlace} (h : DataW.Trod enc Tryd.prog W 0 (fun _ => true) held 73 (.slice ao n c) d p) : ∃ ps : List (List UInt8), IsP W ao n ps ∧ n ≤ maxLen ∧ ∀ l ∈ ps, l.length ≤ maxLen := by
  obtain ⟨fuel, hf⟩ := h
  rcases Deep.open_int_rows Tryd.underlying73 Tryd.underlying51 Tryd.underlying5 (by kernel_rfl) (by kernel_rfl) hf with ⟨hcs, _⟩ | ⟨a, len, cap, A, L, C, Z, hcs, _, hl, hm, _, hx⟩
  · simp [Value.cells] at hcs
    obtain ⟨rfl, rfl, rfl⟩ := hcs
    exact ⟨[], isP_nil W none, Nat.zero_le _, by simp⟩
  · simp [Value.cells] at hcs
    obtain ⟨rfl, rfl, rfl⟩ := hcs
    have each : ∀ r, r < n → ∃ l, IsB W (A r) (L r) (C r) l := fun r hr => by
      obtain ⟨_, x1, x2, x3, x4, x5, x6⟩ := hx r (by omega)
      exact rows_of_byte x1 x2 x3 x4 x5 (fun a' ha' => (x6 a' ha').2)
    obtain ⟨f, hf⟩ := Deep.choose_lt each
    have hg : ∀ j, j < n → ((List.range n).map f).getD j [] = f j := fun j hj => by simp [List.getD, hj]
    refine ⟨(List.range n).map f, ⟨by simp, fun _ => ⟨a, rfl⟩, fun a' ha' j hj => ?_⟩, by omega, fun l hl' => ?_⟩
    · obtain rfl := Option.some.inj ha'
      exact ⟨A j, L j, C j, (hx j (by omega)).1, by rw [hg j hj]; exact hf j hj⟩
    · obtain ⟨j, hj, rfl⟩ := List.mem_map.1 hl'
      have hb := hf j (List.mem_range.1 hj)
      have := hb.len
      have := hb.le
      have := hb.max
      omega
theorem open_bytes_b {ao : Option Addr} {n c : Nat} {d : DataW H} {p : List MemPlace} (h : DataW.Trod enc Tryd.prog W 0 (fun _ => true) held 51 (.slice ao n c) d p) : ∃ l : List UInt8, IsB W ao n c l := by
  obtain ⟨fuel, hf⟩ := h
  rcases open_ints Tryd.underlying51 Tryd.underlying5 (by kernel_rfl) hf with ⟨hcs, _⟩ | ⟨x, l, c', zs, hcs, _, hl, hm, hz, _, hcell, hwz⟩
  · simp [Value.cells] at hcs
    obtain ⟨rfl, rfl, rfl⟩ := hcs
    exact isB_of_row (zs := []) (.inl ⟨rfl, rfl, rfl, rfl⟩)
  · simp [Value.cells] at hcs
    obtain ⟨rfl, rfl, rfl⟩ := hcs
    exact isB_of_row (.inr ⟨_, rfl, hl, hm, by simpa using hz, hcell, hwz⟩)
theorem open_ints_b {ao : Option Addr} {n c : Nat} {d : DataW H} {p : List MemPlace} (h : DataW.Trod enc Tryd.prog W 0 (fun _ => true) held 93 (.slice ao n c) d p) : ∃ zs : List Int, IsI W ao n zs := by
  obtain ⟨fuel, hf⟩ := h
  rcases open_ints Tryd.underlying93 Tryd.underlying3 (by kernel_rfl) hf with ⟨hcs, _⟩ | ⟨x, l, c', zs, hcs, _, hl, hm, hz, _, hcell, hwz⟩
  · simp [Value.cells] at hcs
    obtain ⟨rfl, rfl, rfl⟩ := hcs
    exact ⟨[], rfl, Nat.zero_le _, fun h => by omega, fun a _ j hj => by omega⟩
  · simp [Value.cells] at hcs
    obtain ⟨rfl, rfl, rfl⟩ := hcs
    have hz' : zs.length = c := by simpa using hz
    refine ⟨zs.take n, by simp; omega, by omega, fun _ => ⟨_, rfl⟩, fun a ha j hj => ?_⟩
    obtain rfl := Option.some.inj ha
    rw [hcell j (by omega)]
    simp [List.getD, hj]
end
end Go.Proofs.YtgjjpejimpiikaaDoor
