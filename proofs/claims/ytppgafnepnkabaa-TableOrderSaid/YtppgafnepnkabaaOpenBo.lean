/-
  A slice of bools that comes in; of slices of bytes, with its capacity; the front of such a slice. (XOpenP's two theorems besides: a claim has at most 60 files.)
-/
import Derived.Test.YtppgafnepnkabaaOpenI
import Derived.Test.YtppgafnepnkabaaIsP
import Derived.Test.YtppgafnepnkabaaRow
import Derived.Deep.Grids
import Derived.Deep.Matrix
namespace Go.Proofs.Ytppgafnepnkabaa
open Go.ChangeShapes Go.WideShapes Go.ChangeAt Go.RowKit
/-- A bool in a cell. -/
def EBo : Enc Bool where
  sz := 1
  f v := [.bool v]
  len _ := rfl
  one v u hu := by
    simp only [List.mem_cons, List.not_mem_nil, or_false] at hu
    rw [hu]
    rfl
theorem EBo_all (l : List Bool) : EBo.all l = l.map Value.bool := by
  induction l with
  | nil => rfl
  | cons x l ih => rw [EBo.all_cons, ih]; rfl
section
variable {H : Type} {enc : TypeId × Value → H} {W : World} {sp : Nat → Bool} {held : Bool}
theorem rows_of_byte_p {w : World} {A : Option Addr} {L C : Nat} {Z : List Int} (h1 : L ≤ C) (h2 : C ≤ maxLen) (h3 : Z.length = C) (h4 : ∀ n ∈ Z, (Lit.int .u8 n).wf = true) (h5 : A = none → C = 0) (h6 : ∀ a', A = some a' → ∀ c, c < C → w.cell? (a'.add c) = some (.int .u8 (Z.getD c 0))) : ∃ l, IsB w A L C l := by
  cases A with
  | none =>
    have := h5 rfl
    obtain rfl : C = 0 := this
    obtain rfl : L = 0 := by omega
    exact ⟨[], IsB.nilB w⟩
  | some a => exact isB_of_row (.inr ⟨a, rfl, h1, h2, h3, fun i hi => h6 a rfl i (by omega), h4⟩)
theorem open_rows_p {ao : Option Addr} {n c : Nat} {d : DataW H} {p : List MemPlace} (h : DataW.Trod enc Try.prog W 0 (fun _ => true) held 22 (.slice ao n c) d p) : ∃ ps : List (List UInt8), IsP W ao n ps := by
  obtain ⟨fuel, hf⟩ := h
  rcases Deep.open_int_rows Try.underlying22 Try.underlying31 Try.underlying5 (by kernel_rfl) (by kernel_rfl) hf with ⟨hcs, _⟩ | ⟨a, len, cap, A, L, C, Z, hcs, _, hl, hm, _, hx⟩
  · simp [Value.cells] at hcs
    obtain ⟨rfl, rfl, rfl⟩ := hcs
    exact ⟨[], rfl, fun h => by omega, fun a ha => by cases ha⟩
  · simp [Value.cells] at hcs
    obtain ⟨rfl, rfl, rfl⟩ := hcs
    have each : ∀ r, r < n → ∃ l, IsB W (A r) (L r) (C r) l := fun r hr => by
      obtain ⟨_, x1, x2, x3, x4, x5, x6⟩ := hx r (by omega)
      exact rows_of_byte_p x1 x2 x3 x4 x5 (fun a' ha' => (x6 a' ha').2)
    obtain ⟨f, hf⟩ := Deep.choose_lt each
    have hg : ∀ j, j < n → ((List.range n).map f).getD j [] = f j := fun j hj => by simp [List.getD, hj]
    refine ⟨(List.range n).map f, by simp, fun _ => ⟨a, rfl⟩, fun a' ha' j hj => ?_⟩
    obtain rfl := Option.some.inj ha'
    exact ⟨A j, L j, C j, (hx j (by omega)).1, by rw [hg j hj]; exact hf j hj⟩
theorem open_bools_p {ao : Option Addr} {n c : Nat} {d : DataW H} {p : List MemPlace} (h : DataW.Trod enc Try.prog W 0 (fun _ => true) held 74 (.slice ao n c) d p) : ∃ l : List Bool, IsR EBo W ao n c l := by
  obtain ⟨fuel, hf⟩ := h
  rcases Deep.open_bools Try.underlying74 Try.underlying4 (by kernel_rfl) hf with ⟨hcs, _⟩ | ⟨x, l, c', zs, hcs, _, hl, hm, _, hcell⟩
  · simp [Value.cells] at hcs
    obtain ⟨rfl, rfl, rfl⟩ := hcs
    exact ⟨[], IsR.nilR W⟩
  · simp [Value.cells] at hcs
    obtain ⟨rfl, rfl, rfl⟩ := hcs
    refine ⟨(List.range n).map zs, by simp, hl, hm, (fun h => by cases h), fun a ha j u hu => ?_⟩
    obtain rfl := Option.some.inj ha
    rw [EBo_all, List.getElem?_map, List.getElem?_map] at hu
    by_cases hj : j < n
    · rw [List.getElem?_range hj] at hu
      obtain rfl := Option.some.inj hu
      exact hcell j (by omega)
    · rw [List.getElem?_eq_none (by simp; omega)] at hu
      cases hu
theorem open_rows_c {ao : Option Addr} {n c : Nat} {d : DataW H} {p : List MemPlace} (h : DataW.Trod enc Try.prog W 0 (fun _ => true) held 22 (.slice ao n c) d p) : ∃ ps : List (List UInt8), IsP W ao n ps ∧ n ≤ c ∧ c ≤ maxLen := by
  obtain ⟨ps, hp⟩ := open_rows_p h
  obtain ⟨fuel, hf⟩ := h
  rcases Deep.open_int_rows Try.underlying22 Try.underlying31 Try.underlying5 (by kernel_rfl) (by kernel_rfl) hf with ⟨hcs, _⟩ | ⟨a, len, cap, A, L, C, Z, hcs, _, hl, hm, _, hx⟩
  · simp [Value.cells] at hcs
    obtain ⟨rfl, rfl, rfl⟩ := hcs
    exact ⟨ps, hp, Nat.le_refl _, Nat.zero_le _⟩
  · simp [Value.cells] at hcs
    obtain ⟨rfl, rfl, rfl⟩ := hcs
    exact ⟨ps, hp, hl, hm⟩
end
/-- 'l[:k]' of slices of bytes. -/
theorem IsP_head {w : World} {ao : Option Addr} {n cap : Nat} {ps : List (List UInt8)} (h : IsP w ao n ps) (hle : n ≤ cap) (k : Nat) (hk : k ≤ n) (hk2 : k ≤ 1000000) :
    ∃ ao2, (∀ w' : World, (Instr.slice 22 (.slice ao n cap) none (some (.int .i64 k)) none).run Try.prog w' = .ok (.slice ao2 k cap) w') ∧ IsP w ao2 k (ps.take k) := by
  have hrun : ∀ w' : World, (Instr.slice 22 (.slice ao n cap) none (some (.int .i64 k)) none).run Try.prog w' = .ok (sliced ao 0 k cap 1) w' := fun w' => by
    have he : (sizeOf (Try.prog.elem 22)).run Try.prog w' = .ok 1 w' := by kernel_rfl
    rw [run_slice_h w' 22 ao n cap (by kernel_rfl) .i64 (k : Int) (by omega) (by omega), he]
    simp [Result.andThen]
  have hget : ∀ j, j < k → (ps.take k).getD j [] = ps.getD j [] := fun j hj => by
    simp [List.getD, List.getElem?_take_of_lt hj]
  have hlen : (ps.take k).length = k := by rw [List.length_take, h.len]; omega
  by_cases he : cap = 0
  · obtain rfl : k = 0 := by omega
    refine ⟨ao, fun w' => by rw [hrun, sliced, if_pos he]; simp, hlen, fun q => by omega, fun a ha j hj => by omega⟩
  · refine ⟨ao.map fun x => x.add 0, fun w' => by rw [hrun, sliced, if_neg he]; simp, hlen, fun q => ?_, fun a ha j hj => ?_⟩
    · obtain ⟨a, ha⟩ := h.has (by omega)
      exact ⟨a.add 0, by rw [ha]; rfl⟩
    · obtain ⟨b, hb, rfl⟩ := Option.map_eq_some_iff.1 ha
      rw [hget j hj]
      have := h.cell b hb j (by omega)
      have e : (b.add 0).add j = b.add j := by simp [Addr.add]
      rw [e]
      exact this
end Go.Proofs.Ytppgafnepnkabaa
