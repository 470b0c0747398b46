/-
  A value: how one lies in cells.
-/
import Derived.Test.YtllijeciodmckaaRow
import Derived.Test.YtllijeciodmckaaChkV
namespace Go.Proofs.Ytllijeciodmckaa
open Go.RowKit

/-- A value. -/
structure V where
  k : Int
  n : Int
  s : ByteArray
def V.val (v : V) : Value := vv v.k v.n v.s
def V0 : V := ⟨0, 0, ⟨#[]⟩⟩
def EV : Enc V where
  sz := 3
  f v := [.int .i64 v.k, .int .i64 v.n, .string v.s]
  len _ := rfl
  one v u hu := by
    simp only [List.mem_cons, List.not_mem_nil, or_false] at hu
    rcases hu with rfl | rfl | rfl <;> rfl
theorem info_val : (Try.prog.info? 55).map (fun i => (i.zero, i.size, i.bytes)) = some (some (.agg #[.int .i64 0, .int .i64 0, .string ⟨#[]⟩]), 3, 32) := by kernel_rfl
theorem rowTyV : RowTy EV Try.prog 49 55 V0 := by
  obtain ⟨i, hi, hz, hs, hb⟩ := info_parts info_val
  exact ⟨Try.underlying49, i, _, hi, hz, hs, rfl, by rw [hb]; decide⟩
/-- The cells of the value at place i. -/
theorem cells_v {w : World} {b off : Nat} {l : List V} (h : ∀ j u, (EV.all l)[j]? = some u → w.cell? ⟨b, off + j, none⟩ = some u) (i : Nat) (v : V) (hv : l[i]? = some v) :
    w.cell? ⟨b, off + i * 3, none⟩ = some (.int .i64 v.k) ∧ w.cell? ⟨b, off + i * 3 + 1, none⟩ = some (.int .i64 v.n) ∧ w.cell? ⟨b, off + i * 3 + 2, none⟩ = some (.string v.s) := by
  have g := fun j (hj : j < 3) => EV.all_get l i j v hv hj
  exact ⟨h _ _ (g 0 (by decide)), h _ _ (g 1 (by decide)), h _ _ (g 2 (by decide))⟩
end Go.Proofs.Ytllijeciodmckaa
