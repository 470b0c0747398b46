/-
  Integers in cells. Of no program.
-/
import Derived.Test.YtllijeciodmckaaRow
namespace Go.Proofs.Ytllijeciodmckaa
open Go.RowKit
/-- An integer in a cell. -/
def EI : Enc Int where
  sz := 1
  f v := [.int .i64 v]
  len _ := rfl
  one v u hu := by
    simp only [List.mem_cons, List.not_mem_nil, or_false] at hu
    rw [hu]
    rfl
theorem EI_all (l : List Int) : EI.all l = l.map (Value.int .i64) := by
  induction l with
  | nil => rfl
  | cons x l ih => rw [EI.all_cons, ih]; rfl
end Go.Proofs.Ytllijeciodmckaa
