/-
  Valid values.
-/
import Derived.Test.YtjacaammlkjodaaV
namespace Go.Proofs.Ytjacaammlkjodaa
open Go.RowKit

/-- A valid value. -/
inductive Vok : V → Prop
  | none : Vok ⟨0, 0, ByteArray.empty⟩
  | bool (n : Int) : n = 0 ∨ n = 1 → Vok ⟨1, n, ByteArray.empty⟩
  | int (n : Int) : -9223372036854775808 ≤ n ∧ n ≤ 9223372036854775807 → Vok ⟨2, n, ByteArray.empty⟩
  | text (s : ByteArray) : s.size ≤ 60 → Vok ⟨3, 0, s⟩
end Go.Proofs.Ytjacaammlkjodaa
