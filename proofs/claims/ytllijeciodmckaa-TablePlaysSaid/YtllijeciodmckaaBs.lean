/-
  A text of a row of bytes.
-/
import Derived.WalkKit
namespace Go.Proofs.Ytllijeciodmckaa

def bsOf (l : List UInt8) : ByteArray := ⟨l.toArray⟩
theorem bsOf_toList (l : List UInt8) : (bsOf l).data.toList = l := by simp [bsOf]
theorem bsOf_data (s : ByteArray) : bsOf s.data.toList = s := by simp [bsOf]
theorem bsOf_size (l : List UInt8) : (bsOf l).size = l.length := by simp [bsOf, ByteArray.size]
end Go.Proofs.Ytllijeciodmckaa
