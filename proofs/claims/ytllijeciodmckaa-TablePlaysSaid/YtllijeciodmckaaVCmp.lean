/-
  Values, held against one another (plain).
-/
import Derived.Test.YtllijeciodmckaaV
import Derived.Test.YtllijeciodmckaaOrd4
namespace Go.Proofs.Ytllijeciodmckaa

def V.cmp (a b : V) : Int := cmpV a.k a.n a.s b.k b.n b.s
end Go.Proofs.Ytllijeciodmckaa
