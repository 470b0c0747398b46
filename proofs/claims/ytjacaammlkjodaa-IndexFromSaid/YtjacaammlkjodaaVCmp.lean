/-
  Values, held against one another (plain).
-/
import Derived.Test.YtjacaammlkjodaaV
import Derived.Test.YtjacaammlkjodaaOrd4
namespace Go.Proofs.Ytjacaammlkjodaa

def V.cmp (a b : V) : Int := cmpV a.k a.n a.s b.k b.n b.s
end Go.Proofs.Ytjacaammlkjodaa
