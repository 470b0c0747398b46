/-
  The bodies of the loops of the reference's Sum.
-/
import Derived.Test.YtpphlmbhonaglaaDoorRSha1
import Derived.Test.YtpphlmbhonaglaaDoorReg
import Derived.Test.YtpphlmbhonaglaaDoorSchedP
import Derived.Outline
namespace Go.Proofs.YtpphlmbhonaglaaDoor

def loopsOf : Code → List Code
  | .loop c => c :: loopsOf c
  | .seq a b => loopsOf a ++ loopsOf b
  | .block _ c => loopsOf c
  | .scope c => loopsOf c
  | .cond _ a b => loopsOf a ++ loopsOf b
  | _ => []
/-- Loop k of the reference's Sum, in the text's order. -/
noncomputable def rb (k : Nat) : Code := ((Tryd.f12.body.map loopsOf).getD []).getD k .skip
end Go.Proofs.YtpphlmbhonaglaaDoor
