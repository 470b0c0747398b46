/-
  A number on nothing; a row of bytes that came in.
-/
import Derived.Test.YtpfhggalbdjjmaaWritesI
import Derived.Test.YtpfhggalbdjjmaaIsB
import Derived.OpenShut
namespace Go.Proofs.Ytpfhggalbdjjmaa
open Go.RowKit

theorem int_nil (x : Int) (w : World) : Calls Try.prog 32 #[.slice none 0 0, .int .i64 x] w (Fresh w 8 (le 8 (XU x))) :=
  int_any none 0 0 [] x w (IsB.nilB w) (by omega)
end Go.Proofs.Ytpfhggalbdjjmaa
