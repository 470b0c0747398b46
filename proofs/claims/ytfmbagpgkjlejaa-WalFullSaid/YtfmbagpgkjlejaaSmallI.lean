/-
  A number on nothing; a row of bytes that came in.
-/
import Derived.Test.YtfmbagpgkjlejaaWritesI
import Derived.Test.YtfmbagpgkjlejaaIsB
import Derived.OpenShut
namespace Go.Proofs.Ytfmbagpgkjlejaa
open Go.RowKit

theorem int_nil (x : Int) (w : World) : Calls Try.prog 34 #[.slice none 0 0, .int .i64 x] w (Fresh w 8 (le 8 (XU x))) :=
  int_any none 0 0 [] x w (IsB.nilB w) (by omega)
end Go.Proofs.Ytfmbagpgkjlejaa
