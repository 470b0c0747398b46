/-
  sync/atomic's Bool is read.
-/
import Derived.Test.YtpfhggalbdjjmaaDoorProg
import Derived.WalkKit
import Derived.Laws.Pointers
import Derived.Laws.LoneSync
namespace Go.Proofs.YtpfhggalbdjjmaaDoor
open Go.RowKit

/-- '(*sync/atomic.Bool).Load'. -/
theorem load_any (a : Addr) (d : Int) (b : Bool) (hb : (d != 0) = b) (w : World) (hc : w.cell? a = some (.int .u32 d)) :
    Calls Tryd.prog 67 #[.pointer (some a)] w fun e w' => e = .returned (.bool b) ∧ w = w' := by
  have hl := run_call_load (P := Tryd.prog) Tryd.func73 (by kernel_rfl) (by kernel_rfl) (by kernel_rfl) .u32 (by kernel_rfl) hc
  go_enter Tryd.func67, Tryd.ntmps67
  go_wp2
  go_ret
  exact ⟨rfl, rfl⟩
end Go.Proofs.YtpfhggalbdjjmaaDoor
