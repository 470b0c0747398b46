/-
  sync/atomic's Bool is read.
-/
import Derived.Test.YtpfhggalbdjjmaaProg
import Derived.WalkKit
import Derived.Laws.Pointers
import Derived.Laws.LoneSync
namespace Go.Proofs.Ytpfhggalbdjjmaa
open Go.RowKit

/-- '(*sync/atomic.Bool).Load'. -/
theorem load_any (a : Addr) (d : Int) (b : Bool) (hb : (d != 0) = b) (w : World) (hc : w.cell? a = some (.int .u32 d)) :
    Calls Try.prog 41 #[.pointer (some a)] w fun e w' => e = .returned (.bool b) ∧ w = w' := by
  have hl := run_call_load (P := Try.prog) Try.func60 (by kernel_rfl) (by kernel_rfl) (by kernel_rfl) .u32 (by kernel_rfl) hc
  go_enter Try.func41, Try.ntmps41
  go_wp2
  go_ret
  exact ⟨rfl, rfl⟩
end Go.Proofs.Ytpfhggalbdjjmaa
