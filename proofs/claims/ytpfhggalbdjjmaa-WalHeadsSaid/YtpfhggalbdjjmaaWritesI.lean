/-
  code.Int.
-/
import Derived.Test.YtpfhggalbdjjmaaLow
namespace Go.Proofs.Ytpfhggalbdjjmaa
open Go.RowKit

set_option maxHeartbeats 400000 in
theorem int_any (ao : Option Addr) (n cap : Nat) (l : List UInt8) (x : Int) (w : World) (h : IsB w ao n cap l) (hn : n ≤ 900000) :
    Calls Try.prog 32 #[.slice ao n cap, .int .i64 x] w (Fresh w (n + 8) (l ++ le 8 (XU x))) := by
  go_enter Try.func32, Try.ntmps32
  go_wp2_with (first | (go_at_call 56; refine (longer_any ao n cap l 8 _ h (by omega) (by omega)).mono ?_; rintro e w1 ⟨g1, c1, rfl, h1, hb1, hg1⟩) | (go_at_call 55; refine (low_any g1 n c1 l x 8 _ rfl _ h1 (by omega) (by omega)).mono ?_; rintro e w2 ⟨g2, c2, rfl, h2, hp2, hg2⟩))
  go_ret
  exact ⟨g2, c2, rfl, h2, hb1.trans (hp2.below hg1 hb1.size), by have := hb1.size; omega⟩

end Go.Proofs.Ytpfhggalbdjjmaa
