/-
  A region that draws its order, reads first and writes last: met in a world of its own name.
-/
import Derived.WalkKit
import Derived.StillTailTactics
import Derived.Deep.QuietTactic
import Derived.BigQuiet
import Derived.BigRegion
import Derived.Deep.RegionHeld3
import Derived.Below
import Derived.Lib.Hide
namespace Go.Proofs.YtpphlmbhonaglaaDoor
open Go.RowKit

theorem region_tail {P : Program} {id : Nat} {Q : Exit → Act → World → Prop} {a : Act} {w : World} {l : List Oper} (n : Nat) (hm : P.follows .mixedOrders = true) (hB : Region.lexTailB .any l.toArray n = true)
    (h : ∀ w1 : World, Hid (w1.heap = w.heap) → Below w.heap.size w w1 → wpStill P l.toArray w1 (fun a' => wpList P l.toArray Q (l.drop n) a' w1) (l.take n) a) : (Code.region id l.toArray true).wp P Q a w :=
  wp_region_still_tail n hm hB (h w.drew rfl (Below.refl _ _).drew)
theorem region_all {P : Program} {id : Nat} {Q : Exit → Act → World → Prop} {a : Act} {w : World} {l : List Oper} (hm : P.follows .mixedOrders = true) (hB : Region.lexB .any l.toArray = true)
    (h : ∀ w1 : World, Hid (w1.heap = w.heap) → Below w.heap.size w w1 → wpStill P l.toArray w1 (fun a' => Q .normal a' w1) l a) : (Code.region id l.toArray true).wp P Q a w :=
  wp_region_still_lit hm hB (h w.drew rfl (Below.refl _ _).drew)
theorem cell_hid {w w1 : World} (h : Hid (w1.heap = w.heap)) {p : Addr} {v : Value} (hc : w.cell? p = some v) : w1.cell? p = some v := by
  have e : w1.cell? p = w.cell? p := by simp [World.cell?, h.out]
  rw [e, hc]
theorem heap_hid {w w1 : World} (h : Hid (w1.heap = w.heap)) (g : Nat) : w1.heap[g]? = w.heap[g]? := by rw [h.out]
theorem below_drewN {B : Nat} {a w w1 : World} {n : Nat} (h : Below B a w) (k : Below (w.drewN n).heap.size (w.drewN n) w1) (hB : B ≤ w.heap.size) : Below B a w1 :=
  h.trans ⟨k.os, k.tape, k.output, k.size, fun i hi => k.block i (Nat.lt_of_lt_of_le hi hB)⟩
/-- A quiet call in a region behind one that drew. -/
theorem call_more {P : Program} {f : FuncId} {args : Array Value} {w : World} {a n : Nat} {v : Value} (h : Calls P f args (w.drewN (a + n)) fun e w' => e = .returned v ∧ w' = w.drewN (a + n)) :
    Calls P f args (w.drewN (a + n)) fun e w' => e = .returned v ∧ ∃ m, w' = w.drewN (a + m) := h.mono fun _ _ k => ⟨k.1, n, k.2⟩
end Go.Proofs.YtpphlmbhonaglaaDoor
