/-
  A sum in a block of its own; two results, the first a sum.
-/
import Derived.Test.YtpphlmbhonaglaaDoorRPart
import Derived.Test.YtpphlmbhonaglaaDoorInv
namespace Go.Proofs.YtpphlmbhonaglaaDoor
open Go.RowKit

/-- Block g holds a sum. -/
structure HAt (w : World) (g : Nat) (l : List UInt8) : Prop where
  blk : w.heap[g]? = some (.cells (bcs l).toArray 27 (0, 0))
  len : l.length = 32
section
variable {w w' : World} {g : Nat} {l : List UInt8}
theorem HAt.lt (h : HAt w g l) : g < w.heap.size := (Array.getElem?_eq_some_iff.1 h.blk).1
theorem HAt.past (h : HAt w g l) (b : Below w.heap.size w w') : HAt w' g l := ⟨(b.block g h.lt).trans h.blk, h.len⟩
theorem HAt.grown {row : Option Nat} (h : HAt w g l) (hg : w.grownBy w' row) (hne : row ≠ some g) : HAt w' g l := ⟨(hg.block g h.lt (fun e => hne e.symm)).trans h.blk, h.len⟩
theorem HAt.at_ (h : HAt w g l) : AtA w ⟨g, 0, none⟩ l := blk_at h.blk
end
theorem wp_alloc_blk {P : Program} {w : World} {o : Oper} {a : Act} {K : Act → World → Prop} {Q : Exit → Act → World → Prop} (t : TypeId) (ho : o.op = .alloc t) (Z : Array Value)
    (hz : (P.info? t).map (fun i => i.zero) = some (some (.agg Z)))
    (hK : ∀ w' g, Hid (w'.heap[g]? = some (.cells Z t (0, 0))) → Below w.heap.size w w' → w.heap.size ≤ g → K (a.put o.dst (.pointer (some ⟨g, 0, none⟩))) w') : o.wp P a w K Q := by
  have h0 : (zeroValue t).run P w = .ok (.agg Z) w := by
    cases hq : P.info? t with
    | none => simp [hq] at hz
    | some i =>
      simp [hq] at hz
      simp [zeroValue, typeInfo, hq, hz]
  have hr : (Instr.alloc t true (.tuple #[])).run P w = .ok (.pointer (some ⟨w.heap.size, 0, none⟩)) (w.alloc (.cells Z t)) := by
    simp [Instr.alloc, h0, newVar, newRow, Value.cells]
  unfold Oper.wp execOp
  simp only [ho, Sem.run_bind, Sem.run_pure, Result.andThen_ok, hr]
  exact hK _ _ (heap_alloc_new w _) ((Below.refl _ _).alloc (Nat.le_refl _) _) (Nat.le_refl _)
theorem results_cell_tmp {P : Program} {fn : Func} {p t : Tmp} {ty : TypeId} (h : fn.results = #[.cell p ty, .tmp t]) (tmps : Array Value) (w : World) (g : Nat) (t0 : TypeId) (cs : Array Value) (fr : Nat × Nat) (d : TypeDesc)
    (hp : tmps.getD p undef = .pointer (some ⟨g, 0, none⟩)) (hg : w.heap[g]? = some (.cells cs t0 fr))
    (hu : P.underlying ty = some d) (hd : (match d with | .struct _ | .array _ _ => true | _ => false) = true) (hi : (P.info? ty).map (·.size) = some cs.size) (v : Value) (ht : tmps.getD t undef = v) :
    (results fn tmps).run P w = .ok (.tuple #[.agg cs, v]) w := by
  have hp' : tmps[p]?.getD undef = .pointer (some ⟨g, 0, none⟩) := by simpa using hp
  have ht' : tmps[t]?.getD undef = v := by simpa using ht
  simp [results, h, hp', ht', asAddr, run_loadVar_row w g t0 ty cs fr d hg hu hd hi]
end Go.Proofs.YtpphlmbhonaglaaDoor
