/-
  What the rows of this seat have in common: the round constants as they are laid; how arguments are opened.
-/
import Derived.Test.YtdmnjjknkcnkgaaDoorRows
import Derived.Test.YtdmnjjknkcnkgaaDoorMg2
import Derived.Test.YtdmnjjknkcnkgaaDoorMg5
import Derived.ProofKit
import Derived.LaidMore
import Derived.OpenShut
import Derived.ShutString
import Derived.ChangeOld
import Derived.Stop.Joined
import Derived.Lib.LaidTab
import Derived.Deep.Matrix
namespace Go.Proofs.YtdmnjjknkcnkgaaDoor
open Go.ChangeShapes Go.WideShapes Go.ChangeAt Go.RowKit

abbrev laidL : List (String × DataW Unit) := [("ledgerline/sha.roundConstants", Rows.laid_ledgerline_sha_roundConstants)]
theorem own : ownKnob Tryd.prog.godebug = none := by kernel_rfl
theorem laidOut : laidOutB Tryd.prog = true := by kernel_rfl
theorem door_met (os : Os) (args : Array Value) : laidMetH Tryd.prog laidL ((World.doorLaid Tryd.prog 400 os).forCall (fun _ _ => 0) ⟨#[], args, []⟩).memory :=
  laidMetH_of_parts3 (fuel := 8) (laidMet_of_run' 8 (by kernel_rfl) (by kernel_rfl)) (by kernel_rfl) (by kernel_rfl)
theorem rc_of_laid {W : World} (h : laidMetH Tryd.prog laidL W) : RC W := by
  rw [MakeChecks.laidMetH_plain _ _ _ (by kernel_rfl)] at h
  have hT : Lib.TabIs Tryd.prog W "ledgerline/sha.roundConstants" .u32 (K64.map u) :=
    Lib.tabIs_of_head (g := 0) (t := 101) (e := 58) (n := 64) (rest := []) (by kernel_rfl) (by kernel_rfl) Tryd.underlying101 Tryd.underlying58 (by kernel_rfl) (by kernel_rfl) h
  intro i hi
  have hc := hT.cell (g := 0) (by kernel_rfl) i (by simp [K64_length]; exact hi)
  rw [hc]
  have hl : i < K64.length := by rw [K64_length]; exact hi
  simp [kk, List.getD, hl]

section
variable {H : Type} {enc : TypeId × Value → H} {W : World}
set_option maxRecDepth 100000 in
/-- A sum that comes in. -/
theorem open_hash {base : Nat} {r : Reach} {sp : Nat → Bool} {held : Bool} {v : Value} {d : DataW H} {p : List MemPlace} (hval : Value.okWide Tryd.prog W r base 47 v) (h : DataW.Trod enc Tryd.prog W 0 sp held 47 v d p) : ∃ l : List UInt8, v = .agg (bcs l).toArray ∧ l.length = 32 := by
  have hu := Tryd.underlying47
  simp only [Value.okWide, hu] at hval
  obtain ⟨cs, rfl, hsz, _⟩ := hval
  have hs : cs.size = 32 := hsz.trans (show Tryd.prog.cellsOf 47 = 32 by kernel_rfl)
  obtain ⟨fuel, hf⟩ := h
  obtain ⟨xs, m, rfl, _, _, hlen, hel⟩ := DataW.trod_array hu hf
  have ce : Tryd.prog.cellsOf 5 = 1 := by kernel_rfl
  simp only [Value.cells, ce, Nat.mul_one] at hel
  refine ⟨cs.toList.map fun v => match v with | .int _ n => UInt8.ofNat n.toNat | _ => 0, ?_, by simp [hs]⟩
  congr 1
  apply Array.toList_inj.1
  simp only [bcs, List.map_map]
  refine (List.map_id _).symm.trans (List.map_congr_left fun v hv => ?_)
  obtain ⟨i, hi, rfl⟩ := List.getElem_of_mem hv
  have hi32 : i < 32 := by simpa [hs] using hi
  have h1 := hel i hi32
  have hx : xs[i]? = some (xs[i]'(by omega)) := List.getElem?_eq_getElem (by omega)
  rw [hx] at h1
  obtain ⟨n, hn, _, hw⟩ := DataW.trod_int Tryd.underlying5 h1
  have he : (cs.toList.drop i).take 1 = [cs.toList[i]] := by
    rw [List.take_one, List.head?_drop, List.getElem?_eq_getElem hi]
    rfl
  rw [he] at hn
  have hv2 : cs.toList[i] = .int .u8 n := by simpa using hn
  rw [hv2]
  have hb := bounds_u8 hw
  simp only [Function.comp_apply, id_eq, bc, Value.int.injEq, true_and]
  rw [UInt8.toNat_ofNat']
  omega
end
end Go.Proofs.YtdmnjjknkcnkgaaDoor
