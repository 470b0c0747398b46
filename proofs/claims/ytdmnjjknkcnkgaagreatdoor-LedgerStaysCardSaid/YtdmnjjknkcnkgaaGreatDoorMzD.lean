/-
 Steps that come in.
-/
import Derived.Test.YtdmnjjknkcnkgaaGreatDoorMzC
namespace Go.Proofs.YtdmnjjknkcnkgaaGreatDoor
open Go.ChangeShapes Go.WideShapes Go.ChangeAt Go.RowKit Go.Joins Go.Deep
section
variable {H : Type} {enc : TypeId × Value → H} {W : World} {held : Bool}
instance : Inhabited ((Int × Int × ByteArray) × HdR) := ⟨((0, 0, ⟨#[]⟩), ⟨none, 0, 0⟩)⟩
def StIn (W : World) (b : (Int × Int × ByteArray) × HdR) : Prop := ∃ vs : List V, IsR EV W b.2.a b.2.n b.2.c vs
set_option maxRecDepth 100000 in
theorem st_cells {n : Nat} {cs : List Value} {x : DataW H × List MemPlace} (h : DataW.trod enc Tryz.prog W 0 (fun _ => true) held n 37 cs = some x) : ∃ b : (Int × Int × ByteArray) × HdR,cs = ESt.f b ∧ StIn W b := by
 obtain ⟨c0, c1, c2, c3, y0, y1, y2, y3, m, rfl, h0, h1, h2, h3⟩ := trod4 Tryz.underlying37 (by kernel_rfl) (by kernel_rfl) h
 obtain ⟨k0, hk0, _, w0⟩ := DataW.trod_int Tryz.underlying3 h0
 obtain ⟨k1, hk1, _, w1⟩ := DataW.trod_int Tryz.underlying3 h1
 obtain ⟨s, hs, _, ws⟩ := DataW.trod_string Tryz.underlying9 h2
 obtain rfl : c0 = .int .i64 k0 := by simpa using hk0
 obtain rfl : c1 = .int .i64 k1 := by simpa using hk1
 obtain rfl : c2 = .string s := by simpa using hs
 obtain ⟨ao, n, c, rfl⟩ := slice_in Tryz.underlying35 h3
 obtain ⟨vs, hvs, _⟩ := open_vals_b (held := held) (enc := enc) (W := W) (ao := ao) (n := n) (c := c) (d := y3.1) (p := y3.2) ⟨m, by simpa [Value.cells] using h3⟩
 exact ⟨((k0, k1, s), ⟨ao, n, c⟩), rfl, vs, hvs⟩
theorem open_steps {ao : Option Addr} {n c : Nat} {d : DataW H} {p : List MemPlace} (h : DataW.Trod enc Tryz.prog W 0 (fun _ => true) held 22 (.slice ao n c) d p) : ∃ sl : List Stp,IsD DSt W (fun _ => True) ao n c sl := by
 obtain ⟨fuel, hf⟩ := h
 have hf' : DataW.trod enc Tryz.prog W 0 (fun _ => true) held fuel 22 [.slice ao n c] = some (d, p) := by simpa [Value.cells] using hf
 obtain ⟨l, hl, hp⟩ := open_rows_g ESt Tryz.underlying22 (by kernel_rfl) (by decide) (StIn W) (fun m cs x hx => st_cells hx) hf'
 have hch : ∀ b : {b // b ∈ l}, ∃ vs : List V, IsR EV W b.1.2.a b.1.2.n b.1.2.c vs := fun b => hp b.1 b.2
 refine ⟨l.attach.map fun b => (b.1.1, Classical.choose (hch b)), l, hl, fun _ _ _ => trivial, by rw [List.length_map, List.length_attach]; rfl, fun j b x hb hx => ?_⟩
 have hb2 : l[j]? = some b := hb
 rw [List.getElem?_map, List.getElem?_attach] at hx
 obtain ⟨hj, hbj⟩ := List.getElem?_eq_some_iff.1 hb2
 simp only [List.getElem?_eq_getElem hj, Option.pmap_some, Option.map_some, Option.some.injEq] at hx
 subst hx
 subst hbj
 refine ⟨rfl, ?_⟩
 exact (Classical.choose_spec (hch ⟨l[j], List.getElem_mem hj⟩)).deepT (by decide)
end
end Go.Proofs.YtdmnjjknkcnkgaaGreatDoor
