/-
  A slice of acts (of locks) that comes in.
-/
import Derived.Test.YtllijeciodmckaaOpenG
import Derived.Test.YtllijeciodmckaaHold
namespace Go.Proofs.Ytllijeciodmckaa
open Go.ChangeShapes Go.WideShapes Go.ChangeAt Go.RowKit Go.Joins Go.Deep
section
variable {H : Type} {enc : TypeId × Value → H} {W : World} {held : Bool}
theorem ac_cells {sp : Nat → Bool} {n : Nat} {cs : List Value} {x : DataW H × List MemPlace} (h : DataW.trod enc Try.prog W 0 sp held n 103 cs = some x) : ∃ v : Ac, cs = EAc.f v ∧ True := by
  obtain ⟨c0, c1, c2, c3, y0, y1, y2, y3, m, rfl, h0, h1, h2, h3⟩ := trod4 Try.underlying103 (by kernel_rfl) (by kernel_rfl) h
  obtain ⟨k0, hk0, _, _⟩ := DataW.trod_int Try.underlying3 h0
  obtain ⟨k1, hk1, _, _⟩ := DataW.trod_int Try.underlying3 h1
  obtain ⟨k2, hk2, _, _⟩ := DataW.trod_int Try.underlying3 h2
  obtain ⟨b, hb, _⟩ := DataW.trod_bool Try.underlying4 h3
  obtain rfl : c0 = .int .i64 k0 := by simpa using hk0
  obtain rfl : c1 = .int .i64 k1 := by simpa using hk1
  obtain rfl : c2 = .int .i64 k2 := by simpa using hk2
  obtain rfl : c3 = .bool b := by simpa using hb
  exact ⟨⟨k0, k1, k2, b⟩, rfl, trivial⟩
theorem open_acts {ao : Option Addr} {n c : Nat} {d : DataW H} {p : List MemPlace} (h : DataW.Trod enc Try.prog W 0 (fun _ => true) held 93 (.slice ao n c) d p) : ∃ l : List Ac, IsR EAc W ao n c l := by
  obtain ⟨fuel, hf⟩ := h
  have hf' : DataW.trod enc Try.prog W 0 (fun _ => true) held fuel 93 [.slice ao n c] = some (d, p) := by simpa [Value.cells] using hf
  obtain ⟨l, hl, _⟩ := open_rows_g EAc Try.underlying93 (by kernel_rfl) (by decide) (fun _ => True) (fun m cs x hx => ac_cells hx) hf'
  exact ⟨l, hl⟩
end
end Go.Proofs.Ytllijeciodmckaa
