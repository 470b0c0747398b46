/-
  A slice of acts (of tables) that comes in, each with its raw row.
-/
import Derived.Test.YtllijeciodmckaaOpenG
import Derived.Test.YtllijeciodmckaaOpenR
import Derived.Test.YtllijeciodmckaaTPlAll
namespace Go.Proofs.Ytllijeciodmckaa
open Go.ChangeShapes Go.WideShapes Go.ChangeAt Go.RowKit Go.Joins Go.Deep
section
variable {H : Type} {enc : TypeId × Value → H} {W : World} {held : Bool}
theorem at_cells {n : Nat} {cs : List Value} {x : DataW H × List MemPlace} (h : DataW.trod enc Try.prog W 0 (fun _ => true) held n 52 cs = some x) : ∃ v : At10, cs = EAt.f v ∧ v.ok W := by
  obtain ⟨c0, c1, c2, y0, y1, y2, m, rfl, h0, h1, h2⟩ := trod3 Try.underlying52 (by kernel_rfl) (by kernel_rfl) h
  obtain ⟨k0, hk0, _, w0⟩ := DataW.trod_int Try.underlying3 h0
  obtain ⟨k1, hk1, _, w1⟩ := DataW.trod_int Try.underlying3 h1
  obtain rfl : c0 = .int .i64 k0 := by simpa using hk0
  obtain rfl : c1 = .int .i64 k1 := by simpa using hk1
  have hs : ∃ ao n c, c2 = .slice ao n c := by
    rcases open_slice Try.underlying49 h2 with ⟨hcs, _⟩ | ⟨a, len, cap, m, k, D, Pl, hcs, _⟩
    · simp at hcs
      exact ⟨none, 0, 0, hcs⟩
    · simp at hcs
      exact ⟨_, _, _, hcs⟩
  obtain ⟨ao, n, c, rfl⟩ := hs
  obtain ⟨vs, hvs, _⟩ := open_vals_b (held := held) (enc := enc) (W := W) (ao := ao) (n := n) (c := c) (d := y2.1) (p := y2.2) ⟨m, by simpa [Value.cells] using h2⟩
  exact ⟨⟨k0, k1, ao, n, c⟩, rfl, w0, w1, vs, hvs⟩
theorem open_acts10 {ao : Option Addr} {n c : Nat} {d : DataW H} {p : List MemPlace} (h : DataW.Trod enc Try.prog W 0 (fun _ => true) held 41 (.slice ao n c) d p) : ∃ l : List At10, IsR EAt W ao n c l ∧ ∀ a ∈ l, a.ok W := by
  obtain ⟨fuel, hf⟩ := h
  have hf' : DataW.trod enc Try.prog W 0 (fun _ => true) held fuel 41 [.slice ao n c] = some (d, p) := by simpa [Value.cells] using hf
  exact open_rows_g EAt Try.underlying41 (by kernel_rfl) (by decide) (fun a => a.ok W) (fun m cs x hx => at_cells hx) hf'
end
end Go.Proofs.Ytllijeciodmckaa
