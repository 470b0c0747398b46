/-
  A slice of values that comes in; of bytes; of integers.
-/
import Derived.Test.YtllijeciodmckaaTrd3
import Derived.Test.YtllijeciodmckaaV
import Derived.Test.YtllijeciodmckaaOpenI
import Derived.Lib.SmallJoins
import Derived.ProofKit
import Derived.OpenShut
import Derived.Deep.Slices
namespace Go.Proofs.Ytllijeciodmckaa
open Go.ChangeShapes Go.WideShapes Go.ChangeAt Go.RowKit Go.Joins Go.Deep
section
variable {H : Type} {enc : TypeId × Value → H} {W : World} {P : Program} {base : Nat} {sp : Nat → Bool} {held : Bool}
theorem val_cells {n : Nat} {cs : List Value} {x : DataW H × List MemPlace} (h : DataW.trod enc Try.prog W 0 sp held n 55 cs = some x) : ∃ v : V, cs = EV.f v ∧ (Lit.int .i64 v.k).wf = true ∧ (Lit.int .i64 v.n).wf = true := by
  obtain ⟨c0, c1, c2, y0, y1, y2, m, rfl, h0, h1, h2⟩ := trod3 Try.underlying55 (by kernel_rfl) (by kernel_rfl) h
  obtain ⟨k, hk, _, wk⟩ := DataW.trod_int Try.underlying3 h0
  obtain ⟨n, hn, _, wn⟩ := DataW.trod_int Try.underlying3 h1
  obtain ⟨s, hs, _, ws⟩ := DataW.trod_string Try.underlying9 h2
  obtain rfl : c0 = .int .i64 k := by simpa using hk
  obtain rfl : c1 = .int .i64 n := by simpa using hn
  obtain rfl : c2 = .string s := by simpa using hs
  exact ⟨⟨k, n, s⟩, rfl, wk, wn⟩
instance : Inhabited V := ⟨V0⟩
theorem open_vals_b {ao : Option Addr} {n c : Nat} {d : DataW H} {p : List MemPlace} (h : DataW.Trod enc Try.prog W 0 (fun _ => true) held 49 (.slice ao n c) d p) :
    ∃ l : List V, IsR EV W ao n c l ∧ ∀ v ∈ l, (Lit.int .i64 v.k).wf = true ∧ (Lit.int .i64 v.n).wf = true := by
  obtain ⟨fuel, hf⟩ := h
  have ce : Try.prog.cellsOf 55 = 3 := by kernel_rfl
  rcases open_slice Try.underlying49 hf with ⟨hcs, _⟩ | ⟨a, len, cap, m, k, D, Pl, hcs, _, hl, hm, hmm, _, hx⟩
  · simp [Value.cells] at hcs
    obtain ⟨rfl, rfl, rfl⟩ := hcs
    exact ⟨[], IsR.nilR W, by simp⟩
  · simp [Value.cells] at hcs
    obtain ⟨rfl, rfl, rfl⟩ := hcs
    simp only [if_true] at hmm
    have each : ∀ i, i < n → ∃ v : V, ((Lit.int .i64 v.k).wf = true ∧ (Lit.int .i64 v.n).wf = true) ∧ ∀ j u, (EV.f v)[j]? = some u → W.cell? (a.add (i * 3 + j)) = some u := fun i hi => by
      obtain ⟨cs', h1, h2⟩ := hx i (by omega)
      rw [ce] at h1
      obtain ⟨_, hlen, hcell⟩ := World.cells?_some h1
      obtain ⟨v, rfl, w1, w2⟩ := val_cells h2
      refine ⟨v, ⟨w1, w2⟩, fun j u hu => ?_⟩
      have hj : j < (EV.f v).length := (List.getElem?_eq_some_iff.1 hu).1
      have := hcell j (by omega)
      rw [Addr.add_add] at this
      rw [this, hu]
    obtain ⟨f, hf⟩ := choose_lt each
    have hg : ∀ j, j < n → ((List.range n).map f)[j]? = some (f j) := fun j hj => by simp [hj]
    refine ⟨(List.range n).map f, ⟨by simp, hl, hm, (fun h => by cases h), fun a' ha' q u hu => ?_⟩, fun v hv => ?_⟩
    · obtain rfl := Option.some.inj ha'
      have hq : q < n * 3 := by
        have := (List.getElem?_eq_some_iff.1 hu).1
        rw [EV.all_length, List.length_map, List.length_range] at this
        exact this
      have g := EV.all_get ((List.range n).map f) (q / 3) (q % 3) (f (q / 3)) (hg _ (by omega)) (Nat.mod_lt _ (by decide))
      have e : q / 3 * EV.sz + q % 3 = q := Nat.div_add_mod' q 3
      rw [e, hu] at g
      have := (hf (q / 3) (by omega)).2 (q % 3) u g.symm
      rwa [Nat.div_add_mod' q 3] at this
    · obtain ⟨j, hj, rfl⟩ := List.mem_map.1 hv
      exact (hf j (List.mem_range.1 hj)).1
end
end Go.Proofs.Ytllijeciodmckaa
