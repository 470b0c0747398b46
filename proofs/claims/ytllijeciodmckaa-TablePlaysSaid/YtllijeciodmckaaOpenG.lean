/-
  A slice of whatever that comes in: each element by its own reading.
-/
import Derived.Test.YtllijeciodmckaaRow
import Derived.Test.YtllijeciodmckaaProg
import Derived.Lib.SmallJoins
import Derived.ProofKit
import Derived.OpenShut
import Derived.Deep.Slices
namespace Go.Proofs.Ytllijeciodmckaa
open Go.ChangeShapes Go.WideShapes Go.ChangeAt Go.RowKit Go.Joins Go.Deep
section
variable {H : Type} {enc : TypeId × Value → H} {W : World} {P : Program} {base : Nat} {sp : Nat → Bool} {held : Bool}
theorem trod4 {t : TypeId} {f0 f1 f2 f3 : Field} {fuel : Nat} {cs : List Value} {x : DataW H × List MemPlace} (hs : P.underlying t = some (.struct #[f0, f1, f2, f3])) (hone : oneCellFields P #[f0, f1, f2, f3] = true) (hC : P.cellsOf t = 4)
    (h : DataW.trod enc P W base sp held fuel t cs = some x) :
    ∃ (c0 c1 c2 c3 : Value) (y0 y1 y2 y3 : DataW H × List MemPlace) (n : Nat), cs = [c0, c1, c2, c3] ∧ DataW.trod enc P W base sp held n f0.type [c0] = some y0 ∧ DataW.trod enc P W base sp held n f1.type [c1] = some y1 ∧ DataW.trod enc P W base sp held n f2.type [c2] = some y2 ∧ DataW.trod enc P W base sp held n f3.type [c3] = some y3 := by
  obtain ⟨y0, y1, y2, y3, n, _, hl, h0, h1, h2, h3⟩ := trod_struct4 hs h
  rw [hC] at hl
  match cs, hl with
  | [c0, c1, c2, c3], _ =>
    obtain ⟨o0, k0⟩ := hone_of hone 0 f0 rfl
    obtain ⟨o1, k1⟩ := hone_of hone 1 f1 rfl
    obtain ⟨o2, k2⟩ := hone_of hone 2 f2 rfl
    obtain ⟨o3, k3⟩ := hone_of hone 3 f3 rfl
    exact ⟨c0, c1, c2, c3, y0, y1, y2, y3, n, rfl, by simpa [o0, k0] using h0, by simpa [o1, k1] using h1, by simpa [o2, k2] using h2, by simpa [o3, k3] using h3⟩
theorem open_rows_g {α : Type} [Inhabited α] (E : Enc α) {t e : TypeId} (ht : P.underlying t = some (.slice e)) (ce : P.cellsOf e = E.sz) (hz : 0 < E.sz) (Pr : α → Prop)
    (hel : ∀ m cs x, DataW.trod enc P W 0 (fun _ => true) held m e cs = some x → ∃ v, cs = E.f v ∧ Pr v) {ao : Option Addr} {n c m : Nat} {d : DataW H × List MemPlace} (hf : DataW.trod enc P W 0 (fun _ => true) held m t [.slice ao n c] = some d) :
    ∃ l : List α, IsR E W ao n c l ∧ ∀ v ∈ l, Pr v := by
  rcases open_slice ht hf with ⟨hcs, _⟩ | ⟨a, len, cap, m, k, D, Pl, hcs, _, hl, hm, hmm, _, hx⟩
  · simp at hcs
    obtain ⟨rfl, rfl, rfl⟩ := hcs
    exact ⟨[], IsR.nilR W, by simp⟩
  · simp at hcs
    obtain ⟨rfl, rfl, rfl⟩ := hcs
    simp only [if_true] at hmm
    have each : ∀ i, i < n → ∃ v : α, Pr v ∧ ∀ j u, (E.f v)[j]? = some u → W.cell? (a.add (i * E.sz + j)) = some u := fun i hi => by
      obtain ⟨cs', h1, h2⟩ := hx i (by omega)
      rw [ce] at h1
      obtain ⟨_, hlen, hcell⟩ := World.cells?_some h1
      obtain ⟨v, rfl, hp⟩ := hel _ _ _ h2
      refine ⟨v, hp, fun j u hu => ?_⟩
      have hj : j < (E.f v).length := (List.getElem?_eq_some_iff.1 hu).1
      have := hcell j (by omega)
      rw [Addr.add_add] at this
      rw [this, hu]
    obtain ⟨f, hf⟩ := choose_lt each
    have hg : ∀ j, j < n → ((List.range n).map f)[j]? = some (f j) := fun j hj => by simp [hj]
    refine ⟨(List.range n).map f, ⟨by simp, hl, hm, (fun h => by cases h), fun a' ha' q u hu => ?_⟩, fun v hv => ?_⟩
    · obtain rfl := Option.some.inj ha'
      have hq : q < n * E.sz := by
        have := (List.getElem?_eq_some_iff.1 hu).1
        rw [E.all_length, List.length_map, List.length_range] at this
        exact this
      have hqd : q / E.sz < n := (Nat.div_lt_iff_lt_mul hz).2 hq
      have g := E.all_get ((List.range n).map f) (q / E.sz) (q % E.sz) (f (q / E.sz)) (hg _ hqd) (Nat.mod_lt _ hz)
      have e : q / E.sz * E.sz + q % E.sz = q := Nat.div_add_mod' q E.sz
      rw [e, hu] at g
      have := (hf (q / E.sz) hqd).2 (q % E.sz) u g.symm
      rwa [e] at this
    · obtain ⟨j, hj, rfl⟩ := List.mem_map.1 hv
      exact (hf j (List.mem_range.1 hj)).1
end
end Go.Proofs.Ytllijeciodmckaa
