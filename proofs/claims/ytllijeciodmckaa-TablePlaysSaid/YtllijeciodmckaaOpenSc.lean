/-
  A schema that comes in, opened; a text.
-/
import Derived.Test.YtllijeciodmckaaTrd3
import Derived.Test.YtllijeciodmckaaCo
import Derived.Lib.SmallJoins
import Derived.ProofKit
import Derived.OpenShut
import Derived.Deep.Slices
namespace Go.Proofs.Ytllijeciodmckaa
open Go.ChangeShapes Go.WideShapes Go.ChangeAt Go.RowKit Go.Joins Go.Deep
section
variable {H : Type} {enc : TypeId × Value → H} {W : World} {P : Program} {base : Nat} {sp : Nat → Bool} {held : Bool}
theorem co_cells {n : Nat} {cs : List Value} {x : DataW H × List MemPlace} (h : DataW.trod enc Try.prog W 0 sp held n 156 cs = some x) : ∃ v : Co, cs = encCo.f v ∧ (Lit.int .i64 v.kind).wf = true ∧ v.name.length ≤ maxLen := by
  obtain ⟨c0, c1, c2, y0, y1, y2, m, rfl, h0, h1, h2⟩ := trod3 Try.underlying156 (by kernel_rfl) (by kernel_rfl) h
  obtain ⟨s, hs, _, ws⟩ := DataW.trod_string Try.underlying9 h0
  obtain ⟨k, hk, _, wk⟩ := DataW.trod_int Try.underlying3 h1
  obtain ⟨b, hb, _⟩ := DataW.trod_bool Try.underlying4 h2
  obtain rfl : c0 = .string s := by simpa using hs
  obtain rfl : c1 = .int .i64 k := by simpa using hk
  obtain rfl : c2 = .bool b := by simpa using hb
  exact ⟨⟨s.data.toList, k, b⟩, by show _ = [Value.string (bsOf s.data.toList), _, _]; rw [bsOf_data], wk, by rw [← bsOf_size, bsOf_data]; exact ws⟩
instance : Inhabited Co := ⟨⟨[], 0, false⟩⟩
theorem open_cols {ao : Option Addr} {n c m : Nat} {d : DataW H × List MemPlace} (hf : DataW.trod enc Try.prog W 0 (fun _ => true) held m 38 [.slice ao n c] = some d) :
    ∃ l : List Co, IsR encCo W ao n c l ∧ ∀ v ∈ l, (Lit.int .i64 v.kind).wf = true ∧ v.name.length ≤ maxLen := by
  have ce : Try.prog.cellsOf 156 = 3 := by kernel_rfl
  rcases open_slice Try.underlying38 hf with ⟨hcs, _⟩ | ⟨a, len, cap, m, k, D, Pl, hcs, _, hl, hm, hmm, _, hx⟩
  · simp at hcs
    obtain ⟨rfl, rfl, rfl⟩ := hcs
    exact ⟨[], IsR.nilR W, by simp⟩
  · simp at hcs
    obtain ⟨rfl, rfl, rfl⟩ := hcs
    simp only [if_true] at hmm
    have each : ∀ i, i < n → ∃ v : Co, ((Lit.int .i64 v.kind).wf = true ∧ v.name.length ≤ maxLen) ∧ ∀ j u, (encCo.f v)[j]? = some u → W.cell? (a.add (i * 3 + j)) = some u := fun i hi => by
      obtain ⟨cs', h1, h2⟩ := hx i (by omega)
      rw [ce] at h1
      obtain ⟨_, hlen, hcell⟩ := World.cells?_some h1
      obtain ⟨v, rfl, w1, w2⟩ := co_cells h2
      refine ⟨v, ⟨w1, w2⟩, fun j u hu => ?_⟩
      have hj : j < (encCo.f v).length := (List.getElem?_eq_some_iff.1 hu).1
      have := hcell j (by omega)
      rw [Addr.add_add] at this
      rw [this, hu]
    obtain ⟨f, hf⟩ := choose_lt each
    have hg : ∀ j, j < n → ((List.range n).map f)[j]? = some (f j) := fun j hj => by simp [hj]
    refine ⟨(List.range n).map f, ⟨by simp, hl, hm, (fun h => by cases h), fun a' ha' q u hu => ?_⟩, fun v hv => ?_⟩
    · obtain rfl := Option.some.inj ha'
      have hq : q < n * 3 := by
        have := (List.getElem?_eq_some_iff.1 hu).1
        rw [encCo.all_length, List.length_map, List.length_range] at this
        exact this
      have g := encCo.all_get ((List.range n).map f) (q / 3) (q % 3) (f (q / 3)) (hg _ (by omega)) (Nat.mod_lt _ (by decide))
      have e : q / 3 * encCo.sz + q % 3 = q := Nat.div_add_mod' q 3
      rw [e, hu] at g
      have := (hf (q / 3) (by omega)).2 (q % 3) u g.symm
      rwa [Nat.div_add_mod' q 3] at this
    · obtain ⟨j, hj, rfl⟩ := List.mem_map.1 hv
      exact (hf j (List.mem_range.1 hj)).1
set_option maxRecDepth 100000 in
/-- A schema that comes in. -/
theorem open_sc {base : Nat} {r : Reach} {v : Value} {d : DataW H} {p : List MemPlace} (hval : Value.okWide Try.prog W r base 40 v) (h : DataW.Trod enc Try.prog W 0 (fun _ => true) held 40 v d p) :
    ∃ (l : List UInt8) (ao : Option Addr) (n c : Nat) (key : Int) (only : Bool) (cs : List Co), v = scV l ao n c key only ∧ l.length ≤ maxLen ∧ (Lit.int .i64 key).wf = true ∧ IsR encCo W ao n c cs ∧ ∀ x ∈ cs, (Lit.int .i64 x.kind).wf = true ∧ x.name.length ≤ maxLen := by
  obtain ⟨v0, v1, v2, v3, y0, y1, y2, y3, m, rfl, _, _, h0, h1, h2, h3⟩ := open_agg4 Try.underlying40 (by kernel_rfl) (by kernel_rfl) hval h
  obtain ⟨s, hs, _, ws⟩ := DataW.trod_string Try.underlying9 h0
  obtain ⟨k, hk, _, wk⟩ := DataW.trod_int Try.underlying3 h2
  obtain ⟨b, hb, _⟩ := DataW.trod_bool Try.underlying4 h3
  obtain rfl : v0 = .string s := by simpa using hs
  obtain rfl : v2 = .int .i64 k := by simpa using hk
  obtain rfl : v3 = .bool b := by simpa using hb
  obtain ⟨ao, n, c, rfl⟩ : ∃ ao n c, v1 = .slice ao n c := by
    rcases open_slice Try.underlying38 h1 with ⟨hcs, _⟩ | ⟨a, len, cap, m, k, D, Pl, hcs, _⟩
    · exact ⟨none, 0, 0, by simpa using hcs⟩
    · exact ⟨some a, len, cap, by simpa using hcs⟩
  obtain ⟨cs, hI, hw⟩ := open_cols h1
  exact ⟨s.data.toList, ao, n, c, k, b, cs, by rw [scV, bsOf_data], by rw [← bsOf_size, bsOf_data]; exact ws, wk, hI, hw⟩
end
end Go.Proofs.Ytllijeciodmckaa
