/-
  A slice of sums that comes in.
-/
import Derived.Test.YtgjjpejimpiikaaDoorOpen2
import Derived.Test.YtgjjpejimpiikaaDoorHs
import Derived.Deep.Slices
namespace Go.Proofs.YtgjjpejimpiikaaDoor
open Go.ChangeShapes Go.WideShapes Go.ChangeAt Go.RowKit
section
variable {H : Type} {enc : TypeId × Value → H} {W : World} {sp : Nat → Bool} {held : Bool}
set_option maxRecDepth 100000 in
theorem hash_cells {n : Nat} {cs : List Value} {x : DataW H × List MemPlace} (hl : cs.length = 32) (h : DataW.trod enc Tryd.prog W 0 sp held n 23 cs = some x) : ∃ l : List UInt8, l.length = 32 ∧ cs = bcs l := by
  have hu := Tryd.underlying23
  obtain ⟨xs, m, _, _, _, hlen, hel⟩ := DataW.trod_array hu h
  have ce : Tryd.prog.cellsOf 5 = 1 := by kernel_rfl
  simp only [ce, Nat.mul_one] at hel
  refine ⟨cs.map fun v => match v with | .int _ n => UInt8.ofNat n.toNat | _ => 0, by simp [hl], ?_⟩
  simp only [bcs, List.map_map]
  refine (List.map_id _).symm.trans (List.map_congr_left fun v hv => ?_)
  obtain ⟨i, hi, rfl⟩ := List.getElem_of_mem hv
  have hi32 : i < 32 := by omega
  have h1 := hel i hi32
  have hx : xs[i]? = some (xs[i]'(by omega)) := List.getElem?_eq_getElem (by omega)
  rw [hx] at h1
  obtain ⟨n, hn, _, hw⟩ := DataW.trod_int Tryd.underlying5 h1
  have he : (cs.drop i).take 1 = [cs[i]] := by
    rw [List.take_one, List.head?_drop, List.getElem?_eq_getElem hi]
    rfl
  rw [he] at hn
  have hv2 : cs[i] = .int .u8 n := by simpa using hn
  rw [hv2]
  have hb := bounds_u8 hw
  simp only [Function.comp_apply, id_eq, bc, Value.int.injEq, true_and]
  rw [UInt8.toNat_ofNat']
  omega
theorem open_hashes_b {ao : Option Addr} {n c : Nat} {d : DataW H} {p : List MemPlace} (h : DataW.Trod enc Tryd.prog W 0 (fun _ => true) held 24 (.slice ao n c) d p) : ∃ hs : List (List UInt8), IsH W ao n c hs := by
  obtain ⟨fuel, hf⟩ := h
  have ce : Tryd.prog.cellsOf 23 = 32 := by kernel_rfl
  rcases Deep.open_slice Tryd.underlying24 hf with ⟨hcs, _⟩ | ⟨a, len, cap, m, k, D, Pl, hcs, _, hl, hm, hmm, _, hx⟩
  · simp [Value.cells] at hcs
    obtain ⟨rfl, rfl, rfl⟩ := hcs
    exact ⟨[], IsH.nilH W⟩
  · simp [Value.cells] at hcs
    obtain ⟨rfl, rfl, rfl⟩ := hcs
    simp only [if_true] at hmm
    have each : ∀ i, i < n → ∃ l : List UInt8, l.length = 32 ∧ AtA W (a.add (i * 32)) l := fun i hi => by
      obtain ⟨cs', h1, h2⟩ := hx i (by omega)
      rw [ce] at h1
      obtain ⟨_, hlen, hcell⟩ := World.cells?_some h1
      obtain ⟨l, hll, rfl⟩ := hash_cells hlen h2
      refine ⟨l, hll, fun j u hu => ?_⟩
      have hj : j < l.length := (List.getElem?_eq_some_iff.1 hu).1
      have := hcell j (by omega)
      rw [this, bcs_get, hu]
      rfl
    obtain ⟨f, hf⟩ := Deep.choose_lt each
    have hg : ∀ j, j < n → ((List.range n).map f).getD j [] = f j := fun j hj => by simp [List.getD, hj]
    refine ⟨(List.range n).map f, by simp, hl, hm, (fun h => by cases h), fun x hx' => ?_, fun a' ha' i hi => ?_⟩
    · obtain ⟨j, hj, rfl⟩ := List.mem_map.1 hx'
      exact (hf j (List.mem_range.1 hj)).1
    · obtain rfl := Option.some.inj ha'
      rw [hg i hi]
      exact (hf i hi).2
end
end Go.Proofs.YtgjjpejimpiikaaDoor
