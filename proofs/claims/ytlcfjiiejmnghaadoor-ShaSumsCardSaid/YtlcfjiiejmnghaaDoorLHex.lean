/-
  ShaHex, walked.
-/
import Derived.Test.YtlcfjiiejmnghaaDoorLaw2
namespace Go.Proofs.YtlcfjiiejmnghaaDoor
open Go.RowKit

theorem hx_at (l : List UInt8) (i : Nat) (hi : i < l.length) : (hx l)[2 * i]? = some (dig ((l.getD i 0).toNat / 16)) ∧ (hx l)[2 * i + 1]? = some (dig ((l.getD i 0).toNat % 16)) := by
  have h1 : hx l = hx (l.take (i + 1)) ++ hx (l.drop (i + 1)) := by
    unfold hx
    rw [← List.flatMap_append, List.take_append_drop]
  have h2 : (hx (l.take i)).length = 2 * i := by rw [hx_length, List.length_take]; omega
  have h3 := hx_snoc l i hi
  have h4 : (hx (l.take (i + 1))).length = 2 * i + 2 := by rw [hx_length, List.length_take]; omega
  rw [h1]
  constructor
  · rw [List.getElem?_append_left (by omega), h3, List.getElem?_append_right (by omega), h2]
    simp
  · rw [List.getElem?_append_left (by omega), h3, List.getElem?_append_right (by omega), h2]
    simp
theorem run_index_text {P : Program} {t : TypeId} (ht : P.underlying t = some .string) (l : List UInt8) (j : Nat) (x : UInt8) (h : l[j]? = some x) (w : World) :
    (Instr.index t (.string ⟨l.toArray⟩) (.int .i64 (j : Int))).run P w = .ok (.int .u8 (ub x)) w := by
  have h' : (⟨l.toArray⟩ : ByteArray)[j]? = some x := by
    rw [← h]
    have hj : j < l.length := (List.getElem?_eq_some_iff.1 h).1
    have hj' : j < (⟨l.toArray⟩ : ByteArray).size := by simpa [ByteArray.size] using hj
    rw [getElem?_pos (⟨l.toArray⟩ : ByteArray) j hj', getElem?_pos l j hj]
    rfl
  simp [Instr.index, asIntOf, run_underlying ht, h', ub]
theorem dig_low (d : Nat) (h : d ≤ 9) : ub (dig d) = 48 + (d : Int) := by
  have : ∀ p : Fin 10, ub (dig p.1) = 48 + (p.1 : Int) := by decide +kernel
  exact this ⟨d, by omega⟩
theorem dig_high (d : Nat) (h : 10 ≤ d) (h2 : d ≤ 15) : ub (dig d) = 87 + (d : Int) := by
  have : ∀ p : Fin 16, 10 ≤ p.1 → ub (dig p.1) = 87 + (p.1 : Int) := by decide +kernel
  exact this ⟨d, by omega⟩ h
def accH (x : UInt8) (k : Nat) : Int := if k = 0 then 0 else if k = 1 then ((x.toNat / 16 : Nat) : Int) else ub x
theorem hx_size (l : List UInt8) (h : l.length = 32) : (⟨(hx l).toArray⟩ : ByteArray).size = 64 := by
  show (hx l).toArray.size = 64
  rw [List.size_toArray, hx_length, h]

set_option maxRecDepth 100000 in
set_option maxHeartbeats 4000000 in
theorem shaHex_walk (l : List UInt8) (w : World) (hC : RC w) (hl : l.length = 32) :
    Calls Tryd.prog 6 #[.agg (bcs l).toArray] w fun e w' => e = .returned (.bool true) ∧ Below w.heap.size w w' := by
  have szl : Hid ((bcs l).toArray.size = 32) := by simp [Hid, bcs_length, hl]
  have HL := Lib.hid hl
  have hsz := hx_size l hl
  clear hl
  have h0 : Hid ((w.alloc (.cells (bcs l).toArray 24)).heap[w.heap.size]? = some (.cells (bcs l).toArray 24 (0, 0))) := heap_alloc_new w _
  have b0 : Below w.heap.size w (w.alloc (.cells (bcs l).toArray 24)) := (Below.refl _ _).alloc (Nat.le_refl _) _
  have c0 := hC.alloc (.cells (bcs l).toArray 24)
  go_enter Tryd.func6, Tryd.ntmps6
  go_wp2_with fail
  refine (known2 _ c0).mono ?_
  rintro e w1 ⟨rfl, b1⟩
  have h1 : Hid (w1.heap[w.heap.size]? = some (.cells (bcs l).toArray 24 (0, 0))) := (b1.block _ (by simp)).trans h0.out
  have B1 : Below w.heap.size w w1 := b0.trans (b1.mono (by simp))
  clear b1 h0 b0 c0
  go_wp2_with (first
    | ((with_reducible refine wpList_load_blk rfl 24 _ rfl w.heap.size _ ?_ _ h1 _ _ Tryd.underlying24 32 sizeH' szl.out ?_); (rfl))
    | (go_at_call 20; refine (hex_any l _ HL.out).mono ?_; rintro e w2 ⟨rfl, b2⟩))
  have hg1 : w.heap.size < w1.heap.size := (Array.getElem?_eq_some_iff.1 h1.out).1
  have h2 : Ab w2 24 w.heap.size l := (b2.block _ hg1).trans h1.out
  have B2 : Below w.heap.size w w2 := B1.trans (b2.mono B1.size)
  clear b2 h1 B1
  go_loop [4] (fun i => ∃ t : Nat, t ≤ 32 ∧ i = .int .i64 t) (fun i => 32 - (intOf i).toNat)
  case atStart => exact ⟨0, Nat.zero_le _, rfl⟩
  case round =>
    obtain ⟨t, ht, rfl⟩ := hrel
    by_cases ht32 : t < 32
    · obtain ⟨x1, x2⟩ := hx_at l t (by rw [HL.out]; exact ht32)
      have hcell := h2.cell t (by rw [HL.out]; exact ht32)
      have i1 : ∀ W : World, (Instr.index 9 (.string ⟨(hx l).toArray⟩) (.int .i64 (2 * (t : Int)))).run Tryd.prog W = .ok (.int .u8 (ub (dig ((l.getD t 0).toNat / 16)))) W := run_index_text Tryd.underlying9 (hx l) (2 * t) _ x1
      have i2 : ∀ W : World, (Instr.index 9 (.string ⟨(hx l).toArray⟩) (.int .i64 (2 * (t : Int) + 1))).run Tryd.prog W = .ok (.int .u8 (ub (dig ((l.getD t 0).toNat % 16)))) W := run_index_text Tryd.underlying9 (hx l) (2 * t + 1) _ x2
      clear x1 x2
      generalize l.getD t 0 = x at i1 i2 hcell
      have t32 : (t : Int) < 32 := by omega
      go_wp2_with fail
      go_loop [5, 6] (fun n k => ∃ k' : Nat, k' ≤ 2 ∧ k = .int .i64 k' ∧ n = .int .i64 (accH x k')) (fun _ k => 2 - (intOf k).toNat)
      case atStart => exact ⟨0, Nat.zero_le _, rfl, rfl⟩
      case round =>
        obtain ⟨k, hk, rfl, rfl⟩ := hrel
        obtain rfl | rfl | rfl : k = 0 ∨ k = 1 ∨ k = 2 := by omega
        · have ea : accH x 0 = 0 := rfl
          rw [ea]
          clear ea i2
          have hp15 : x.toNat / 16 ≤ 15 := by have := x.toNat_lt; omega
          have HP : Hid (accH x 1 = ((x.toNat / 16 : Nat) : Int)) := rfl
          generalize x.toNat / 16 = p at i1 hp15 HP
          by_cases h9 : p ≤ 9
          · rw [dig_low p h9] at i1
            go_wp2_with fail
            go_round
            case rel => exact ⟨1, by omega, by go_num, by rw [HP.out]; go_num⟩
            case measure => simp [intOf]
          · rw [dig_high p (by omega) hp15] at i1
            go_wp2_with fail
            go_round
            case rel => exact ⟨1, by omega, by go_num, by rw [HP.out]; go_num⟩
            case measure => simp [intOf]
        · have hx16 : ub x = 16 * ((x.toNat / 16 : Nat) : Int) + ((x.toNat % 16 : Nat) : Int) := by unfold ub; omega
          have ea : accH x 1 = ((x.toNat / 16 : Nat) : Int) := rfl
          rw [ea]
          clear ea i1
          have HX : Hid (accH x 2 = 16 * ((x.toNat / 16 : Nat) : Int) + ((x.toNat % 16 : Nat) : Int)) := hx16
          clear hx16
          have hp15 : x.toNat / 16 ≤ 15 := by have := x.toNat_lt; omega
          have hq15 : x.toNat % 16 ≤ 15 := by omega
          generalize x.toNat / 16 = p at hp15 HX ⊢
          generalize x.toNat % 16 = q at i2 hq15 HX
          by_cases h9 : q ≤ 9
          · rw [dig_low q h9] at i2
            go_wp2_with fail
            go_round
            case rel => exact ⟨2, by omega, by go_num, by rw [HX.out]; go_num⟩
            case measure => simp [intOf]
          · rw [dig_high q (by omega) hq15] at i2
            go_wp2_with fail
            go_round
            case rel => exact ⟨2, by omega, by go_num, by rw [HX.out]; go_num⟩
            case measure => simp [intOf]
        · have ea : accH x 2 = ub x := rfl
          rw [ea]
          clear ea i1 i2
          have lo := ub_lo x
          have hi := ub_hi x
          go_wp2_with fail
          go_round
          case rel => exact ⟨t + 1, by omega, by go_num⟩
          case measure => simp [intOf]; omega
    · obtain rfl : t = 32 := by omega
      go_wp2_with fail
      go_ret
      exact ⟨rfl, B2⟩
end Go.Proofs.YtlcfjiiejmnghaaDoor
