/-
  CodeEnds, walked.
-/
import Derived.Test.YthkfoebannpmdaaLong
import Derived.Deep.RegionHeld3
namespace Go.Proofs.Ythkfoebannpmdaa
open Go.RowKit

/-- What stands for the numbers vs: of each its eight bytes, and its lowest one. -/
def enc : List Int → List UInt8
  | [] => []
  | v :: r => le 8 (XU v) ++ (le 1 (XU v) ++ enc r)
theorem enc_snoc : ∀ (a : List Int) (v : Int), enc (a ++ [v]) = enc a ++ le 8 (XU v) ++ le 1 (XU v)
  | [], v => by simp [enc]
  | x :: a, v => by
    rw [List.cons_append, enc, enc_snoc a v, enc]
    simp [List.append_assoc]
theorem enc_step (vs : List Int) (j : Nat) (v : Int) (h : vs[j]? = some v) : enc (vs.take (j + 1)) = enc (vs.take j) ++ le 8 (XU v) ++ le 1 (XU v) := by
  obtain ⟨hj, rfl⟩ := List.getElem?_eq_some_iff.1 h
  rw [List.take_succ_eq_append_getElem hj, enc_snoc]

theorem enc_drop (vs : List Int) (j : Nat) (v : Int) (h : vs[j]? = some v) : enc (vs.drop j) = le 8 (XU v) ++ (le 1 (XU v) ++ enc (vs.drop (j + 1))) := by
  obtain ⟨hj, rfl⟩ := List.getElem?_eq_some_iff.1 h
  rw [List.drop_eq_getElem_cons hj, enc]

theorem rInt_whole (g : Nat) (D : Option Nat) (v : Int) (hv : -9223372036854775808 ≤ v ∧ v ≤ 9223372036854775807) (r : List UInt8) (w : World) (h : Rd w g D (le 8 (XU v) ++ r) 0) :
    Calls Try.prog 21 #[.pointer (some ⟨g, 0, none⟩)] w (Said w g D v r 0) := by
  have := rInt_any g D _ 0 w h
  have hl := le_length 8 (XU v)
  have e1 : tk 8 (le 8 (XU v) ++ r) = le 8 (XU v) := by rw [tk, if_pos (by rw [List.length_append]; omega), List.take_left' hl]
  have e2 : dr 8 (le 8 (XU v) ++ r) = r := by rw [dr, if_pos (by rw [List.length_append]; omega), List.drop_left' hl]
  have e3 : er 8 (le 8 (XU v) ++ r) 0 = 0 := by rw [er, if_pos (by rw [List.length_append]; omega)]
  have e4 : wrap64 ((num (le 8 (XU v)) : Nat) : Int) = v := by
    rw [num_le]
    unfold XU wrap64
    omega
  rw [vN, dN, eN, if_pos rfl, if_pos rfl, if_pos rfl, e1, e2, e3, e4] at this
  exact this
theorem rByte_whole (g : Nat) (D : Option Nat) (v : Int) (r : List UInt8) (w : World) (h : Rd w g D (le 1 (XU v) ++ r) 0) :
    Calls Try.prog 23 #[.pointer (some ⟨g, 0, none⟩)] w (Said w g D (v % 256) r 0) := by
  have := rByte_any g D _ 0 w h
  have hl := le_length 1 (XU v)
  have e1 : tk 1 (le 1 (XU v) ++ r) = le 1 (XU v) := by rw [tk, if_pos (by rw [List.length_append]; omega), List.take_left' hl]
  have e2 : dr 1 (le 1 (XU v) ++ r) = r := by rw [dr, if_pos (by rw [List.length_append]; omega), List.drop_left' hl]
  have e3 : er 1 (le 1 (XU v) ++ r) 0 = 0 := by rw [er, if_pos (by rw [List.length_append]; omega)]
  have e4 : wrap64 ((num (le 1 (XU v)) : Nat) : Int) = v % 256 := by
    rw [num_le, IntWalk.wrap64_in _ (by omega)]
    unfold XU
    omega
  rw [vN, dN, eN, if_pos rfl, if_pos rfl, if_pos rfl, e1, e2, e3, e4] at this
  exact this

/-- The numbers vs lie in block g, from its head on. -/
def CellsAt (w : World) (g : Nat) (vs : List Int) : Prop := ∀ j v, vs[j]? = some v → w.cell? ⟨g, j, none⟩ = some (.int .i64 v)
theorem cells_past {w w' : World} {g : Nat} {vs : List Int} (h : CellsAt w g vs) (b : Below w.heap.size w w') : CellsAt w' g vs := fun j v hv => by
  have := h j v hv
  rw [b.cell (World.block_lt_of_cell? w _ this)]
  exact this
theorem cells_grown {w w' : World} {g g2 : Nat} {vs : List Int} (h : CellsAt w g vs) (b : w.grownBy w' (some g2)) (hne : g ≠ g2) : CellsAt w' g vs := fun j v hv =>
  b.cell (h j v hv) (fun e => hne (Option.some.inj e))
theorem cells_alloc (w : World) (cs : Array Value) (t : TypeId) (vs : List Int) (h : cs.toList = vs.map (Value.int .i64)) : CellsAt (w.alloc (.cells cs t)) w.heap.size vs := fun j v hv => by
  refine cell_blk (heap_alloc_new w _) ?_
  rw [← Array.getElem?_toList, h, List.getElem?_map, hv]
  rfl

theorem and_255 (v : Int) : bits .and .i64 v 255 = v % 256 := by
  have e : (BitVec.ofInt 64 v &&& BitVec.ofInt 64 255).toNat = (v % 256).toNat := by
    rw [BitVec.toNat_and, BitVec.toNat_ofInt, BitVec.toNat_ofInt]
    have e2 : ((255 : Int) % ((2 ^ 64 : Nat) : Int)).toNat = 2 ^ 8 - 1 := by decide
    rw [e2, Nat.and_two_pow_sub_one_eq_mod]
    omega
  unfold bits
  show IntKind.i64.wrap ((BitVec.ofInt 64 v &&& BitVec.ofInt 64 255).toNat : Int) = v % 256
  rw [e, IntWalk.i64_in _ (by omega)]
  omega

set_option maxHeartbeats 1600000 in
theorem ends_walk (x y : Int) (hx : -9223372036854775808 ≤ x ∧ x ≤ 9223372036854775807) (w : World) :
    Calls Try.prog 7 #[.int .i64 x, .int .i64 y] w (Told w true) := by
  obtain ⟨vs, hvs⟩ : ∃ vs : List Int, Hid (vs = [x, 9223372036854775807, -9223372036854775808, 0, -1, wrap64 (2 ^ (y % 62).toNat)]) := ⟨_, rfl⟩
  have hlen : Hid (vs.length = 6) := by unfold Hid; rw [hvs.out]; rfl
  have hrng : Hid (∀ v ∈ vs, -9223372036854775808 ≤ v ∧ v ≤ 9223372036854775807) := by
    unfold Hid
    rw [hvs.out]
    intro v hv
    simp only [List.mem_cons, List.not_mem_nil, or_false] at hv
    rcases hv with rfl | rfl | rfl | rfl | rfl | rfl
    · exact hx
    all_goals (try unfold wrap64); omega
  clear hx
  have e1 : 0 ≤ y % 62 := Int.emod_nonneg _ (by omega)
  have e2 : y % 62 < 62 := Int.emod_lt_of_pos _ (by omega)
  go_enter Try.func7, Try.ntmps7
  go_wp2_with (first
    | (go_at_call 11; refine (known_any _).mono ?_; rintro en wA ⟨rfl, hbA⟩)
    | (go_at_call 20; (with_reducible refine (within_any y 62 _ (by omega)).mono ?_); rintro en w' ⟨rfl, rfl⟩))
  have hgl : w.heap.size ≤ wA.heap.size := hbA.size
  go_loopw [6, 7] (fun b i wr => ∃ j N cap : Nat, ∃ ao, j ≤ 6 ∧ i = .int .i64 (j : Nat) ∧ b = .slice ao N cap ∧ IsB wr ao N cap (enc (vs.take j)) ∧ Hid (N = 9 * j) ∧ Below w.heap.size w wr ∧ CellsAt wr wA.heap.size vs) (fun _ i _ => 6 - (intOf i).toNat)
  case atStart => exact ⟨0, 0, 0, none, by omega, rfl, rfl, IsB.nilB _, rfl, hbA.alloc hgl _, cells_alloc wA _ _ vs (by rw [hvs.out]; rfl)⟩
  case round =>
    obtain ⟨j, N, cap, ao, hj, rfl, rfl, hi, hN, hB, hC⟩ := hrel
    by_cases hlt : j < 6
    · obtain ⟨v, hv⟩ : ∃ v, Hid (vs[j]? = some v) := ⟨vs[j]'(by rw [hlen.out]; exact hlt), List.getElem?_eq_getElem _⟩
      have hs : wr.cell? ⟨wA.heap.size, j, none⟩ = some (.int .i64 v) := hC j v hv.out
      have hN9 : N ≤ 54 := by have := hN.out; omega
      have j0 : (0 : Int) ≤ (j : Int) := by omega
      have j6 : (j : Int) < 6 := by omega
      go_wp2_with fail
      go_region_held3 (fun w' => w'.cell? ⟨wA.heap.size, j, none⟩ = some (.int .i64 v)) (first | exact hs | exact hs2 | exact hs3) (first
        | (go_at_call 12; (with_reducible refine (int_any ao N cap _ v _ (by exact hi.drew) (by omega)).mono ?_); rintro en w2 ⟨g2, c2, rfl, o2, b2, q2⟩; have B2 := below_on hB.drew b2; have C2 := cells_past (w := wr.drew) hC b2; have hs2 := C2 j v hv.out)
        | (go_at_call 14; (with_reducible refine (byte_any (some ⟨g2, 0, none⟩) (N + 8) c2 _ v _ (by exact o2.isB) (by omega)).mono ?_); rintro en w3 ⟨g3, c3, rfl, o3, b3, q3⟩; have B3 := below_on B2 b3; have C3 := cells_past C2 b3; have hs3 := C3 j v hv.out))
      have hE := enc_step vs j v hv.out
      have O3 := o3.isB
      rw [← hE] at O3
      go_wp2_with fail
      go_roundw
      case rel => exact ⟨j + 1, N + 8 + 1, c3, _, by omega, by go_num, rfl, O3, by have := hN.out; unfold Hid; omega, B3, C3⟩
      case measure => simp [intOf]; omega
    · obtain rfl : j = 6 := by omega
      obtain rfl : N = 54 := hN.out
      have hi' : IsB wr ao 54 cap (enc vs) := by
        have := hi
        rwa [List.take_of_length_le (by rw [hlen.out]; omega)] at this
      clear hi hlt hj hN
      go_wp2_with (go_at_call 18; (with_reducible refine (new_any ao 54 cap _ wr hi' (by omega)).mono ?_); rintro en w4 ⟨g, D, rfl, R4, b4, G4, F4⟩)
      have B4 := below_on hB b4
      have C4 := cells_past hC b4
      have GG := Nat.le_trans hB.size G4
      have hgl2 : wA.heap.size ≠ g := by
        have := World.block_lt_of_cell? wr _ (hC 0 x (by rw [hvs.out]; rfl))
        simp at this
        omega
      go_loopw [9] (fun i wq => ∃ j : Nat, j ≤ 6 ∧ i = .int .i64 (j : Nat) ∧ Rd wq g D (enc (vs.drop j)) 0 ∧ Below w.heap.size w wq ∧ CellsAt wq wA.heap.size vs) (fun i _ => 6 - (intOf i).toNat)
      case atStart => exact ⟨0, by omega, rfl, R4, B4, C4⟩
      case round =>
        obtain ⟨j, hj, rfl, hR, hB5, hC5⟩ := hrel
        by_cases hlt : j < 6
        · obtain ⟨v, hv⟩ : ∃ v, Hid (vs[j]? = some v) := ⟨vs[j]'(by rw [hlen.out]; exact hlt), List.getElem?_eq_getElem _⟩
          have hs : wr.drew.cell? ⟨wA.heap.size, j, none⟩ = some (.int .i64 v) := hC5 j v hv.out
          have hD : Rd wr.drew g D (le 8 (XU v) ++ (le 1 (XU v) ++ enc (vs.drop (j + 1)))) 0 := by
            have := hR.below (Below.refl _ _).drew
            rwa [enc_drop vs j v hv.out] at this
          have hv2 := hrng.out v (List.mem_of_getElem? hv.out)
          have hand := and_255 v
          have j0 : (0 : Int) ≤ (j : Int) := by omega
          have j6 : (j : Int) < 6 := by omega
          go_wp2_with fail
          go_region_held3 (fun w' => w'.cell? ⟨wA.heap.size, j, none⟩ = some (.int .i64 v)) (first | exact hs | exact hs5 | exact hs6) (first
            | (go_at_call 21; (with_reducible refine (rInt_whole g D v hv2 _ _ (by exact hD)).mono ?_); rintro en w5 ⟨rfl, R5, k5⟩; have B5 := below_gr hB5.drew k5 GG; have C5 := cells_grown (w := wr.drew) hC5 k5 hgl2; have hs5 := C5 j v hv.out)
            | (go_at_call 23; (with_reducible refine (rByte_whole g D v _ _ (by exact R5)).mono ?_); rintro en w6 ⟨rfl, R6, k6⟩; have B6 := below_gr B5 k6 GG; have C6 := cells_grown C5 k6 hgl2; have hs6 := C6 j v hv.out))
          go_wp2_with fail
          go_roundw
          case rel => exact ⟨j + 1, by omega, by go_num, R6, B6, C6⟩
          case measure => simp [intOf]; omega
        · obtain rfl : j = 6 := by omega
          have hR' : Rd wr g D [] 0 := by
            have := hR
            rwa [List.drop_eq_nil_of_le (by rw [hlen.out]; omega)] at this
          go_wp2_with (go_at_call 29; (with_reducible refine (rEnd_any g D [] 0 wr hR').mono ?_); rintro en w' ⟨rfl, rfl⟩)
          go_ret
          exact ⟨rfl, hB5⟩
end Go.Proofs.Ythkfoebannpmdaa
