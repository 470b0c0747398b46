/-
  Of a page its picked halves are taken.
-/
import Derived.Test.YtpfhggalbdjjmaaDRead
namespace Go.Proofs.Ytpfhggalbdjjmaa
open Go.RowKit

theorem i64_and1 (n : Int) : bits .and .i64 n 1 = n % 2 := by
  have h1 : (BitVec.ofInt 64 1).toNat = 2 ^ 1 - 1 := by decide
  have key : (BitVec.ofInt 64 n &&& BitVec.ofInt 64 1).toNat = (n % ((2 ^ 64 : Nat) : Int)).toNat % 2 ^ 1 := by
    rw [BitVec.toNat_and, BitVec.toNat_ofInt, h1, Nat.and_two_pow_sub_one_eq_mod]
  show IntKind.i64.wrap ((BitVec.ofInt 64 n &&& BitVec.ofInt 64 1).toNat : Nat) = n % 2
  rw [key, IntKind.wrap_i64]
  omega
theorem slice_lo (g o : Nat) (w : World) : (Instr.sliceAt 74 (.pointer (some ⟨g, o, none⟩)) (some (.int .i64 0)) (some (.int .i64 32)) none).run Try.prog w = .ok (.slice (some ⟨g, o, none⟩) 32 64) w := by kernel_rfl
theorem slice_hi (g o : Nat) (w : World) : (Instr.sliceAt 74 (.pointer (some ⟨g, o, none⟩)) (some (.int .i64 32)) (some (.int .i64 64)) none).run Try.prog w = .ok (.slice (some ⟨g, o + 32, none⟩) 32 32) w := by kernel_rfl
theorem slice_from0 (g o : Nat) (w : World) : (Instr.sliceAt 74 (.pointer (some ⟨g, o, none⟩)) (some (.int .i64 0)) none none).run Try.prog w = .ok (.slice (some ⟨g, o, none⟩) 64 64) w := by kernel_rfl
theorem slice_from32 (g : Nat) (w : World) : (Instr.sliceAt 74 (.pointer (some ⟨g, 0, none⟩)) (some (.int .i64 32)) none none).run Try.prog w = .ok (.slice (some ⟨g, 32, none⟩) 32 32) w := by kernel_rfl
/-- THE HALVES OF b THAT THE PICK NAMES, over x. -/
def half (x : List UInt8) (b : List UInt8) (pick : Int) (k : Nat) : List UInt8 :=
  match k with
  | 0 => x
  | k + 1 => if pick / 2 ^ k % 2 = 1 then mix (half x b pick k) (k * 32) ((b.drop (k * 32)).take 32) else half x b pick k
def tkp (x b : List UInt8) (pick : Int) : List UInt8 := half x b pick 2
theorem set_own (l : List (List UInt8)) (p : Nat) (h : p < l.length) : l.set p (l.getD p []) = l := by
  have : l.getD p [] = l[p] := by simp [List.getD, h]
  rw [this, List.set_getElem_self]
theorem set_get (l : List (List UInt8)) (p : Nat) (x : List UInt8) (h : p < l.length) : (l.set p x).getD p [] = x := by simp [List.getD, h]
theorem half_yes {x b : List UInt8} {pick : Int} {k : Nat} (h : pick / 2 ^ k % 2 = 1) : half x b pick (k + 1) = mix (half x b pick k) (k * 32) ((b.drop (k * 32)).take 32) := by rw [half, if_pos h]
theorem half_no {x b : List UInt8} {pick : Int} {k : Nat} (h : ¬ pick / 2 ^ k % 2 = 1) : half x b pick (k + 1) = half x b pick k := by rw [half, if_neg h]
/-- What a pick takes: place by place. -/
theorem tkp_get {x y : List UInt8} (hx : x.length = 64) (hy : y.length = 64) (pick : Int) (j : Nat) (hj : j < 64) : (tkp x y pick)[j]? = if pick / 2 ^ (j / 32) % 2 = 1 then y[j]? else x[j]? := by
  have mget : ∀ (z : List UInt8), z.length = 64 → ∀ (a : Nat), a + 32 ≤ 64 → (mix z a ((y.drop a).take 32))[j]? = if a ≤ j ∧ j < a + 32 then y[j]? else z[j]? := fun z hz a ha => by
    have hq : ((y.drop a).take 32).length = 32 := by simp [hy]; omega
    unfold mix
    rw [pad_of hz, hq]
    by_cases h1 : j < a
    · rw [if_neg (by omega), List.append_assoc, List.getElem?_append_left (by simp [hz]; omega), List.getElem?_take_of_lt h1]
    · rw [List.append_assoc, List.getElem?_append_right (by simp; omega)]
      have e1 : (z.take a).length = a := by simp [hz]; omega
      rw [e1]
      by_cases h2 : j < a + 32
      · rw [if_pos ⟨by omega, h2⟩, List.getElem?_append_left (by omega), List.getElem?_take_of_lt (by omega), List.getElem?_drop, show a + (j - a) = j by omega]
      · rw [if_neg (by omega), List.getElem?_append_right (by omega), hq, List.getElem?_drop, show a + 32 + (j - a - 32) = j by omega]
  have h0 : (half x y pick 1).length = 64 := by
    by_cases h : pick / 2 ^ 0 % 2 = 1
    · rw [half_yes h]
      exact mix_length (by simp [hy])
    · rw [half_no h]
      exact hx
  have e1 : (half x y pick 1)[j]? = if pick / 2 ^ 0 % 2 = 1 ∧ j < 32 then y[j]? else x[j]? := by
    by_cases h : pick / 2 ^ 0 % 2 = 1
    · rw [half_yes h]
      have := mget x hx 0 (by omega)
      rw [show 0 * 32 = 0 from rfl]
      show (mix x 0 _)[j]? = _
      have h' : pick % 2 = 1 := by simpa using h
      rw [this]
      simp [h']
    · rw [half_no h, if_neg (fun q => h q.1)]
      rfl
  show (half x y pick (1 + 1))[j]? = _
  by_cases h : pick / 2 ^ 1 % 2 = 1
  · rw [half_yes h, show 1 * 32 = 32 from rfl, mget _ h0 32 (by omega), e1]
    by_cases h3 : j < 32
    · rw [if_neg (by omega), show j / 32 = 0 by omega]
      simp [h3]
    · rw [if_pos (by omega), show j / 32 = 1 by omega, if_pos h]
  · rw [half_no h, e1]
    by_cases h3 : j < 32
    · rw [show j / 32 = 0 by omega]
      simp [h3]
    · rw [if_neg (fun q => h3 q.2), show j / 32 = 1 by omega, if_neg h]
theorem tkp_length {x y : List UInt8} (hx : x.length = 64) (hy : y.length = 64) (pick : Int) : (tkp x y pick).length = 64 := by
  unfold tkp
  by_cases h : pick / 2 ^ 1 % 2 = 1
  · rw [half_yes h]; exact mix_length (by simp [hy])
  · rw [half_no h]
    by_cases h : pick / 2 ^ 0 % 2 = 1
    · rw [half_yes h]; exact mix_length (by simp [hy])
    · rw [half_no h]; exact hx
section
variable {w : World} {g n : Nat} {l : List (List UInt8)} {T : TypeId}
set_option maxRecDepth 100000 in
set_option maxHeartbeats 1000000 in
theorem take_at (h : OwnR encPg w T g n n l) (p : Nat) (hp : p < n) (b : List UInt8) (hb : b.length = 64) (pick : Int) :
    Calls Try.prog 39 #[.pointer (some ⟨g, p * 64, none⟩), .agg (bcs b).toArray, .int .i64 pick] w fun e w' => e = .returned (.tuple #[]) ∧ OwnR encPg w' T g n n (l.set p (tkp (l.getD p []) b pick)) ∧ w.grownBy w' (some g) := by
  have sb : Hid ((bcs b).toArray.size = 64) := by simp [Hid, bcs_length, hb]
  have HB := Lib.hid hb
  clear hb
  go_enter Try.func39, Try.ntmps39
  go_wp2_with fail
  have hll := h.len
  have h0 : OwnR encPg (w.alloc (.cells (bcs b).toArray 74)) T g n n (l.set p (half (l.getD p []) b pick 0)) := by
    show OwnR encPg _ T g n n (l.set p (l.getD p []))
    rw [set_own l p (by omega)]
    exact h.alloc _
  have HL : Hid (l.length = n) := hll
  clear hll
  have i0 := isB_lit w (bcs b).toArray 74 b 64 rfl HB.out (by omega)
  have g0 : w.grownBy (w.alloc (.cells (bcs b).toArray 74)) (some g) := World.grownBy_alloc _ _ _
  have hne : g ≠ w.heap.size := by have := h.lt; omega
  clear h
  go_loopw [8] (fun v wr => ∃ k : Int, (k = 0 ∨ k = 1 ∨ k = 2) ∧ v = .int .i64 k ∧ OwnR encPg wr T g n n (l.set p (half (l.getD p []) b pick k.toNat)) ∧ IsB wr (some ⟨w.heap.size, 0, none⟩) 64 64 b ∧ w.grownBy wr (some g)) (fun v _ => (2 - intOf v).toNat)
  case atStart => exact ⟨0, .inl rfl, rfl, h0, i0, g0⟩
  case round =>
    clear h0 i0 g0
    obtain ⟨k, hk, rfl, hO, hI, hg⟩ := hrel
    rcases hk with rfl | rfl | rfl
    · by_cases hbit : pick % 2 = 1
      · have hb1 : (bits .and .i64 pick 1 == 1) = true := by rw [i64_and1, hbit]; rfl
        have s1 := slice_lo g (p * 64)
        have s2 := slice_from0 w.heap.size 0
        have w32 : IntKind.i64.wrap 32 = 32 := rfl
        have HBIT := Lib.hid hbit
        clear hbit
        go_wp2_with fail
        go_still_tail 8, (by kernel_rfl)
        change wpList _ _ _ _ _ wr.drew
        have hOd := hO.drew
        have hId := hI.drew
        generalize hwd : wr.drew = wd at hOd hId ⊢
        refine wpList_copy_pg rfl _ _ rfl p 0 32 64 hOd rfl hp _ 64 64 b rfl hId 32 (by decide) (by omega) fun w2 hO2 g2 => ?_
        rw [set_get _ _ _ (by rw [HL.out]; exact hp), List.set_set] at hO2
        have hI2 := hId.grown g2 (fun a ha e => by cases ha; cases e; exact hne rfl)
        have hg2 := gtrans (gtrans hg (gdrew wr _)) (hwd ▸ g2)
        have HY : half (l.getD p []) b pick 1 = mix (half (l.getD p []) b pick 0) 0 (b.take 32) := by
          have := half_yes (x := l.getD p []) (b := b) (pick := pick) (k := 0) (by simpa using HBIT.out)
          simpa using this
        rw [show Int.toNat 0 = 0 from rfl, ← HY] at hO2
        clear hO hOd hId HY g2 hg
        go_wp2_with fail
        go_roundw
        case rel => exact ⟨1, .inr (.inl rfl), rfl, hO2, hI2, hg2⟩
        case measure => simp [intOf]
      · have hb1 : (bits .and .i64 pick 1 == 1) = false := by rw [i64_and1]; simpa using hbit
        have hO2 : OwnR encPg wr T g n n (l.set p (half (l.getD p []) b pick (Int.toNat 1))) := by
          show OwnR encPg wr T g n n (l.set p (half (l.getD p []) b pick (0 + 1)))
          rw [half_no (by simpa using hbit)]
          exact hO
        clear hO hbit
        go_wp2_with fail
        go_roundw
        case rel => exact ⟨1, .inr (.inl rfl), rfl, hO2, hI, hg⟩
        case measure => simp [intOf]
    · by_cases hbit : pick / 2 % 2 = 1
      · have hb1 : (bits .and .i64 (pick / 2) 1 == 1) = true := by rw [i64_and1, hbit]; rfl
        have s1 := slice_hi g (p * 64)
        have s2 := slice_from32 w.heap.size
        have w64 : IntKind.i64.wrap 64 = 64 := rfl
        have HBIT := Lib.hid hbit
        have hI32 : IsB wr.drew (some ⟨w.heap.size, 32, none⟩) 32 32 (b.drop 32) := ⟨by rw [List.length_drop, HB.out], Nat.le_refl _, by unfold maxLen; omega, (fun h => by cases h), fun a ha j u hu => by
          obtain rfl := Option.some.inj ha
          rw [List.getElem?_drop] at hu
          have := hI.drew.cell _ rfl (32 + j) u hu
          rw [Addr.add_lit] at this
          rw [Addr.add_lit]
          rwa [Nat.zero_add] at this⟩
        clear hbit
        go_wp2_with fail
        go_still_tail 8, (by kernel_rfl)
        change wpList _ _ _ _ _ wr.drew
        have hOd := hO.drew
        have hId := hI.drew
        generalize hwd : wr.drew = wd at hOd hId hI32 ⊢
        refine wpList_copy_pg rfl _ _ rfl p 32 32 32 hOd rfl hp _ 32 32 (b.drop 32) rfl hI32 32 (by decide) (by omega) fun w2 hO2 g2 => ?_
        rw [set_get _ _ _ (by rw [HL.out]; exact hp), List.set_set] at hO2
        have hI2 := hId.grown g2 (fun a ha e => by cases ha; cases e; exact hne rfl)
        have hg2 := gtrans (gtrans hg (gdrew wr _)) (hwd ▸ g2)
        have HY : half (l.getD p []) b pick 2 = mix (half (l.getD p []) b pick 1) 32 ((b.drop 32).take 32) := by
          have := half_yes (x := l.getD p []) (b := b) (pick := pick) (k := 1) (by simpa using HBIT.out)
          simpa using this
        rw [show Int.toNat 1 = 1 from rfl, ← HY] at hO2
        clear hO hOd hId HY g2 hg
        go_wp2_with fail
        go_roundw
        case rel => exact ⟨2, .inr (.inr rfl), rfl, hO2, hI2, hg2⟩
        case measure => simp [intOf]
      · have hb1 : (bits .and .i64 (pick / 2) 1 == 1) = false := by rw [i64_and1]; simpa using hbit
        have hO2 : OwnR encPg wr T g n n (l.set p (half (l.getD p []) b pick (Int.toNat 2))) := by
          show OwnR encPg wr T g n n (l.set p (half (l.getD p []) b pick (1 + 1)))
          rw [half_no (by simpa using hbit)]
          exact hO
        clear hO hbit
        go_wp2_with fail
        go_roundw
        case rel => exact ⟨2, .inr (.inr rfl), rfl, hO2, hI, hg⟩
        case measure => simp [intOf]
    · go_wp2_with fail
      go_end0
      exact ⟨rfl, hO, hg⟩
end
end Go.Proofs.Ytpfhggalbdjjmaa
