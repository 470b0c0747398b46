/-
  The contracts of the reference's Int, Byte, Text, on a row of the call's own.
-/
import Derived.Test.YtpphlmbhonaglaaLow
namespace Go.Proofs.Ytpphlmbhonaglaa
open Go.RowKit

theorem bc_low (x : Int) : Value.int .u8 (x % 256) = bc (UInt8.ofNat (XU x % 256)) := by
  simp only [bc, Value.int.injEq, true_and, UInt8.toNat_ofNat', XU]
  omega
theorem bc_shift (x : Int) (j : Nat) : Value.int .u8 (IntKind.u64.wrap x / 2 ^ (8 * j) % 256) = bc (UInt8.ofNat (XU x / 256 ^ j % 256)) := by
  have e : (2 : Int) ^ (8 * j) = ((256 ^ j : Nat) : Int) := by
    rw [Int.pow_mul]; simp
  rw [u64_wrap, e, ← Int.natCast_ediv, bc_mod]

set_option maxHeartbeats 400000 in
theorem rbyte_any (g n cap : Nat) (l : List UInt8) (x : Int) (w : World) (h : OwnB w 5 g n cap l) (hn : n ≤ 1000000) :
    Calls Try.prog 27 #[.slice (some ⟨g, 0, none⟩) n cap, .int .i64 x] w (Went w g n (n + 1) (l ++ le 1 (XU x))) := by
  go_enter Try.func27, Try.ntmps27
  go_wp2_with (at_builtin; refine wpList_append_ob rfl _ _ 24 24 rfl 5 byteTy g n cap l rfl (h.alloc _) _ rfl 1 [UInt8.ofNat (XU x % 256)] (src_one byteTy.ht _ _ _ (bc_low x)) (n + 1) rfl (l ++ le 1 (XU x)) rfl (by omega) ?_; intro g2 cap2 w2 ho2 hp2 hg2)
  go_ret
  exact ⟨g2, cap2, rfl, ho2, ((Puts.refl w g n).alloc _ h.lt).trans hp2 (by omega), by simp at hg2; omega⟩

set_option maxHeartbeats 400000 in
theorem rint_any (g n cap : Nat) (l : List UInt8) (x : Int) (w : World) (h : OwnB w 5 g n cap l) (hn : n ≤ 1000000) :
    Calls Try.prog 28 #[.slice (some ⟨g, 0, none⟩) n cap, .int .i64 x] w (Went w g n (n + 8) (l ++ le 8 (XU x))) := by
  go_enter Try.func28, Try.ntmps28
  go_wp2_with fail
  go_loopw [0, 5] (fun v i wr => ∃ j g' cap', j ≤ 8 ∧ i = .int .i64 (j : Nat) ∧ v = .slice (some ⟨g', 0, none⟩) (n + j) cap' ∧ OwnB wr 5 g' (n + j) cap' (l ++ le j (XU x)) ∧ Puts w wr g n ∧ (g' = g ∨ w.heap.size ≤ g')) (fun _ i _ => 8 - (intOf i).toNat)
  case atStart => exact ⟨0, g, cap, by omega, rfl, rfl, by simpa [le] using h, Puts.refl _ _ _, .inl rfl⟩
  case round =>
    obtain ⟨j, g', cap', hj, rfl, rfl, ho, hp, hg'⟩ := hrel
    have hg := h.lt
    by_cases hlt' : j < 8
    · have HL : Hid (l ++ le j (XU x) ++ [UInt8.ofNat (XU x / 256 ^ j % 256)] = l ++ le (j + 1) (XU x)) := by rw [le_snoc, List.append_assoc]; exact rfl
      go_wp2_with (at_builtin; refine wpList_append_ob rfl _ _ 24 24 rfl 5 byteTy g' (n + j) cap' _ rfl (ho.alloc _) _ rfl 1 [UInt8.ofNat (XU x / 256 ^ j % 256)] (src_one byteTy.ht _ _ _ (bc_shift x j)) (n + (j + 1)) (by omega) (l ++ le (j + 1) (XU x)) HL.out (by omega) ?_; intro g2 cap2 w2 ho2 hp2 hg2)
      go_roundw
      case rel =>
        exact ⟨j + 1, g2, cap2, by omega, by go_num, rfl, ho2, (hp.alloc _ hg).trans hp2 (by omega), by have := hp.size; simp at hg2; omega⟩
      case measure => simp [intOf]; omega
    · go_wp2_with fail
      go_ret
      obtain rfl : j = 8 := by omega
      exact ⟨g', cap', rfl, ho, hp, hg'⟩

theorem le_two (n : Nat) (h : n ≤ 60000) : (#[Value.int .u8 ((n : Int) % 256), Value.int .u8 ((n : Int) / 256)] : Array Value).toList = bcs (le 2 n) := by
  have e : ((n : Int) / 256) = (((n / 256 : Nat) : Int)) % 256 := by omega
  rw [e, bc_mod, bc_mod]
  rfl

set_option maxHeartbeats 400000 in
theorem rtext_any (g n cap : Nat) (l : List UInt8) (s : ByteArray) (w : World) (h : OwnB w 5 g n cap l) (hn : n ≤ 1000000) (hs : s.size ≤ 60000) :
    Calls Try.prog 29 #[.slice (some ⟨g, 0, none⟩) n cap, .string s] w (Went w g n (n + (2 + s.size)) (l ++ (le 2 s.size ++ s.data.toList))) := by
  have hsrc : ∀ w', Src Try.prog 1 9 (.string s) s.size (bcs s.data.toList) w' := fun w' => by
    have := Src.ofString (P := Try.prog) w' Try.underlying9 s
    rw [byteCells_bcs] at this
    exact this
  have HS := Lib.hid hsrc
  clear hsrc
  go_enter Try.func29, Try.ntmps29
  go_wp2_with (first | (at_builtin; refine wpList_append_ob rfl _ _ 24 24 rfl 5 byteTy g n cap l rfl (h.alloc _) _ rfl 2 (le 2 s.size) (src_lit byteTy.ht _ _ _ _ (le_two _ hs) rfl) (n + 2) rfl (l ++ le 2 s.size) rfl (by omega) ?_; intro g2 cap2 w2 ho2 hp2 hg2) | (at_builtin; refine wpList_append_ob rfl _ _ 24 9 rfl 5 byteTy g2 (n + 2) cap2 _ rfl ho2 _ rfl s.size _ (HS.out _) (n + (2 + s.size)) (by omega) _ (List.append_assoc _ _ _) (by omega) ?_; intro g3 cap3 w3 ho3 hp3 hg3))
  go_ret
  have hl := h.lt
  have s2 := hp2.size
  simp at hg2 s2
  exact ⟨g3, cap3, rfl, ho3, (((Puts.refl w g n).alloc _ hl).trans hp2 (by omega)).trans hp3 (by omega), by omega⟩
end Go.Proofs.Ytpphlmbhonaglaa
