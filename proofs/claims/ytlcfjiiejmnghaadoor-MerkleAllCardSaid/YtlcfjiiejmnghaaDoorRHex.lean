/-
  The reference's Hex.
-/
import Derived.Test.YtlcfjiiejmnghaaDoorRSha1
import Derived.Test.YtlcfjiiejmnghaaDoorReg
import Derived.Test.YtlcfjiiejmnghaaDoorHexP
namespace Go.Proofs.YtlcfjiiejmnghaaDoor
open Go.RowKit

theorem hex_more {s : ByteArray} {p q : Nat} (hp : p ≤ 15) (hq : q ≤ 15) :
    (s ++ ({ data := #[48, 49, 50, 51, 52, 53, 54, 55, 56, 57, 97, 98, 99, 100, 101, 102] } : ByteArray).extract p (p + 1) ++ ({ data := #[48, 49, 50, 51, 52, 53, 54, 55, 56, 57, 97, 98, 99, 100, 101, 102] } : ByteArray).extract q (q + 1)).data.toList = s.data.toList ++ [dig p, dig q] := by
  have h1 := dig_cut ⟨p, by omega⟩
  have h2 := dig_cut ⟨q, by omega⟩
  rw [ByteArray.data_append, ByteArray.data_append, Array.toList_append, Array.toList_append, h1, h2]
  simp
theorem hex_size {s : ByteArray} {p q : Nat} (hp : p ≤ 15) (hq : q ≤ 15) :
    (s ++ ({ data := #[48, 49, 50, 51, 52, 53, 54, 55, 56, 57, 97, 98, 99, 100, 101, 102] } : ByteArray).extract p (p + 1) ++ ({ data := #[48, 49, 50, 51, 52, 53, 54, 55, 56, 57, 97, 98, 99, 100, 101, 102] } : ByteArray).extract q (q + 1)).size = s.size + 2 := by
  have e := congrArg List.length (hex_more (s := s) hp hq)
  rw [List.length_append, Array.length_toList, Array.length_toList] at e
  exact e

set_option maxRecDepth 100000 in
set_option maxHeartbeats 1000000 in
theorem rhex_any (l : List UInt8) (w : World) (hl : l.length = 32) :
    Calls Tryd.prog 21 #[.agg (bcs l).toArray] w fun e w' => e = .returned (.string ⟨(hx l).toArray⟩) ∧ Below w.heap.size w w' := by
  have HL := Lib.hid hl
  clear hl
  go_enter Tryd.func21, Tryd.ntmps21
  go_wp2_with fail
  go_loopw [4, 5] (fun o i wq => ∃ t : Nat, t ≤ 32 ∧ i = .int .i64 t ∧ (∃ s : ByteArray, o = .string s ∧ Hid (s.data.toList = hx (l.take t)) ∧ s.size ≤ 2 * t) ∧ Below w.heap.size w wq ∧ Ab wq 24 w.heap.size l) (fun _ i _ => 32 - (intOf i).toNat)
  case atStart => exact ⟨0, Nat.zero_le _, rfl, ⟨⟨#[]⟩, rfl, rfl, Nat.zero_le _⟩, (Below.refl _ _).alloc (Nat.le_refl _) _, heap_alloc_new w _⟩
  case round =>
    obtain ⟨t, ht, rfl, ⟨s, rfl, hs, hsz⟩, hb, hA⟩ := hrel
    by_cases ht32 : t < 32
    · have za := hA.cell t (by rw [HL.out]; exact ht32)
      have HX : Hid (hx (l.take (t + 1)) = hx (l.take t) ++ [dig ((l.getD t 0).toNat / 16), dig ((l.getD t 0).toNat % 16)]) := hx_snoc l t (by rw [HL.out]; exact ht32)
      generalize l.getD t 0 = x at za HX
      have lo := ub_lo x
      have hi := ub_hi x
      have t32 : (t : Int) < 32 := by omega
      have hp15 : x.toNat / 16 ≤ 15 := by have := x.toNat_lt; omega
      have hq15 : x.toNat % 16 ≤ 15 := by omega
      have ep : ub x / 16 = ((x.toNat / 16 : Nat) : Int) := by unfold ub; omega
      have eq : ub x % 16 = ((x.toNat % 16 : Nat) : Int) := by unfold ub; omega
      generalize x.toNat / 16 = p at ep hp15 HX
      generalize x.toNat % 16 = q at eq hq15 HX
      have e1 := IntWalk.u8_in ((p : Int) + 1) (by omega)
      have e2 := IntWalk.u8_in ((q : Int) + 1) (by omega)
      have f1 : ((p : Int) + 1).toNat = p + 1 := by omega
      have f2 : ((q : Int) + 1).toNat = q + 1 := by omega
      have g1 : (p : Int) + 1 ≤ 16 := by omega
      have g2 : (q : Int) + 1 ≤ 16 := by omega
      have n1 : 0 ≤ (p : Int) + 1 := by omega
      have n2 : 0 ≤ (q : Int) + 1 := by omega
      have m1 : (p : Int) ≤ (p : Int) + 1 := by omega
      have m2 : (q : Int) ≤ (q : Int) + 1 := by omega
      go_wp2_with fail
      go_quiet (fail)
      go_wp2_with fail
      refine region_all (by kernel_rfl) (by kernel_rfl) ?_
      intro wx hx bx
      have b1 : ¬ 9223372036854775807 < s.size + 1 := by omega
      have b2 : ¬ 9223372036854775807 < s.size + 1 + 1 := by omega
      iterate 14 still_step
      refine wpStill_nil ?_
      go_wp2_with fail
      go_roundw
      case rel =>
        refine ⟨t + 1, by omega, by go_num, ⟨_, rfl, ?_, ?_⟩, below_drewN hb bx hb.size, hA.kept (heap_hid hx w.heap.size)⟩
        · unfold Hid
          rw [hex_more hp15 hq15, hs.out]
          exact HX.out.symm
        · exact Nat.le_trans (Nat.le_of_eq (hex_size hp15 hq15)) (by omega)
      case measure => simp [intOf]; omega
    · obtain rfl : t = 32 := by omega
      have e : s = ⟨(hx l).toArray⟩ := by
        have := hs.out
        rw [List.take_of_length_le (by rw [HL.out]; omega)] at this
        rw [← this]
      subst e
      go_wp2_with fail
      go_ret
      exact ⟨rfl, hb⟩
end Go.Proofs.YtlcfjiiejmnghaaDoor
