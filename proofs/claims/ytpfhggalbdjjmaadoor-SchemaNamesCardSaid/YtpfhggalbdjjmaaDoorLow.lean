/-
  The contracts of what package code writes by: longer, low.
-/
import Derived.Test.YtpfhggalbdjjmaaDoorTy
namespace Go.Proofs.YtpfhggalbdjjmaaDoor
open Go.RowKit

set_option maxHeartbeats 400000 in
/-- longer(b, more): a new slice of the same bytes. -/
theorem longer_any (ao : Option Addr) (n cap : Nat) (l : List UInt8) (more : Int) (w : World) (h : IsB w ao n cap l) (hn : n ≤ 1000000) (hm : 0 ≤ more ∧ more ≤ 1000000) :
    Calls Tryd.prog 56 #[.slice ao n cap, .int .i64 more] w (Fresh w n l) := by
  obtain ⟨m, rfl⟩ := Int.eq_ofNat_of_zero_le hm.1
  obtain ⟨i0, hi, hz0, hz1, hz2⟩ := info_parts info_u8
  have hm2 : m ≤ 1000000 := by omega
  clear hm
  go_enter Tryd.func56, Tryd.ntmps56
  go_wp2_with (first | (at_make; refine wpList_make_ob rfl _ _ 30 rfl 5 byteTy .i64 .i64 _ (n + m) rfl rfl (by omega) (by omega) ?_; intro w1 h1 hb1) | (at_builtin; refine wpList_append_ob rfl _ _ 30 30 rfl 5 byteTy _ 0 (n + m) [] rfl h1 _ rfl n l ((h.past hb1).src byteTy.ht) n (by omega) l rfl (by omega) ?_; intro g2 cap2 w2 ho2 hp2 hg2))
  go_ret
  have hs1 := h1.lt
  exact ⟨g2, cap2, rfl, ho2, hb1.trans (hp2.below (Nat.le_refl _) hb1.size), by omega⟩

def XU (x : Int) : Nat := (x % 18446744073709551616).toNat

theorem XU_lt (x : Int) : XU x < 18446744073709551616 := by unfold XU; omega
theorem u64_wrap (x : Int) : IntKind.u64.wrap x = (XU x : Int) := by
  simp [IntKind.wrap, IntKind.bits, IntKind.signed, XU]; omega

set_option maxHeartbeats 400000 in
theorem low_any (g n cap : Nat) (l : List UInt8) (x : Int) (k : Nat) (K : Int) (hK : K = (k : Int)) (w : World) (h : OwnB w 5 g n cap l) (hn : n ≤ 1000000) (hk : k ≤ 8) :
    Calls Tryd.prog 55 #[.slice (some ⟨g, 0, none⟩) n cap, .int .i64 x, .int .i64 K] w (Went w g n (n + k) (l ++ le k (XU x))) := by
  subst hK
  have hlt := Lib.hid (XU_lt x)
  go_enter Tryd.func55, Tryd.ntmps55
  go_wp2_with fail
  go_loopw [0, 7, 11] (fun v u i wr => ∃ j g' cap' q, j ≤ k ∧ i = .int .i64 (j : Nat) ∧ Hid (q = XU x / 256 ^ j) ∧ u = .int .u64 (q : Nat) ∧ v = .slice (some ⟨g', 0, none⟩) (n + j) cap' ∧ OwnB wr 5 g' (n + j) cap' (l ++ le j (XU x)) ∧ Puts w wr g n ∧ (g' = g ∨ w.heap.size ≤ g')) (fun _ _ i _ => k - (intOf i).toNat)
  case atStart => exact ⟨0, g, cap, XU x, by omega, rfl, by simp [Hid], by rw [u64_wrap], rfl, by simpa [le] using h, Puts.refl _ _ _, .inl rfl⟩
  case round =>
    obtain ⟨j, g', cap', q, hj, rfl, hq, rfl, rfl, ho, hp, hg'⟩ := hrel
    have hq0 : q ≤ XU x := by rw [hq.out]; exact Nat.div_le_self _ _
    have hq1 : q < 18446744073709551616 := by have := hlt.out; omega
    have hg := h.lt
    have HL : Hid (l ++ le j (XU x) ++ [UInt8.ofNat (q % 256)] = l ++ le (j + 1) (XU x)) := by rw [hq.out, le_snoc, List.append_assoc]; exact rfl
    clear hq0
    by_cases hlt' : j < k
    · go_wp2_with (at_builtin; refine wpList_append_ob rfl _ _ 30 30 rfl 5 byteTy g' (n + j) cap' (l ++ le j (XU x)) rfl (ho.alloc _) _ rfl 1 [UInt8.ofNat (q % 256)] (src_one byteTy.ht _ _ _ (bc_mod q)) (n + (j + 1)) (by omega) (l ++ le (j + 1) (XU x)) HL.out (by omega) ?_; intro g2 cap2 w2 ho2 hp2 hg2)
      go_roundw
      case rel =>
        exact ⟨j + 1, g2, cap2, q / 256, by omega, by go_num, by unfold Hid; rw [hq.out, Nat.div_div_eq_div_mul, ← Nat.pow_succ], by go_num, rfl, ho2, (hp.alloc _ hg).trans hp2 (by omega), by have := hp.size; simp at hg2; omega⟩
      case measure => simp [intOf]; omega
    · go_wp2_with fail
      go_ret
      obtain rfl : j = k := by omega
      exact ⟨g', cap', rfl, ho, hp, hg'⟩
end Go.Proofs.YtpfhggalbdjjmaaDoor
