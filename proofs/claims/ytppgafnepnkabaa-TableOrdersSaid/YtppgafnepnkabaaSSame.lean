/-
  slices.Equal of columns; schema.Same.
-/
import Derived.Test.YtppgafnepnkabaaSFew
import Derived.Deep.QuietTactic
import Derived.BigQuiet
namespace Go.Proofs.Ytppgafnepnkabaa
open Go.RowKit

theorem Co.ext_iff (a b : Co) : a = b ↔ a.name = b.name ∧ a.kind = b.kind ∧ a.null = b.null := by
  cases a
  cases b
  simp
instance : DecidableEq Co := fun a b => decidable_of_iff _ (Co.ext_iff a b).symm
set_option maxRecDepth 100000 in
set_option maxHeartbeats 1000000 in
theorem equalC_any (w : World) (ao bo : Option Addr) (n m c d : Nat) (cs ds : List Co) (ha : IsR encCo w ao n c cs) (hb : IsR encCo w bo m d ds) :
    Calls Try.prog 97 #[.slice ao n c, .slice bo m d] w fun e w' => e = .returned (.bool (decide (cs = ds))) ∧ Below w.heap.size w w' := by
  have hla := ha.len
  have hlb := hb.len
  have hma := ha.max
  have hna := ha.le
  unfold maxLen at hma
  by_cases hnm : n = m
  · obtain rfl := hnm
    have hne : ((n : Int) != (n : Int)) = false := by simp
    go_enter Try.func97, Try.ntmps97
    go_wp2_with fail
    go_loopw [13] (fun i wr => ∃ j : Nat, j ≤ n ∧ i = .int .i64 (j : Nat) ∧ Below w.heap.size w wr ∧ Hid (cs.take j = ds.take j)) (fun i _ => n - (intOf i).toNat)
    case atStart => exact ⟨0, by omega, rfl, Below.refl _ _, rfl⟩
    case round =>
      obtain ⟨j, hj, rfl, hB, htk⟩ := hrel
      by_cases hlt : j < n
      · have hlti : (j : Int) < (n : Int) := by omega
        obtain ⟨x, hx⟩ : ∃ v, cs[j]? = some v := ⟨cs[j]'(by omega), List.getElem?_eq_getElem _⟩
        obtain ⟨y, hy⟩ : ∃ v, ds[j]? = some v := ⟨ds[j]'(by omega), List.getElem?_eq_getElem _⟩
        obtain ⟨b1, o1, rfl, hb1, hc1⟩ := ha.open (by omega) (by decide)
        obtain ⟨b2, o2, rfl, hb2, hc2⟩ := hb.open (by omega) (by decide)
        obtain ⟨p0, p1, p2⟩ := cells_co hc1 j x hx
        obtain ⟨q0, q1, q2⟩ := cells_co hc2 j y hy
        rw [← hB.drew.cell hb1] at p0 p1 p2
        rw [← hB.drew.cell hb2] at q0 q1 q2
        have hnx : Hid (x = y → cs.take (j + 1) = ds.take (j + 1)) := fun e => by
          rw [List.take_add_one, List.take_add_one, htk.out, hx, hy, e]
        have hst : Hid (x ≠ y → decide (cs = ds) = false) := fun e => by
          refine decide_eq_false fun h => e ?_
          rw [h, hy] at hx
          exact (Option.some.inj hx).symm
        clear hc1 hc2 hx hy
        obtain ⟨xn, xk, xb⟩ := x
        obtain ⟨yn, yk, yb⟩ := y
        simp only at p0 p1 p2 q0 q1 q2
        by_cases e1 : xn = yn
        · have f1 : (bsOf xn).toList = (bsOf yn).toList := by rw [e1]
          by_cases e2 : xk = yk
          · by_cases e3 : xb = yb
            · have HR := Lib.hid (hnx.out (by rw [e1, e2, e3]))
              clear hst hnx e1
              go_wp2_with fail
              go_region
              all_goals
                go_wp2_with fail
                go_roundw
                case rel => exact ⟨j + 1, by omega, by go_num, hB.drew, HR.out⟩
                case measure => simp [intOf]; omega
            · clear e1
              have HR := Lib.hid (hst.out (fun e => e3 (Co.mk.inj e).2.2))
              clear hst hnx
              go_wp2_with fail
              go_region
              all_goals
                go_wp2_with fail
                go_ret
                exact ⟨by rw [HR.out]; rfl, hB.drew⟩
          · clear e1
            have HR := Lib.hid (hst.out (fun e => e2 (Co.mk.inj e).2.1))
            clear hst hnx
            go_wp2_with fail
            go_region
            all_goals
              go_wp2_with fail
              go_ret
              exact ⟨by rw [HR.out]; rfl, hB.drew⟩
        · have f1 : ¬ ((bsOf xn).toList = (bsOf yn).toList) := by
            rw [ByteArray.toList_eq, ByteArray.toList_eq, bsOf_toList, bsOf_toList]
            exact e1
          have HR := Lib.hid (hst.out (fun e => e1 (Co.mk.inj e).1))
          clear hst hnx
          go_wp2_with fail
          go_region
          all_goals
            go_wp2_with fail
            go_ret
            exact ⟨by rw [HR.out]; rfl, hB.drew⟩
      · have hlti : ¬ ((j : Int) < (n : Int)) := by omega
        obtain rfl : j = n := by omega
        rw [List.take_of_length_le (by omega), List.take_of_length_le (by omega)] at htk
        have HR := Lib.hid (decide_eq_true htk.out)
        clear htk
        go_wp2_with fail
        go_ret
        exact ⟨by rw [HR.out]; rfl, hB⟩
  · have hne : ((n : Int) != (m : Int)) = true := by simp; omega
    have hd : decide (cs = ds) = false := decide_eq_false fun e => hnm (by rw [← hla, ← hlb, e])
    have HR := Lib.hid hd
    clear hd hnm
    go_enter Try.func97, Try.ntmps97
    go_wp2_with fail
    go_ret
    exact ⟨by rw [HR.out]; rfl, Below.refl _ _⟩
def sameS (la lb : List UInt8) (cs ds : List Co) (ka kb : Int) (oa ob : Bool) : Bool := decide (la = lb) && (decide (cs = ds) && (decide (ka = kb) && decide (oa = ob)))
set_option maxRecDepth 100000 in
set_option maxHeartbeats 1000000 in
theorem sameC_any (w : World) (la lb : List UInt8) (ao bo : Option Addr) (n m c d : Nat) (cs ds : List Co) (ka kb : Int) (oa ob : Bool) (ha : IsR encCo w ao n c cs) (hb : IsR encCo w bo m d ds) :
    Calls Try.prog 63 #[scV la ao n c ka oa, scV lb bo m d kb ob] w fun e w' => e = .returned (.bool (sameS la lb cs ds ka kb oa ob)) ∧ Below w.heap.size w w' := by
  unfold scV
  have X1 : ScB ((w.alloc (.cells #[.string (bsOf la), .slice ao n c, .int .i64 ka, .bool oa] 40)).alloc (.cells #[.string (bsOf lb), .slice bo m d, .int .i64 kb, .bool ob] 40)) w.heap.size la ao n c ka oa := (Below.heap_alloc _ _ w.heap.size (by simp)).trans (heap_alloc_new w _)
  have X2 : ScB ((w.alloc (.cells #[.string (bsOf la), .slice ao n c, .int .i64 ka, .bool oa] 40)).alloc (.cells #[.string (bsOf lb), .slice bo m d, .int .i64 kb, .bool ob] 40)) (w.heap.size + 1) lb bo m d kb ob := by
    have h := heap_alloc_new (w.alloc (.cells #[.string (bsOf la), .slice ao n c, .int .i64 ka, .bool oa] 40)) (.cells #[.string (bsOf lb), .slice bo m d, .int .i64 kb, .bool ob] 40)
    rw [World.size_alloc] at h
    exact h
  have BA : Below w.heap.size w ((w.alloc (.cells #[.string (bsOf la), .slice ao n c, .int .i64 ka, .bool oa] 40)).alloc (.cells #[.string (bsOf lb), .slice bo m d, .int .i64 kb, .bool ob] 40)) := ((Below.refl _ _).alloc (Nat.le_refl _) _).alloc (by simp) _
  have h1 := ha.past BA
  have h2 := hb.past BA
  obtain ⟨b1, hb1⟩ : ∃ b, ((bsOf la).toList == (bsOf lb).toList) = b := ⟨_, rfl⟩
  obtain ⟨b2, hb2⟩ : ∃ b, decide (cs = ds) = b := ⟨_, rfl⟩
  obtain ⟨b3, hb3⟩ : ∃ b, (ka == kb) = b := ⟨_, rfl⟩
  obtain ⟨b4, hb4⟩ : ∃ b, (oa == ob) = b := ⟨_, rfl⟩
  have hS : sameS la lb cs ds ka kb oa ob = (b1 && (b2 && (b3 && b4))) := by
    unfold sameS
    rw [← hb1, ← hb2, ← hb3, ← hb4, ByteArray.toList_eq, ByteArray.toList_eq, bsOf_toList, bsOf_toList]
    have e1 : (la == lb) = decide (la = lb) := by rw [Bool.eq_iff_iff]; simp
    have e3 : (ka == kb) = decide (ka = kb) := by rw [Bool.eq_iff_iff]; simp
    have e4 : (oa == ob) = decide (oa = ob) := by rw [Bool.eq_iff_iff]; simp
    simp only [e1, e3, e4]
  have HS := Lib.hid hS
  clear hS ha hb
  go_enter Try.func63, Try.ntmps63
  go_upto_region 1 with fail
  generalize (w.alloc (.cells #[.string (bsOf la), .slice ao n c, .int .i64 ka, .bool oa] 40)).alloc (.cells #[.string (bsOf lb), .slice bo m d, .int .i64 kb, .bool ob] 40) = wa at X1 X2 BA h1 h2 ⊢
  obtain ⟨r, hr⟩ : ∃ r, w.heap.size + 1 = r := ⟨_, rfl⟩
  obtain ⟨p, hp⟩ : ∃ p, w.heap.size = p := ⟨_, rfl⟩
  have hpr : p < r := by omega
  rw [hr] at X2
  simp only [hr]
  rw [hp] at X1 BA
  simp only [hp]
  have HP := Lib.hid hp
  have hpa : p ≤ wa.heap.size := Nat.le_of_lt X1.lt
  clear hr hp
  have HE := equalC_any wa ao bo n m c d cs ds h1 h2
  rw [hb2] at HE
  have y0 : wa.cell? ⟨p, 0, none⟩ = some (.string (bsOf la)) := cell_blk X1 rfl
  have y1 : wa.cell? ⟨p, 1, none⟩ = some (.slice ao n c) := cell_blk X1 rfl
  have z0 : wa.cell? ⟨r, 0, none⟩ = some (.string (bsOf lb)) := cell_blk X2 rfl
  have z1 : wa.cell? ⟨r, 1, none⟩ = some (.slice bo m d) := cell_blk X2 rfl
  clear hb2 h1 h2
  cases b1 with
  | false =>
    clear HE hb3 hb4
    go_wp2_with fail
    go_ret
    rw [HP.out]
    exact ⟨by rw [HS.out]; rfl, BA⟩
  | true =>
    cases b2 with
    | false =>
      go_wp2_with (go_at_call 97; refine HE.mono ?_; rintro e w2 ⟨rfl, b2⟩)
      go_ret
      rw [HP.out]
      exact ⟨by rw [HS.out]; rfl, BA.trans (b2.mono hpa)⟩
    | true =>
      cases b3 with
      | false =>
        go_wp2_with (go_at_call 97; refine HE.mono ?_; rintro e w2 ⟨rfl, b2⟩; have y2 : w2.cell? ⟨p, 2, none⟩ = some (.int .i64 ka) := cell_blk (X1.past b2) rfl; have z2 : w2.cell? ⟨r, 2, none⟩ = some (.int .i64 kb) := cell_blk (X2.past b2) rfl)
        go_ret
        rw [HP.out]
        exact ⟨by rw [HS.out]; rfl, BA.trans (b2.mono hpa)⟩
      | true =>
        go_wp2_with (go_at_call 97; refine HE.mono ?_; rintro e w2 ⟨rfl, b2⟩; have y2 : w2.cell? ⟨p, 2, none⟩ = some (.int .i64 ka) := cell_blk (X1.past b2) rfl; have z2 : w2.cell? ⟨r, 2, none⟩ = some (.int .i64 kb) := cell_blk (X2.past b2) rfl; have y3 : w2.cell? ⟨p, 3, none⟩ = some (.bool oa) := cell_blk (X1.past b2) rfl; have z3 : w2.cell? ⟨r, 3, none⟩ = some (.bool ob) := cell_blk (X2.past b2) rfl)
        go_ret
        rw [HP.out]
        exact ⟨by rw [HS.out]; rfl, BA.trans (b2.mono hpa)⟩
end Go.Proofs.Ytppgafnepnkabaa
