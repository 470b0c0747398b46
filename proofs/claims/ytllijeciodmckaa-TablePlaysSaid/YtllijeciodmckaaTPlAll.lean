/-
  slices.Equal of columns; schema.Same.
  table.Same.
  Acts of chapter 10: how they lie, Few of them; tables of rows that fit, whatever was put.
  The reference of chapter 10: Take (by gen_rtake.py).
  Schemas and tables of the document that read the same; a table as the document's, and the other way about (by gen_rsame10.py).
  What Take and Get answer, the program's and the document's, told alike; append to an empty row of the call's own.
-/
import Derived.Test.YtllijeciodmckaaSFew
import Derived.Deep.QuietTactic
import Derived.BigQuiet
import Derived.Test.YtllijeciodmckaaTabS
import Derived.Test.YtllijeciodmckaaSame
import Derived.Test.YtllijeciodmckaaTakeU
import Derived.Test.YtllijeciodmckaaGood
import Derived.Test.YtllijeciodmckaaEI
import Derived.Deep.CutRange
import Derived.Test.YtllijeciodmckaaRTab
import Derived.Test.YtllijeciodmckaaRSame5
namespace Go.Proofs.Ytllijeciodmckaa
open Go.RowKit

theorem Co.ext_iff (a b : Co) : a = b ↔ a.name = b.name ∧ a.kind = b.kind ∧ a.null = b.null := by
  cases a
  cases b
  simp
instance : DecidableEq Co := fun a b => decidable_of_iff _ (Co.ext_iff a b).symm
set_option maxRecDepth 100000 in
set_option maxHeartbeats 1000000 in
theorem equalC_any (w : World) (ao bo : Option Addr) (n m c d : Nat) (cs ds : List Co) (ha : IsR encCo w ao n c cs) (hb : IsR encCo w bo m d ds) :
    Calls Try.prog 137 #[.slice ao n c, .slice bo m d] w fun e w' => e = .returned (.bool (decide (cs = ds))) ∧ Below w.heap.size w w' := by
  have hla := ha.len
  have hlb := hb.len
  have hma := ha.max
  have hna := ha.le
  unfold maxLen at hma
  by_cases hnm : n = m
  · obtain rfl := hnm
    have hne : ((n : Int) != (n : Int)) = false := by simp
    go_enter Try.func137, Try.ntmps137
    go_wp2_with fail
    go_loopw [13] (fun i wr => ∃ j : Nat, j ≤ n ∧ i = .int .i64 (j : Nat) ∧ Below w.heap.size w wr ∧ Hid (cs.take j = ds.take j)) (fun i _ => n - (intOf i).toNat)
    case atStart => exact ⟨0, by omega, rfl, Below.refl _ _, rfl⟩
    case round =>
      obtain ⟨j, hj, rfl, hB, htk⟩ := hrel
      by_cases hlt : j < n
      · have hlti : (j : Int) < (n : Int) := by omega
        obtain ⟨x, hx⟩ : ∃ v, cs[j]? = some v := ⟨cs[j]'(by omega), List.getElem?_eq_getElem _⟩
        obtain ⟨y, hy⟩ : ∃ v, ds[j]? = some v := ⟨ds[j]'(by omega), List.getElem?_eq_getElem _⟩
        obtain ⟨b1, o1, rfl, hb1, hc1⟩ := ha.open (by omega) (by decide)
        obtain ⟨b2, o2, rfl, hb2, hc2⟩ := hb.open (by omega) (by decide)
        obtain ⟨p0, p1, p2⟩ := cells_co hc1 j x hx
        obtain ⟨q0, q1, q2⟩ := cells_co hc2 j y hy
        rw [← hB.drew.cell hb1] at p0 p1 p2
        rw [← hB.drew.cell hb2] at q0 q1 q2
        have hnx : Hid (x = y → cs.take (j + 1) = ds.take (j + 1)) := fun e => by
          rw [List.take_add_one, List.take_add_one, htk.out, hx, hy, e]
        have hst : Hid (x ≠ y → decide (cs = ds) = false) := fun e => by
          refine decide_eq_false fun h => e ?_
          rw [h, hy] at hx
          exact (Option.some.inj hx).symm
        clear hc1 hc2 hx hy
        obtain ⟨xn, xk, xb⟩ := x
        obtain ⟨yn, yk, yb⟩ := y
        simp only at p0 p1 p2 q0 q1 q2
        by_cases e1 : xn = yn
        · have f1 : (bsOf xn).toList = (bsOf yn).toList := by rw [e1]
          by_cases e2 : xk = yk
          · by_cases e3 : xb = yb
            · have HR := Lib.hid (hnx.out (by rw [e1, e2, e3]))
              clear hst hnx e1
              go_wp2_with fail
              go_region
              all_goals
                go_wp2_with fail
                go_roundw
                case rel => exact ⟨j + 1, by omega, by go_num, hB.drew, HR.out⟩
                case measure => simp [intOf]; omega
            · clear e1
              have HR := Lib.hid (hst.out (fun e => e3 (Co.mk.inj e).2.2))
              clear hst hnx
              go_wp2_with fail
              go_region
              all_goals
                go_wp2_with fail
                go_ret
                exact ⟨by rw [HR.out]; rfl, hB.drew⟩
          · clear e1
            have HR := Lib.hid (hst.out (fun e => e2 (Co.mk.inj e).2.1))
            clear hst hnx
            go_wp2_with fail
            go_region
            all_goals
              go_wp2_with fail
              go_ret
              exact ⟨by rw [HR.out]; rfl, hB.drew⟩
        · have f1 : ¬ ((bsOf xn).toList = (bsOf yn).toList) := by
            rw [ByteArray.toList_eq, ByteArray.toList_eq, bsOf_toList, bsOf_toList]
            exact e1
          have HR := Lib.hid (hst.out (fun e => e1 (Co.mk.inj e).1))
          clear hst hnx
          go_wp2_with fail
          go_region
          all_goals
            go_wp2_with fail
            go_ret
            exact ⟨by rw [HR.out]; rfl, hB.drew⟩
      · have hlti : ¬ ((j : Int) < (n : Int)) := by omega
        obtain rfl : j = n := by omega
        rw [List.take_of_length_le (by omega), List.take_of_length_le (by omega)] at htk
        have HR := Lib.hid (decide_eq_true htk.out)
        clear htk
        go_wp2_with fail
        go_ret
        exact ⟨by rw [HR.out]; rfl, hB⟩
  · have hne : ((n : Int) != (m : Int)) = true := by simp; omega
    have hd : decide (cs = ds) = false := decide_eq_false fun e => hnm (by rw [← hla, ← hlb, e])
    have HR := Lib.hid hd
    clear hd hnm
    go_enter Try.func137, Try.ntmps137
    go_wp2_with fail
    go_ret
    exact ⟨by rw [HR.out]; rfl, Below.refl _ _⟩
def sameS (la lb : List UInt8) (cs ds : List Co) (ka kb : Int) (oa ob : Bool) : Bool := decide (la = lb) && (decide (cs = ds) && (decide (ka = kb) && decide (oa = ob)))
set_option maxRecDepth 100000 in
set_option maxHeartbeats 1000000 in
theorem sameC_any (w : World) (la lb : List UInt8) (ao bo : Option Addr) (n m c d : Nat) (cs ds : List Co) (ka kb : Int) (oa ob : Bool) (ha : IsR encCo w ao n c cs) (hb : IsR encCo w bo m d ds) :
    Calls Try.prog 83 #[scV la ao n c ka oa, scV lb bo m d kb ob] w fun e w' => e = .returned (.bool (sameS la lb cs ds ka kb oa ob)) ∧ Below w.heap.size w w' := by
  unfold scV
  have X1 : ScB ((w.alloc (.cells #[.string (bsOf la), .slice ao n c, .int .i64 ka, .bool oa] 40)).alloc (.cells #[.string (bsOf lb), .slice bo m d, .int .i64 kb, .bool ob] 40)) w.heap.size la ao n c ka oa := (Below.heap_alloc _ _ w.heap.size (by simp)).trans (heap_alloc_new w _)
  have X2 : ScB ((w.alloc (.cells #[.string (bsOf la), .slice ao n c, .int .i64 ka, .bool oa] 40)).alloc (.cells #[.string (bsOf lb), .slice bo m d, .int .i64 kb, .bool ob] 40)) (w.heap.size + 1) lb bo m d kb ob := by
    have h := heap_alloc_new (w.alloc (.cells #[.string (bsOf la), .slice ao n c, .int .i64 ka, .bool oa] 40)) (.cells #[.string (bsOf lb), .slice bo m d, .int .i64 kb, .bool ob] 40)
    rw [World.size_alloc] at h
    exact h
  have BA : Below w.heap.size w ((w.alloc (.cells #[.string (bsOf la), .slice ao n c, .int .i64 ka, .bool oa] 40)).alloc (.cells #[.string (bsOf lb), .slice bo m d, .int .i64 kb, .bool ob] 40)) := ((Below.refl _ _).alloc (Nat.le_refl _) _).alloc (by simp) _
  have h1 := ha.past BA
  have h2 := hb.past BA
  obtain ⟨b1, hb1⟩ : ∃ b, ((bsOf la).toList == (bsOf lb).toList) = b := ⟨_, rfl⟩
  obtain ⟨b2, hb2⟩ : ∃ b, decide (cs = ds) = b := ⟨_, rfl⟩
  obtain ⟨b3, hb3⟩ : ∃ b, (ka == kb) = b := ⟨_, rfl⟩
  obtain ⟨b4, hb4⟩ : ∃ b, (oa == ob) = b := ⟨_, rfl⟩
  have hS : sameS la lb cs ds ka kb oa ob = (b1 && (b2 && (b3 && b4))) := by
    unfold sameS
    rw [← hb1, ← hb2, ← hb3, ← hb4, ByteArray.toList_eq, ByteArray.toList_eq, bsOf_toList, bsOf_toList]
    have e1 : (la == lb) = decide (la = lb) := by rw [Bool.eq_iff_iff]; simp
    have e3 : (ka == kb) = decide (ka = kb) := by rw [Bool.eq_iff_iff]; simp
    have e4 : (oa == ob) = decide (oa = ob) := by rw [Bool.eq_iff_iff]; simp
    simp only [e1, e3, e4]
  have HS := Lib.hid hS
  clear hS ha hb
  go_enter Try.func83, Try.ntmps83
  go_upto_region 1 with fail
  generalize (w.alloc (.cells #[.string (bsOf la), .slice ao n c, .int .i64 ka, .bool oa] 40)).alloc (.cells #[.string (bsOf lb), .slice bo m d, .int .i64 kb, .bool ob] 40) = wa at X1 X2 BA h1 h2 ⊢
  obtain ⟨r, hr⟩ : ∃ r, w.heap.size + 1 = r := ⟨_, rfl⟩
  obtain ⟨p, hp⟩ : ∃ p, w.heap.size = p := ⟨_, rfl⟩
  have hpr : p < r := by omega
  rw [hr] at X2
  simp only [hr]
  rw [hp] at X1 BA
  simp only [hp]
  have HP := Lib.hid hp
  have hpa : p ≤ wa.heap.size := Nat.le_of_lt X1.lt
  clear hr hp
  have HE := equalC_any wa ao bo n m c d cs ds h1 h2
  rw [hb2] at HE
  have y0 : wa.cell? ⟨p, 0, none⟩ = some (.string (bsOf la)) := cell_blk X1 rfl
  have y1 : wa.cell? ⟨p, 1, none⟩ = some (.slice ao n c) := cell_blk X1 rfl
  have z0 : wa.cell? ⟨r, 0, none⟩ = some (.string (bsOf lb)) := cell_blk X2 rfl
  have z1 : wa.cell? ⟨r, 1, none⟩ = some (.slice bo m d) := cell_blk X2 rfl
  clear hb2 h1 h2
  cases b1 with
  | false =>
    clear HE hb3 hb4
    go_wp2_with fail
    go_ret
    rw [HP.out]
    exact ⟨by rw [HS.out]; rfl, BA⟩
  | true =>
    cases b2 with
    | false =>
      go_wp2_with (go_at_call 137; refine HE.mono ?_; rintro e w2 ⟨rfl, b2⟩)
      go_ret
      rw [HP.out]
      exact ⟨by rw [HS.out]; rfl, BA.trans (b2.mono hpa)⟩
    | true =>
      cases b3 with
      | false =>
        go_wp2_with (go_at_call 137; refine HE.mono ?_; rintro e w2 ⟨rfl, b2⟩; have y2 : w2.cell? ⟨p, 2, none⟩ = some (.int .i64 ka) := cell_blk (X1.past b2) rfl; have z2 : w2.cell? ⟨r, 2, none⟩ = some (.int .i64 kb) := cell_blk (X2.past b2) rfl)
        go_ret
        rw [HP.out]
        exact ⟨by rw [HS.out]; rfl, BA.trans (b2.mono hpa)⟩
      | true =>
        go_wp2_with (go_at_call 137; refine HE.mono ?_; rintro e w2 ⟨rfl, b2⟩; have y2 : w2.cell? ⟨p, 2, none⟩ = some (.int .i64 ka) := cell_blk (X1.past b2) rfl; have z2 : w2.cell? ⟨r, 2, none⟩ = some (.int .i64 kb) := cell_blk (X2.past b2) rfl; have y3 : w2.cell? ⟨p, 3, none⟩ = some (.bool oa) := cell_blk (X1.past b2) rfl; have z3 : w2.cell? ⟨r, 3, none⟩ = some (.bool ob) := cell_blk (X2.past b2) rfl)
        go_ret
        rw [HP.out]
        exact ⟨by rw [HS.out]; rfl, BA.trans (b2.mono hpa)⟩
end Go.Proofs.Ytllijeciodmckaa
namespace Go.Proofs.Ytllijeciodmckaa
open Go.RowKit
set_option linter.unusedSimpArgs false
def eqRs : List (List V) → List (List V) → Bool
  | [], [] => true
  | x :: a, y :: b => eqVs x y && eqRs a b
  | _, _ => false
theorem eqRs_iff : ∀ a b : List (List V), eqRs a b = true ↔ a = b
  | [], [] => by simp [eqRs]
  | [], _ :: _ => by simp [eqRs]
  | _ :: _, [] => by simp [eqRs]
  | x :: a, y :: b => by simp only [eqRs, Bool.and_eq_true, eqVs_iff, eqRs_iff a b, List.cons.injEq]
theorem eqRs_len {a b : List (List V)} (h : a.length ≠ b.length) : eqRs a b = false := by
  cases q : eqRs a b
  · rfl
  · exact absurd (congrArg List.length ((eqRs_iff a b).1 q)) h
theorem eqRs_drop (a b : List (List V)) (j : Nat) (x y : List V) (hx : a[j]? = some x) (hy : b[j]? = some y) : eqRs (a.drop j) (b.drop j) = (eqVs x y && eqRs (a.drop (j + 1)) (b.drop (j + 1))) := by
  obtain ⟨h1, rfl⟩ := List.getElem?_eq_some_iff.1 hx
  obtain ⟨h2, rfl⟩ := List.getElem?_eq_some_iff.1 hy
  rw [List.drop_eq_getElem_cons h1, List.drop_eq_getElem_cons h2, eqRs]
set_option maxRecDepth 100000 in
set_option maxHeartbeats 1000000 in
theorem equalRs_any (w : World) (B B' : Nat) (ao : Option Addr) (n c : Nat) (a : List (List V)) (bo : Option Addr) (m d : Nat) (b : List (List V)) (ha : IsRR EV w B ao n c a) (hb : IsRR EV w B' bo m d b) (hn : n ≤ 1000) :
    Calls Try.prog 84 #[.slice ao n c, .slice bo m d, .func (.func 85) #[] #[]] w (Told w (eqRs a b)) := by
  have hla := ha.len
  have hlb := hb.len
  by_cases hnm : n = m
  · subst hnm
    go_enter Try.func84, Try.ntmps84
    go_wp2_with fail
    go_loopw [17] (fun i wr => ∃ j : Nat, j ≤ n ∧ i = .int .i64 (j : Nat) ∧ Below w.heap.size w wr ∧ Hid (eqRs a b = eqRs (a.drop j) (b.drop j))) (fun i _ => n - (intOf i).toNat)
    case atStart => exact ⟨0, by omega, rfl, Below.refl _ _, rfl⟩
    case round =>
      obtain ⟨j, hj, rfl, hB, hc⟩ := hrel
      by_cases hlt : j < n
      · have hlti : (j : Int) < (n : Int) := by omega
        obtain ⟨x, hx⟩ : ∃ x, a[j]? = some x := ⟨a[j]'(by omega), List.getElem?_eq_getElem _⟩
        obtain ⟨y, hy⟩ : ∃ y, b[j]? = some y := ⟨b[j]'(by omega), List.getElem?_eq_getElem _⟩
        obtain ⟨b1, o1, h1, rfl, hb1, c1, i1⟩ := ha.at hx
        obtain ⟨b2, o2, h2, rfl, hb2, c2, i2⟩ := hb.at hy
        rw [← hB.cell hb1] at c1
        rw [← hB.cell hb2] at c2
        have HD := Lib.hid (hc.out.trans (eqRs_drop a b j x y hx hy))
        have HS := same_any _ _ _ _ _ _ _ _ wr (i1.past hB) (i2.past hB)
        obtain ⟨e, he⟩ : ∃ e, eqVs x y = e := ⟨_, rfl⟩
        rw [he] at HS
        have HE := Lib.hid he
        obtain ⟨xa, xn, xc⟩ := h1
        obtain ⟨ya, yn, yc⟩ := h2
        simp only at c1 c2 HS
        clear he hx hy
        cases e with
        | false =>
          go_wp2_with (go_at_call 85; refine HS.mono ?_; rintro en w2 ⟨rfl, b2⟩)
          go_ret
          exact ⟨by rw [HD.out, HE.out]; rfl, hB.trans (b2.mono hB.size)⟩
        | true =>
          go_wp2_with (go_at_call 85; refine HS.mono ?_; rintro en w2 ⟨rfl, b2⟩)
          go_roundw
          case rel => exact ⟨j + 1, by omega, by go_num, hB.trans (b2.mono hB.size), by show _ = _; rw [HD.out, HE.out]; rfl⟩
          case measure => simp [intOf]; omega
      · have hlti : ¬ ((j : Int) < (n : Int)) := by omega
        obtain rfl : j = n := by omega
        have HE : Hid (eqRs a b = true) := by
          show _ = _
          rw [hc.out, List.drop_of_length_le (by omega), List.drop_of_length_le (by omega)]
          rfl
        go_wp2_with fail
        go_ret
        exact ⟨by rw [HE.out]; rfl, hB⟩
  · have hne : ((n : Int) != (m : Int)) = true := by simp; omega
    have HE := Lib.hid (eqRs_len (a := a) (b := b) (by omega))
    go_enter Try.func84, Try.ntmps84
    go_wp2_with fail
    go_ret
    exact ⟨by rw [HE.out]; rfl, Below.refl _ _⟩
set_option maxRecDepth 100000 in
set_option maxHeartbeats 1000000 in
/-- table.Same, of tables of one schema. -/
theorem tsame_any (w : World) (l : List UInt8) (cs : List Co) (cn : Nat) (ky : Int) (only : Bool) (B B' : Nat) (co : Option Addr) (cc : Nat) (ro : Option Addr) (rn rc : Nat) (rs : List (List V)) (co' : Option Addr) (cc' : Nat) (ro' : Option Addr) (rn' rc' : Nat) (rs' : List (List V)) (h : IsT w B co cn cc cs ro rn rc rs) (h' : IsT w B' co' cn cc' cs ro' rn' rc' rs') (hn : rn ≤ 1000) :
    Calls Try.prog 22 #[tbV l co cn cc ky only ro rn rc, tbV l co' cn cc' ky only ro' rn' rc'] w (Told w (eqRs rs rs')) := by
  have hB : Below w.heap.size w ((w.alloc (.cells #[.string (bsOf l), .slice co cn cc, .int .i64 ky, .bool only, .slice ro rn rc] 47)).alloc (.cells #[.string (bsOf l), .slice co' cn cc', .int .i64 ky, .bool only, .slice ro' rn' rc'] 47)) := ((Below.refl _ _).alloc (Nat.le_refl _) _).alloc (by simp) _
  have hT : Bk ((w.alloc (.cells #[.string (bsOf l), .slice co cn cc, .int .i64 ky, .bool only, .slice ro rn rc] 47)).alloc (.cells #[.string (bsOf l), .slice co' cn cc', .int .i64 ky, .bool only, .slice ro' rn' rc'] 47)) w.heap.size (tbC l co cn cc ky only ro rn rc) 47 := (Bk.new w _ _).alloc _
  have hT' : Bk ((w.alloc (.cells #[.string (bsOf l), .slice co cn cc, .int .i64 ky, .bool only, .slice ro rn rc] 47)).alloc (.cells #[.string (bsOf l), .slice co' cn cc', .int .i64 ky, .bool only, .slice ro' rn' rc'] 47)) (w.heap.size + 1) (tbC l co' cn cc' ky only ro' rn' rc') 47 := by
    have := Bk.new (w.alloc (.cells #[.string (bsOf l), .slice co cn cc, .int .i64 ky, .bool only, .slice ro rn rc] 47)) #[.string (bsOf l), .slice co' cn cc', .int .i64 ky, .bool only, .slice ro' rn' rc'] 47
    rwa [World.size_alloc] at this
  unfold tbV
  go_enter Try.func22, Try.ntmps22
  go_upto_region 1 with fail
  generalize (w.alloc (.cells #[.string (bsOf l), .slice co cn cc, .int .i64 ky, .bool only, .slice ro rn rc] 47)).alloc (.cells #[.string (bsOf l), .slice co' cn cc', .int .i64 ky, .bool only, .slice ro' rn' rc'] 47) = W at hB hT hT' ⊢
  have hS := sameC_any W l l co co' cn cn cc cc' cs cs ky ky only only (h.cols.past hB) (h'.cols.past hB)
  have e : sameS l l cs cs ky ky only only = true := by simp [sameS]
  rw [e] at hS
  unfold scV at hS
  have HSS := Lib.hid hS
  clear e hS
  obtain ⟨p, hp⟩ : ∃ p, w.heap.size = p := ⟨_, rfl⟩
  have HP := Lib.hid hp
  obtain ⟨q, hq⟩ : ∃ q, p + 1 = q := ⟨_, rfl⟩
  simp only [hp, hq] at hT hT' ⊢
  have hpW : p ≤ W.heap.size := Nat.le_of_lt hT.lt
  have hB2 : Below p w W := by rw [← hp]; exact hB
  clear hp hq
  obtain ⟨t0, t1, t2, t3, t4⟩ := tb_cells hT
  obtain ⟨u0, u1, u2, u3, u4⟩ := tb_cells hT'
  have hE := fun (w' : World) (hb : Below W.heap.size W w') => equalRs_any w' B B' ro rn rc rs ro' rn' rc' rs' ((h.rows.past hB).past hb) ((h'.rows.past hB).past hb) hn
  go_wp2_with (first
    | (go_at_call 83; refine HSS.out.mono ?_; rintro en w1 ⟨rfl, b1⟩; have v4 : w1.cell? ⟨p, 4, none⟩ = some (.slice ro rn rc) := (hT.past b1).c rfl; have x4 : w1.cell? ⟨q, 4, none⟩ = some (.slice ro' rn' rc') := (hT'.past b1).c rfl)
    | (go_at_call 84; refine (hE _ b1).mono ?_; rintro en w2 ⟨rfl, b2⟩))
  go_ret
  exact ⟨rfl, by rw [HP.out]; exact (hB2.trans (b1.mono hpW)).trans (b2.mono (Nat.le_trans hpW b1.size))⟩
end Go.Proofs.Ytllijeciodmckaa
namespace Go.Proofs.Ytllijeciodmckaa
open Go.RowKit
set_option linter.unusedSimpArgs false
/-- An act: its raw row lies where its slice says. -/
structure At10 where
  k : Int
  n : Int
  vo : Option Addr
  vn : Nat
  vc : Nat
def EAt : Enc At10 where
  sz := 3
  f a := [.int .i64 a.k, .int .i64 a.n, .slice a.vo a.vn a.vc]
  len _ := rfl
  one c u hu := by
    simp only [List.mem_cons, List.not_mem_nil, or_false] at hu
    rcases hu with rfl | rfl | rfl <;> rfl
instance : Inhabited At10 := ⟨⟨0, 0, none, 0, 0⟩⟩
theorem cells_at {cs : List At10} {w : World} {b off : Nat} (hc : ∀ j u, (EAt.all cs)[j]? = some u → w.cell? ⟨b, off + j, none⟩ = some u) (j : Nat) (c : At10) (hj : cs[j]? = some c) :
    w.cell? ⟨b, off + j * 3, none⟩ = some (.int .i64 c.k) ∧ w.cell? ⟨b, off + j * 3 + 1, none⟩ = some (.int .i64 c.n) ∧ w.cell? ⟨b, off + j * 3 + 2, none⟩ = some (.slice c.vo c.vn c.vc) := by
  have h0 := hc _ _ ((Enc.all_get EAt cs j 0 c hj (by decide)).trans rfl)
  have h1 := hc _ _ ((Enc.all_get EAt cs j 1 c hj (by decide)).trans rfl)
  have h2 := hc _ _ ((Enc.all_get EAt cs j 2 c hj (by decide)).trans rfl)
  exact ⟨h0, by rw [Nat.add_assoc]; exact h1, by rw [Nat.add_assoc]; exact h2⟩
/-- What an act that came in holds. -/
def At10.ok (W : World) (a : At10) : Prop := (Lit.int .i64 a.k).wf = true ∧ (Lit.int .i64 a.n).wf = true ∧ ∃ vs, IsR EV W a.vo a.vn a.vc vs
theorem At10.ok.past {W W' : World} {a : At10} (h : a.ok W) (b : Below W.heap.size W W') : a.ok W' := by
  obtain ⟨h1, h2, vs, h3⟩ := h
  exact ⟨h1, h2, vs, h3.past b⟩
/-- Whether acts are few enough: vsf tells each one's raw row. -/
def few10P (vsf : At10 → List V) (a : At10) : Bool := fewB (vsf a) && decide ((a.vn : Int) ≤ 12)
def few10B (vsf : At10 → List V) (n : Nat) (la : List At10) : Bool := la.all (few10P vsf) && decide ((n : Int) ≤ 60)
theorem few10_true {vsf : At10 → List V} {n : Nat} {la : List At10} (h : few10B vsf n la = true) : n ≤ 60 ∧ ∀ a ∈ la, a.vn ≤ 12 := by
  unfold few10B at h
  simp only [Bool.and_eq_true, decide_eq_true_eq, List.all_eq_true] at h
  refine ⟨by omega, fun a ha => ?_⟩
  have := h.1 a ha
  unfold few10P at this
  simp only [Bool.and_eq_true, decide_eq_true_eq] at this
  omega
theorem acts_vs {W : World} {la : List At10} (h : ∀ a ∈ la, a.ok W) : ∃ vsf : At10 → List V, ∀ a ∈ la, IsR EV W a.vo a.vn a.vc (vsf a) := by
  classical
  have h' : ∀ a ∈ la, ∃ vs, IsR EV W a.vo a.vn a.vc vs := fun a ha => by
    obtain ⟨_, _, x⟩ := h a ha
    exact x
  refine ⟨fun a => if q : a ∈ la then Classical.choose (h' a q) else [], fun a ha => ?_⟩
  show IsR EV W a.vo a.vn a.vc (if q : a ∈ la then Classical.choose (h' a q) else [])
  rw [dif_pos ha]
  exact Classical.choose_spec (h' a ha)
set_option maxRecDepth 100000 in
set_option maxHeartbeats 1000000 in
theorem few10_any (w : World) (ao : Option Addr) (n c : Nat) (la : List At10) (h : IsR EAt w ao n c la) (vsf : At10 → List V) (hok : ∀ a ∈ la, IsR EV w a.vo a.vn a.vc (vsf a)) :
    Calls Try.prog 16 #[.slice ao n c] w (Told w (few10B vsf n la)) := by
  have hln := h.len
  have hmx := h.max
  have hle := h.le
  unfold maxLen at hmx
  have HF := Lib.hid (show few10B vsf n la = (la.all (few10P vsf) && decide ((n : Int) ≤ 60)) from rfl)
  obtain ⟨R, hR⟩ : ∃ R, few10B vsf n la = R := ⟨_, rfl⟩
  rw [hR] at HF ⊢
  clear hR
  go_enter Try.func16, Try.ntmps16
  go_wp2_with fail
  go_loopw [3] (fun i wr => ∃ j : Nat, j ≤ n ∧ i = .int .i64 (j : Nat) ∧ Hid ((la.take j).all (few10P vsf) = true) ∧ Below w.heap.size w wr) (fun i _ => n - (intOf i).toNat)
  case atStart => exact ⟨0, Nat.zero_le _, rfl, Lib.hid (by simp), Below.refl _ _⟩
  case round =>
    obtain ⟨j, hj, rfl, hA, hB⟩ := hrel
    by_cases hlt : j < n
    · have hlti : (j : Int) < (n : Int) := by omega
      obtain ⟨a, ha⟩ : ∃ a, la[j]? = some a := ⟨la[j]'(by omega), List.getElem?_eq_getElem _⟩
      have ham := List.mem_of_getElem? ha
      have hvs := (hok a ham).past hB
      obtain ⟨b, off, rfl, hbx, hcc⟩ := h.open (by omega) (by decide)
      obtain ⟨y0, y1, y2⟩ := cells_at hcc j a ha
      rw [← hB.cell hbx] at y2
      have hstep : few10P vsf a = true → Hid ((la.take (j + 1)).all (few10P vsf) = true) := fun h12 => Lib.hid (by
        rw [List.take_add_one, ha, List.all_append, hA.out]
        simp [h12])
      have hno : few10P vsf a = false → Hid (R = false) := fun h12 => Lib.hid (by
        rw [HF.out, Bool.and_eq_false_iff]
        exact .inl (by
          rw [List.all_eq_false]
          exact ⟨a, ham, by rw [h12]; decide⟩))
      have HS := Lib.hid hstep
      have HN := Lib.hid hno
      have hq0 : Hid (few10P vsf a = (fewB (vsf a) && decide ((a.vn : Int) ≤ 12))) := Lib.hid rfl
      obtain ⟨vs, hvse⟩ : ∃ z_, vsf a = z_ := ⟨_, rfl⟩
      obtain ⟨pv, hpv⟩ : ∃ z_, few10P vsf a = z_ := ⟨_, rfl⟩
      rw [hvse] at hvs hq0
      rw [hpv] at hq0 HS HN
      clear hcc y0 y1 hstep hno hA ha ham hvse hpv
      obtain ⟨ak, an, avo, avn, avc⟩ := a
      simp only at y2 hvs hq0
      have HF5 := few5_any avo avn avc vs wr hvs
      rw [← hq0.out] at HF5
      clear hq0
      cases pv
      · have hR := HN.out rfl
        go_wp2_with (go_at_call 72; refine HF5.mono ?_; rintro e w2 ⟨rfl, b2⟩)
        go_ret
        have hR := hR.out
        subst hR
        exact ⟨rfl, hB.trans (b2.mono hB.size)⟩
      · have HN := HS.out rfl
        clear HS
        go_wp2_with (go_at_call 72; refine HF5.mono ?_; rintro e w2 ⟨rfl, b2⟩)
        have BJ := hB.trans (b2.mono hB.size)
        go_roundw
        case rel => exact ⟨j + 1, by omega, by go_num, HN, BJ⟩
        case measure => simp [intOf]; omega
    · have hlti : ¬ ((j : Int) < (n : Int)) := by omega
      have hR : Hid (R = decide ((n : Int) ≤ 60)) := Lib.hid (by
        have := hA.out
        rw [List.take_of_length_le (by omega)] at this
        rw [HF.out, this, Bool.true_and])
      clear hA HF
      go_wp2_with fail
      go_ret
      have hR := hR.out
      subst hR
      exact ⟨rfl, hB⟩
theorem val_of_chk {k n : Int} {s : ByteArray} (h : chkV k n s = 0) : Val k n s := by
  have hE : s.toList.isEmpty = true → s = ByteArray.empty := fun h => str_ext _ _ (by rw [List.isEmpty_iff.1 h, ByteArray.toList_eq]; rfl)
  unfold chkV at h
  split at h
  · rename_i e
    split at h
    · rename_i q
      rw [e, q.1, hE q.2]
      exact .none
    · cases h
  split at h
  · rename_i e
    split at h
    · rename_i q
      split at h
      · rename_i q2
        rw [e, hE q2]
        exact .bool n (by omega) (by omega)
      · cases h
    · cases h
  split at h
  · rename_i e
    split at h
    · rename_i q
      rw [e, hE q]
      exact .int n
    · cases h
  split at h
  · rename_i e
    split at h
    · rename_i q
      split at h
      · cases h
      · rename_i q2
        rw [e, q]
        exact .text s (by omega)
    · cases h
  · cases h
theorem fitE_val {c : Co} {v : V} (h : fitE c v = 0) : Val v.k v.n v.s := by
  unfold fitE at h
  split at h
  · rename_i q
    exact val_of_chk q
  · exact val_of_chk h
theorem fitsL_val : ∀ {cs : List Co} {r : List V}, r.length = cs.length → fitsL cs r = 0 → ∀ v ∈ r, Val v.k v.n v.s
  | _, [], _, _ => fun v hv => by cases hv
  | [], _ :: _, hl, _ => by cases hl
  | c :: cs, x :: r, hl, h => by
    rw [fitsL] at h
    split at h
    · rename_i q
      intro v hv
      rcases List.mem_cons.1 hv with rfl | hv
      · exact fitE_val q
      · exact fitsL_val (by simpa using hl) h v hv
    · rename_i q
      exact absurd h q
theorem fitsE_val {cs : List Co} {r : List V} (h : fitsE cs r = 0) : r.length = cs.length ∧ ∀ v ∈ r, Val v.k v.n v.s := by
  unfold fitsE at h
  split at h
  · rename_i q
    exact ⟨q, fitsL_val q h⟩
  · cases h
theorem fitsE_key {cs : List Co} {r : List V} {K : Nat} (h : fitsE cs r = 0) (hK : K < cs.length) : K < r.length ∧ Val (kOf K r).k (kOf K r).n (kOf K r).s := by
  obtain ⟨h1, h2⟩ := fitsE_val h
  have hl : K < r.length := by omega
  refine ⟨hl, ?_⟩
  rw [kOf_get (List.getElem?_eq_getElem hl)]
  exact h2 _ (List.getElem_mem hl)
/-- A table's rows: in order, each fits. -/
structure RowsOk (F : List Co) (K : Nat) (rs : List (List V)) : Prop where
  srt : Srt K rs
  fit : ∀ r ∈ rs, fitsE F r = 0
theorem RowsOk.nil (F : List Co) (K : Nat) : RowsOk F K [] := ⟨Srt.nil K, fun r hr => by cases hr⟩
theorem RowsOk.len {F : List Co} {K : Nat} {rs : List (List V)} (h : RowsOk F K rs) : ∀ r ∈ rs, r.length = F.length := fun r hr => (fitsE_val (h.fit r hr)).1
theorem RowsOk.key {F : List Co} {K : Nat} {rs : List (List V)} (h : RowsOk F K rs) (hK : K < F.length) : ∀ r ∈ rs, K < r.length ∧ Val (kOf K r).k (kOf K r).n (kOf K r).s := fun r hr => fitsE_key (h.fit r hr) hK
theorem RowsOk.putR {F : List Co} {K : Nat} {rs : List (List V)} (h : RowsOk F K rs) (rv : List V) : RowsOk F K (putR F K rv rs) := by
  unfold Go.Proofs.Ytllijeciodmckaa.putR
  split
  · rename_i q
    unfold putE at q
    split at q
    · rename_i q1
      split at q
      · cases q
      · rename_i q2
        refine ⟨h.srt.put rv (by simpa using q2), fun r hr => ?_⟩
        rcases mem_putN hr with rfl | hr
        · exact q1
        · exact h.fit r hr
    · rename_i q1
      exact absurd q q1
  · exact h
theorem RowsOk.takeR {F : List Co} {K : Nat} {rs : List (List V)} (h : RowsOk F K rs) (k : V) : RowsOk F K (takeR K k rs) := by
  unfold Go.Proofs.Ytllijeciodmckaa.takeR
  split
  · exact ⟨h.srt.take k, fun r hr => h.fit r (mem_takeN hr)⟩
  · exact h
theorem putR_len (F : List Co) (K : Nat) (rv : List V) (rs : List (List V)) : (putR F K rv rs).length ≤ rs.length + 1 := by
  unfold putR
  split
  · rw [put_len]
    omega
  · omega
theorem takeR_len (K : Nat) (k : V) (rs : List (List V)) : (takeR K k rs).length ≤ rs.length := by
  unfold takeR
  split
  · unfold takeN
    rw [List.length_append, List.length_take, List.length_drop]
    omega
  · omega
end Go.Proofs.Ytllijeciodmckaa
namespace Go.Proofs.Ytllijeciodmckaa
open Go.RowKit
set_option linter.unusedSimpArgs false
/-- What the reference's Take answers, and what then stands. -/
def RTakeIs (w : World) (B : Nat) (l : List UInt8) (co : Option Addr) (cn cc ky : Nat) (only : Bool) (tk : Bool) (ox : Option (List V)) (rs rsT : List (List V)) (e : Ending) (w' : World) : Prop :=
  (tk = false → ∃ ro rn rc, e = .returned (.tuple #[tbV l co cn cc (ky : Nat) only ro rn rc, .slice none 0 0, .int .i64 2]) ∧ IsRR EV w' B ro rn rc rs) ∧
  (∀ x, tk = true → ox = some x → ∃ ro rn rc g c, e = .returned (.tuple #[tbV l co cn cc (ky : Nat) only ro rn rc, .slice (some ⟨g, 0, none⟩) x.length c, .int .i64 0]) ∧ IsRR EV w' B ro rn rc rsT ∧ OwnR EV w' 55 g x.length c x ∧ w.heap.size ≤ g) ∧
  Below w.heap.size w w'
set_option maxRecDepth 100000 in
set_option maxHeartbeats 4000000 in
theorem rtake_any (w : World) (l : List UInt8) (co : Option Addr) (cn cc : Nat) (ky : Nat) (only : Bool) (ro : Option Addr) (rn rc : Nat) (B : Nat) (hBw : B ≤ w.heap.size) (rs : List (List V)) (h : IsRR EV w B ro rn rc rs) (v : V) (hv : Val v.k v.n v.s) (hV : ∀ r ∈ rs, ky < r.length ∧ Val (kOf ky r).k (kOf ky r).n (kOf ky r).s) (hn : rn ≤ 300) (hrl : ∀ r ∈ rs, r.length ≤ 100) :
    Calls Try.prog 24 #[tbV l co cn cc (ky : Nat) only ro rn rc, vv v.k v.n v.s] w (RTakeIs w B l co cn cc ky only (hasN ky v rs) rs[atN ky v rs]? rs (takeN ky v rs)) := by
  have hrln := h.len
  have hNle := at_le ky v rs
  have hGt0 := fun (w' : World) (hb : Below w.heap.size w w') => rget_any w' l co cn cc ky only ro rn rc B rs (h.past hb) v hv hV (by omega) (fun r hr => by have := hrl r hr; omega)
  have hAt0 := fun (w' : World) (hb : Below w.heap.size w w') => rat_any w' l co cn cc ky only ro rn rc B rs (h.past hb) v hv hV (by omega)
  have hget := fun (hh : hasN ky v rs = true) => hasN_at hh
  have hltN := fun (hh : hasN ky v rs = true) => has_lt hh
  have hTK : takeN ky v rs = rs.take (atN ky v rs) ++ rs.drop (atN ky v rs + 1) := rfl
  obtain ⟨N, hN⟩ : ∃ N, atN ky v rs = N := ⟨_, rfl⟩
  obtain ⟨tk, htk⟩ : ∃ tk, hasN ky v rs = tk := ⟨_, rfl⟩
  obtain ⟨rsT, hrsT⟩ : ∃ z_, takeN ky v rs = z_ := ⟨_, rfl⟩
  simp only [hN, htk, hrsT] at hGt0 hAt0 hNle hget hltN hTK ⊢
  have HTK := Lib.hid hTK
  clear hN htk hrsT hTK
  obtain ⟨k, m, s⟩ := v
  simp only at hGt0 hAt0 hv ⊢
  have hB : Below w.heap.size w (((w.alloc (.cells #[.string (bsOf l), .slice co cn cc, .int .i64 (ky : Nat), .bool only, .slice ro rn rc] 48)).alloc (.cells #[.int .i64 k, .int .i64 m, .string s] 55)).alloc (.cells #[.string ⟨#[]⟩, .slice none 0 0, .int .i64 0, .bool false, .slice none 0 0] 48)) := (((Below.refl _ _).alloc (Nat.le_refl _) _).alloc (by simp) _).alloc (by simp; omega) _
  have hT : Bk (((w.alloc (.cells #[.string (bsOf l), .slice co cn cc, .int .i64 (ky : Nat), .bool only, .slice ro rn rc] 48)).alloc (.cells #[.int .i64 k, .int .i64 m, .string s] 55)).alloc (.cells #[.string ⟨#[]⟩, .slice none 0 0, .int .i64 0, .bool false, .slice none 0 0] 48)) w.heap.size (tbC l co cn cc (ky : Nat) only ro rn rc) 48 := ((Bk.new w _ _).alloc _).alloc _
  have hVa : VAt (((w.alloc (.cells #[.string (bsOf l), .slice co cn cc, .int .i64 (ky : Nat), .bool only, .slice ro rn rc] 48)).alloc (.cells #[.int .i64 k, .int .i64 m, .string s] 55)).alloc (.cells #[.string ⟨#[]⟩, .slice none 0 0, .int .i64 0, .bool false, .slice none 0 0] 48)) (w.heap.size + 1) k m s := by
    have := (VAt.new (w.alloc (.cells #[.string (bsOf l), .slice co cn cc, .int .i64 (ky : Nat), .bool only, .slice ro rn rc] 48)) k m s).alloc (.cells #[.string ⟨#[]⟩, .slice none 0 0, .int .i64 0, .bool false, .slice none 0 0] 48)
    rwa [World.size_alloc] at this
  have hRr : Bk (((w.alloc (.cells #[.string (bsOf l), .slice co cn cc, .int .i64 (ky : Nat), .bool only, .slice ro rn rc] 48)).alloc (.cells #[.int .i64 k, .int .i64 m, .string s] 55)).alloc (.cells #[.string ⟨#[]⟩, .slice none 0 0, .int .i64 0, .bool false, .slice none 0 0] 48)) (w.heap.size + 1 + 1) (tbC [] none 0 0 0 false none 0 0) 48 := by
    have := Bk.new ((w.alloc (.cells #[.string (bsOf l), .slice co cn cc, .int .i64 (ky : Nat), .bool only, .slice ro rn rc] 48)).alloc (.cells #[.int .i64 k, .int .i64 m, .string s] 55)) #[.string ⟨#[]⟩, .slice none 0 0, .int .i64 0, .bool false, .slice none 0 0] 48
    rwa [World.size_alloc, World.size_alloc] at this
  unfold tbV at hGt0 hAt0 ⊢
  go_enter Try.func24, Try.ntmps24
  go_upto_region 1 with fail
  generalize ((w.alloc (.cells #[.string (bsOf l), .slice co cn cc, .int .i64 (ky : Nat), .bool only, .slice ro rn rc] 48)).alloc (.cells #[.int .i64 k, .int .i64 m, .string s] 55)).alloc (.cells #[.string ⟨#[]⟩, .slice none 0 0, .int .i64 0, .bool false, .slice none 0 0] 48) = W at hB hT hVa hRr ⊢
  obtain ⟨p, hp⟩ : ∃ p, w.heap.size = p := ⟨_, rfl⟩
  obtain ⟨q, hq⟩ : ∃ q, p + 1 = q := ⟨_, rfl⟩
  obtain ⟨r, hr⟩ : ∃ r, q + 1 = r := ⟨_, rfl⟩
  have hwp := Lib.hid hp
  simp only [hp, hq, hr] at hT hVa hRr ⊢
  have hpr2 : p < r := by omega
  have hrp : p ≠ r := by omega
  have hwr : w.heap.size ≤ r := by omega
  clear hp hq hr
  obtain ⟨t0, t1, t2, t3, t4⟩ := tb_cells hT
  obtain ⟨g0, g1, g2, -, -, -, -⟩ := id hVa
  have HG := hGt0 W hB
  have HGI := Lib.hid HG
  clear HG hGt0
  cases tk with
  | false =>
    have HG : Calls Try.prog 27 #[.agg #[.string (bsOf l), .slice co cn cc, .int .i64 (ky : Nat), .bool only, .slice ro rn rc], vv k m s] W fun e w' => e = .returned (.tuple #[.slice none 0 0, .bool false]) ∧ Below W.heap.size W w' := HGI.out.mono fun e w' ⟨h1, _, h3⟩ => ⟨h1 rfl, h3⟩
    clear HGI
    go_upto_region 3 with (go_at_call 27; refine HG.mono ?_; rintro e w1 ⟨rfl, b1⟩)
    have B1 := hB.trans (b1.mono hB.size)
    have hT1 := hT.past b1
    have hR1 := hRr.past b1
    have hR1h := Lib.hid (show w1.heap[r]? = some (.cells (tbC [] none 0 0 0 false none 0 0) 48 (0, 0)) from hR1)
    clear t0 t1 t2 t3 t4
    obtain ⟨t0, t1, t2, t3, t4⟩ := tb_cells hT1
    go_wp2_with ((with_reducible refine wpList_store_blk (o := ⟨none, _, _, _, _, _⟩) rfl 48 (.tmp 4) (.tmp 19) rfl r _ (tbC l co cn cc (ky : Nat) only ro rn rc) ?_ ?_ _ hR1h 5 szRT (tbC_size ..) (tbC_size ..) (tbC_all ..) ?_); (rfl); (rfl); (intro w6 h6 g6))
    have hR6 : Bk w6 r (tbC l co cn cc (ky : Nat) only ro rn rc) 48 := h6.out
    obtain ⟨r0, r1, r2, r3, r4⟩ := tb_cells hR6
    refine bodyPost_ret (v := .tuple #[tbV l co cn cc (ky : Nat) only ro rn rc, .slice none 0 0, .int .i64 2]) (by simp [results, Try.results24, go_sem, tbV, r0, r1, r2, r3, r4]) rfl ?_
    have BF : Below w.heap.size w w6 := B1.grown g6 B1.size (fun z hz => by cases hz; exact hwr)
    exact ⟨fun _ => ⟨ro, rn, rc, rfl, h.past BF⟩, (fun x hx => by cases hx), BF⟩
  | true =>
    obtain ⟨rx, hrx⟩ := hget rfl
    have hNr := hltN rfl
    have HX := Lib.hid hrx
    obtain ⟨xn, hxn⟩ : ∃ z_, rx.length = z_ := ⟨_, rfl⟩
    have HG : Calls Try.prog 27 #[.agg #[.string (bsOf l), .slice co cn cc, .int .i64 (ky : Nat), .bool only, .slice ro rn rc], vv k m s] W fun e w' => ∃ g c, e = .returned (.tuple #[.slice (some ⟨g, 0, none⟩) xn c, .bool true]) ∧ OwnR EV w' 55 g xn c rx ∧ W.heap.size ≤ g ∧ Below W.heap.size W w' := HGI.out.mono fun e w' ⟨_, h2, h3⟩ => by
      obtain ⟨g, c, h4, h5, h6⟩ := h2 rx rfl hrx
      rw [hxn] at h4 h5
      exact ⟨g, c, h4, h5, h6, h3⟩
    have HXN := Lib.hid hxn
    clear HGI hget hltN hrx hxn
    go_upto_region 4 with (go_at_call 27; refine HG.mono ?_; rintro e w1 ⟨gx, cx, rfl, oX1, hgx, b1⟩)
    have B1 := hB.trans (b1.mono hB.size)
    have hT1 := hT.past b1
    have hR1 := hRr.past b1
    have hV1 := hVa.past b1
    clear t0 t1 t2 t3 t4 g0 g1 g2
    obtain ⟨t0, t1, t2, t3, t4⟩ := tb_cells hT1
    obtain ⟨g0, g1, g2, -, -, -, -⟩ := id hV1
    have HAt := hAt0 w1 B1
    clear hAt0
    go_upto_region 5 with (go_at_call 82; refine HAt.mono ?_; rintro e X ⟨rfl, b2⟩)
    have BX := B1.trans (b2.mono B1.size)
    have hTX := hT1.past b2
    have hRX := hR1.past b2
    have oXX := oX1.past b2
    have hgx1 : p < gx ∧ r < gx := ⟨Nat.lt_of_lt_of_le hT.lt hgx, Nat.lt_of_lt_of_le hRr.lt hgx⟩
    have hgxX : gx < X.heap.size := Nat.lt_of_lt_of_le oX1.lt b2.size
    clear t0 t1 t2 t3 t4 g0 g1 g2 HAt
    obtain ⟨t0, t1, t2, t3, t4⟩ := tb_cells hTX
    have f4 : X.frozen? ⟨p, 4, none⟩ = false := free_blk hTX
    have hpX := hTX.lt
    obtain ⟨hs, hhs, hRd, hfr, hfrH⟩ := id h
    have hhX := hhs.past BX
    have hle := h.le'
    have hNi : (N : Int) ≤ (rc : Int) := by omega
    have hNi2 : (N : Int) ≤ (rn : Int) := by omega
    have hri : (rn : Int) ≤ (rc : Int) := by omega
    have o0 : OwnR EH (X.alloc (.cells #[] 49)) 49 X.heap.size 0 0 [] := own_emptyR X _
    have hs1 := ((isR_front hhX N (by omega)).alloc (.cells #[] 49)).src Try.underlying45
    have hl1 : (hs.take N).length = N := by rw [List.length_take]; have := hhs.len; omega
    go_upto_region 6 with (at_builtin; refine wpList_append_or rfl _ _ 45 45 rfl 49 rowTyH X.heap.size 0 0 [] rfl o0 _ rfl N (hs.take N) hs1 hl1 N (Nat.zero_add N) (hs.take N) rfl (by omega) ?_; intro g1 c1 w4 o1 p1 q1)
    have b4 := below_puts (Below.refl _ X) p1 (Nat.le_refl _)
    have q1' := ge_new q1
    clear t0 t1 t2 t3 t4 o0 hs1 f4 hNi hNi2
    have hT6 := hTX.past b4
    have hh6 : IsR EH w4 (if rc = N + 1 then ro else Option.map (fun x => x.add (N + 1)) ro) (rn - (N + 1)) (rc - (N + 1)) (hs.drop (N + 1)) := by
      have := (hhX.past b4).part (N + 1) rn rc (by omega) (Nat.le_refl _) hle (Nat.le_refl _)
      rw [List.take_of_length_le (by rw [List.length_drop]; have := hhs.len; omega)] at this
      simpa [EH] using this
    have hl6 : (hs.drop (N + 1)).length = rn - (N + 1) := by rw [List.length_drop]; have := hhs.len; omega
    have hs6 := hh6.src (P := Try.prog) (t := 45) Try.underlying45
    obtain ⟨t0, t1, t2, t3, t4⟩ := tb_cells hT6
    have f4 : w4.frozen? ⟨p, 4, none⟩ = false := free_blk hT6
    obtain ⟨M, hM⟩ : ∃ M, N + 1 = M := ⟨_, rfl⟩
    have hMn : ((N : Int) + 1) = (M : Int) := by omega
    have hMr : (M : Int) ≤ (rn : Int) := by omega
    have hMc : (M : Int) ≤ (rc : Int) := by omega
    have hN1 : N + (rn - M) = rn - 1 := by omega
    obtain ⟨R2, hR2⟩ : ∃ R2, rn - 1 = R2 := ⟨_, rfl⟩
    rw [hR2] at hN1
    simp only [hM] at hh6 hl6 hs6
    have hpW6 := hT6.lt
    go_upto_region 7 with (at_builtin; refine wpList_append_or rfl _ _ 45 45 rfl 49 rowTyH g1 N c1 _ rfl o1 _ rfl (rn - M) (hs.drop M) hs6 hl6 R2 hN1 _ rfl (by omega) ?_; intro g4 c4 w7 o4 p4 q4; have b7 : Below X.heap.size w4 w7 := p4.below q1' b4.size; have hT7 := hTX.past (b4.trans b7); have hpp : p < X.heap.size := hTX.lt; obtain ⟨t0, t1, t2, t3, t4⟩ := tb_cells hT7; have f4 : w7.frozen? ⟨p, 4, none⟩ = false := free_blk hT7; have q4' : X.heap.size ≤ g4 := (by rcases q4 with q | q; rw [q]; exact q1'; have := b4.size; omega))
    all_goals
      have bX7 := b4.trans b7
      have oX7 := oXX.past bX7
      have hT8 : Bk (w7.setCell ⟨p, 4, none⟩ (.slice (some ⟨g4, 0, none⟩) R2 c4)) p (tbC l co cn cc (ky : Nat) only (some ⟨g4, 0, none⟩) R2 c4) 48 := heap_setCell_same (i := 4) hT7
      have hR8 : Bk (w7.setCell ⟨p, 4, none⟩ (.slice (some ⟨g4, 0, none⟩) R2 c4)) r (tbC [] none 0 0 0 false none 0 0) 48 := (heap_setCell_other _ _ r _ (fun e => hrp e.symm)).trans (hRX.past bX7)
      have B8 : Below p w (w7.setCell ⟨p, 4, none⟩ (.slice (some ⟨g4, 0, none⟩) R2 c4)) := by
        have := (BX.trans (bX7.mono BX.size))
        rw [hwp.out] at this
        exact this.setCell (p := ⟨p, 4, none⟩) (Nat.le_refl _) _
      have o48 : OwnR EH (w7.setCell ⟨p, 4, none⟩ (.slice (some ⟨g4, 0, none⟩) R2 c4)) 49 g4 R2 c4 (hs.take N ++ hs.drop M) := o4.kept (heap_setCell_other _ _ g4 _ (fun e => by simp only at e; omega))
      have oX8 : OwnR EV (w7.setCell ⟨p, 4, none⟩ (.slice (some ⟨g4, 0, none⟩) R2 c4)) 55 gx xn cx rx := oX7.kept (heap_setCell_other _ _ gx _ (fun e => by simp only at e; omega))
      generalize w7.setCell ⟨p, 4, none⟩ (.slice (some ⟨g4, 0, none⟩) R2 c4) = w8 at hT8 hR8 B8 o48 oX8 ⊢
      clear t0 t1 t2 t3 t4
      obtain ⟨t0, t1, t2, t3, t4⟩ := tb_cells hT8
      have hR8h := Lib.hid (show w8.heap[r]? = some (.cells (tbC [] none 0 0 0 false none 0 0) 48 (0, 0)) from hR8)
      go_wp2_with ((with_reducible refine wpList_store_blk (o := ⟨none, _, _, _, _, _⟩) rfl 48 (.tmp 4) (.tmp 37) rfl r _ (tbC l co cn cc (ky : Nat) only (some ⟨g4, 0, none⟩) R2 c4) ?_ ?_ _ hR8h 5 szRT (tbC_size ..) (tbC_size ..) (tbC_all ..) ?_); (rfl); (rfl); (intro w9 h9 g9))
      all_goals
        have hR9 : Bk w9 r (tbC l co cn cc (ky : Nat) only (some ⟨g4, 0, none⟩) R2 c4) 48 := h9.out
        obtain ⟨r0, r1, r2, r3, r4⟩ := tb_cells hR9
        refine bodyPost_ret (v := .tuple #[tbV l co cn cc (ky : Nat) only (some ⟨g4, 0, none⟩) R2 c4, .slice (some ⟨gx, 0, none⟩) xn cx, .int .i64 0]) (by simp [results, Try.results24, go_sem, tbV, r0, r1, r2, r3, r4]) rfl ?_
        have hpw8 : p ≤ w8.heap.size := Nat.le_of_lt hT8.lt
        have BE : Below w.heap.size w w9 := by rw [hwp.out]; exact B8.grown g9 hpw8 (fun z hz => by cases hz; exact Nat.le_of_lt (hpr2))
        have oX9 := oX8.grown g9 (fun e => by have := Option.some.inj e; omega)
        have hRd9 := hRd.past BE
        refine ⟨(fun q => by cases q), fun x _ hx => ?_, BE⟩
        obtain rfl := Option.some.inj (HX.out.symm.trans hx)
        rw [HXN.out]
        refine ⟨some ⟨g4, 0, none⟩, R2, c4, gx, cx, rfl, ⟨_, (o48.grown g9 (fun e => by have := Option.some.inj e; have := hRX.lt; omega)).isR, ?_, (fun a ha => ?_ : Frm B _), (fun y hy a ha => ?_ : FrmH B _)⟩, oX9, by have := hB.size; omega⟩
        · rw [HTK.out, hM]
          exact (hRd9.take N).append (hRd9.drop M)
        · cases ha
          show B ≤ g4
          have := BX.size
          omega
        · rcases List.mem_append.1 hy with hy | hy
          · exact hfrH y (List.mem_of_mem_take hy) a ha
          · exact hfrH y (List.mem_of_mem_drop hy) a ha
end Go.Proofs.Ytllijeciodmckaa
namespace Go.Proofs.Ytllijeciodmckaa
open Go.RowKit
set_option linter.unusedSimpArgs false
set_option maxRecDepth 100000 in
set_option maxHeartbeats 2000000 in
/-- Two readings of one schema are the same. -/
theorem rsame9_any (w : World) (l : List UInt8) (co : Option Addr) (cn cc : Nat) (ky : Int) (only : Bool) (cs : List Co) (co' : Option Addr) (cc' : Nat) (h1 : IsR encCo w co cn cc cs) (h2 : IsR encCo w co' cn cc' cs) :
    Calls Try.prog 88 #[scV l co cn cc ky only, scV l co' cn cc' ky only] w (Told w true) := by
  unfold scV
  have X0 : Bk (w.alloc (.cells #[.string (bsOf l), .slice co cn cc, .int .i64 ky, .bool only] 40)) w.heap.size (scC l co cn cc ky only) 40 := Bk.new w _ _
  have Y0 : Bk ((w.alloc (.cells #[.string (bsOf l), .slice co cn cc, .int .i64 ky, .bool only] 40)).alloc (.cells #[.string (bsOf l), .slice co' cn cc', .int .i64 ky, .bool only] 40)) (w.heap.size + 1) (scC l co' cn cc' ky only) 40 := by
    have := Bk.new (w.alloc (.cells #[.string (bsOf l), .slice co cn cc, .int .i64 ky, .bool only] 40)) (scC l co' cn cc' ky only) 40
    rwa [World.size_alloc] at this
  have X1 := X0.alloc (.cells #[.string (bsOf l), .slice co' cn cc', .int .i64 ky, .bool only] 40)
  have BA : Below w.heap.size w ((w.alloc (.cells #[.string (bsOf l), .slice co cn cc, .int .i64 ky, .bool only] 40)).alloc (.cells #[.string (bsOf l), .slice co' cn cc', .int .i64 ky, .bool only] 40)) := ((Below.refl _ _).alloc (Nat.le_refl _) _).alloc (by simp) _
  have e1 := h1.len
  have hm1 := h1.max
  have hm2 := h1.le
  have hm3 := h2.le
  have hm4 := h2.max
  unfold maxLen at hm1 hm4
  have n1 : ((cn : Int) != (cn : Int)) = false := by simp
  have n2 : (ky != ky) = false := by simp
  have n3 : (only != only) = false := by simp
  have n4 : ((bsOf l).toList != (bsOf l).toList) = false := by simp
  have n5 : ((bsOf l).toList == (bsOf l).toList) = true := by simp
  have h1 := h1.past BA
  have h2 := h2.past BA
  clear X0
  go_enter Try.func88, Try.ntmps88
  go_upto_region 1 with fail
  generalize (w.alloc (.cells #[.string (bsOf l), .slice co cn cc, .int .i64 ky, .bool only] 40)).alloc (.cells #[.string (bsOf l), .slice co' cn cc', .int .i64 ky, .bool only] 40) = W at X1 Y0 BA h1 h2 ⊢
  obtain ⟨p, hp⟩ : ∃ z_, w.heap.size = z_ := ⟨_, rfl⟩
  obtain ⟨q, hq⟩ : ∃ z_, p + 1 = z_ := ⟨_, rfl⟩
  have HP := Lib.hid hp
  rw [hp] at X1 Y0
  rw [hq] at Y0
  simp only [hp, hq]
  clear hp hq
  have BU0 : Below W.heap.size W W := Below.refl _ _
  obtain ⟨c0, c1, c2, c3⟩ := sc_cells X1
  obtain ⟨d0, d1, d2, d3⟩ := sc_cells Y0
  go_wp2_with fail
  go_loopw [5] (fun zs wr => ∃ j : Nat, j ≤ cn ∧ zs = .int .i64 (j : Nat) ∧ Below W.heap.size W wr) (fun zs _ => cn - (intOf zs).toNat)
  case atStart => exact ⟨0, by omega, rfl, BU0⟩
  case round =>
    clear BU0
    obtain ⟨j, hj, rfl, BU⟩ := hrel
    obtain ⟨c0, c1, c2, c3⟩ := sc_cells (X1.past BU)
    obtain ⟨d0, d1, d2, d3⟩ := sc_cells (Y0.past BU)
    by_cases hlt : j < cn
    · have hlti : (j : Int) < (cn : Int) := by omega
      obtain ⟨y, hy⟩ : ∃ v, cs[j]? = some v := ⟨cs[j]'(by omega), List.getElem?_eq_getElem _⟩
      obtain ⟨rb, roff, rfl, hrb, hrc⟩ := (h1.past BU).open (by omega) (by decide)
      obtain ⟨y0_, y1_, y2_⟩ := cells_co hrc j y hy
      obtain ⟨sb, soff, rfl, hsb, hsc⟩ := (h2.past BU).open (by omega) (by decide)
      obtain ⟨x0_, x1_, x2_⟩ := cells_co hsc j y hy
      clear hrc hsc hy
      obtain ⟨t, s, x⟩ := y
      simp only at y0_ y1_ y2_ x0_ x1_ x2_
      have f1 : ((bsOf t).toList == (bsOf t).toList) = true := by simp
      go_wp2_with fail
      go_region
      all_goals
        go_wp2_with fail
        go_roundw
        case rel => exact ⟨j + 1, by omega, by go_num, BU.drew⟩
        case measure => simp [intOf]; omega
    · have hlti : ¬ ((j : Int) < (cn : Int)) := by omega
      go_wp2_with fail
      go_ret
      exact ⟨rfl, BA.trans (BU.mono BA.size)⟩
/-- What stands while the region's operations come up. -/
inductive RSame106 (B : Nat) (p : Nat) (q : Nat) (b : Nat) (off : Nat) (rn : Nat) (rc : Nat) (b' : Nat) (off' : Nat) (rc' : Nat) (j : Nat) (za : Option Addr) (zn : Nat) (zc : Nat) (ya : Option Addr) (yn : Nat) (yc : Nat) (a0 : Act) (w0 : World) (L : Array Bool) (a : Act) (w : World) : Prop
  | mk (b0 b1 b2 b3 b4 b5 b6 b7 b8 b9 b10 b11 : Bool) (x28 x29 x30 x31 x32 x33 x34 x35 x36 x37 x38 x39 : Value) (hL : L = #[b0, b1, b2, b3, b4, b5, b6, b7, b8, b9, b10, b11]) (ha : a = ⟨((((((((((((a0.tmps.setIfInBounds 28 x28).setIfInBounds 29 x29).setIfInBounds 30 x30).setIfInBounds 31 x31).setIfInBounds 32 x32).setIfInBounds 33 x33).setIfInBounds 34 x34).setIfInBounds 35 x35).setIfInBounds 36 x36).setIfInBounds 37 x37).setIfInBounds 38 x38).setIfInBounds 39 x39), a0.defers⟩) (hb : Below B w0 w) (cd0 : Hid (b0 = true → x28 = .pointer (some ⟨p, 4, none⟩))) (cd1 : Hid (b1 = true → x29 = .slice (some ⟨b, off, none⟩) rn rc)) (cd2 : Hid (b2 = true → x30 = .int .i64 (j : Nat))) (cd3 : Hid (b3 = true → x31 = .pointer (some ⟨b, off + j, none⟩))) (cd4 : Hid (b4 = true → x32 = .slice za zn zc)) (cd5 : Hid (b5 = true → x33 = .pointer (some ⟨q, 4, none⟩))) (cd6 : Hid (b6 = true → x34 = .slice (some ⟨b', off', none⟩) rn rc')) (cd7 : Hid (b7 = true → x35 = .int .i64 (j : Nat))) (cd8 : Hid (b8 = true → x36 = .pointer (some ⟨b', off' + j, none⟩))) (cd9 : Hid (b9 = true → x37 = .slice ya yn yc)) (cd10 : Hid (b10 = true → x38 = .bool true)) (cd11 : Hid (b11 = true → x39 = .bool false)) : RSame106 B p q b off rn rc b' off' rc' j za zn zc ya yn yc a0 w0 L a w
set_option maxRecDepth 100000 in
set_option maxHeartbeats 2000000 in
/-- Two readings of one table are the same. -/
theorem rsame10_any (w : World) (l : List UInt8) (co : Option Addr) (cn cc : Nat) (ky : Nat) (only : Bool) (cs : List Co) (co' : Option Addr) (cc' : Nat) (h1 : IsR encCo w co cn cc cs) (h2 : IsR encCo w co' cn cc' cs) (B B' : Nat) (ro : Option Addr) (rn rc : Nat) (ro' : Option Addr) (rc' : Nat) (rs : List (List V)) (hr1 : IsRR EV w B ro rn rc rs) (hr2 : IsRR EV w B' ro' rn rc' rs) (hn : rn ≤ 1000) :
    Calls Try.prog 29 #[tbV l co cn cc (ky : Nat) only ro rn rc, tbV l co' cn cc' (ky : Nat) only ro' rn rc'] w (Told w true) := by
  unfold tbV
  have X0 : Bk (w.alloc (.cells #[.string (bsOf l), .slice co cn cc, .int .i64 (ky : Nat), .bool only, .slice ro rn rc] 48)) w.heap.size (tbC l co cn cc (ky : Nat) only ro rn rc) 48 := Bk.new w _ _
  have Y0 : Bk ((w.alloc (.cells #[.string (bsOf l), .slice co cn cc, .int .i64 (ky : Nat), .bool only, .slice ro rn rc] 48)).alloc (.cells #[.string (bsOf l), .slice co' cn cc', .int .i64 (ky : Nat), .bool only, .slice ro' rn rc'] 48)) (w.heap.size + 1) (tbC l co' cn cc' (ky : Nat) only ro' rn rc') 48 := by
    have := Bk.new (w.alloc (.cells #[.string (bsOf l), .slice co cn cc, .int .i64 (ky : Nat), .bool only, .slice ro rn rc] 48)) (tbC l co' cn cc' (ky : Nat) only ro' rn rc') 48
    rwa [World.size_alloc] at this
  have X1 := X0.alloc (.cells #[.string (bsOf l), .slice co' cn cc', .int .i64 (ky : Nat), .bool only, .slice ro' rn rc'] 48)
  have BA : Below w.heap.size w ((w.alloc (.cells #[.string (bsOf l), .slice co cn cc, .int .i64 (ky : Nat), .bool only, .slice ro rn rc] 48)).alloc (.cells #[.string (bsOf l), .slice co' cn cc', .int .i64 (ky : Nat), .bool only, .slice ro' rn rc'] 48)) := ((Below.refl _ _).alloc (Nat.le_refl _) _).alloc (by simp) _
  have e1 := hr1.len
  have n1 : ((rn : Int) != (rn : Int)) = false := by simp
  have h1 := h1.past BA
  have h2 := h2.past BA
  have hr1 := hr1.past BA
  have hr2 := hr2.past BA
  clear X0
  go_enter Try.func29, Try.ntmps29
  go_upto_region 1 with fail
  generalize (w.alloc (.cells #[.string (bsOf l), .slice co cn cc, .int .i64 (ky : Nat), .bool only, .slice ro rn rc] 48)).alloc (.cells #[.string (bsOf l), .slice co' cn cc', .int .i64 (ky : Nat), .bool only, .slice ro' rn rc'] 48) = U at X1 Y0 BA h1 h2 hr1 hr2 ⊢
  obtain ⟨p, hp⟩ : ∃ z_, w.heap.size = z_ := ⟨_, rfl⟩
  obtain ⟨q, hq⟩ : ∃ z_, p + 1 = z_ := ⟨_, rfl⟩
  have HP := Lib.hid hp
  rw [hp] at X1 Y0
  rw [hq] at Y0
  simp only [hp, hq]
  clear hp hq
  obtain ⟨c0, c1, c2, c3, c4⟩ := tb_cells X1
  obtain ⟨d0, d1, d2, d3, d4⟩ := tb_cells Y0
  have HS9 := rsame9_any U l co cn cc (ky : Nat) only cs co' cc' h1 h2
  unfold scV at HS9
  have hpU := X1.lt
  have hqU := Y0.lt
  go_upto_region 3 with (go_at_call 88; refine HS9.mono ?_; rintro e W ⟨rfl, b1⟩; have c4' := (b1.cell hpU).trans c4; have d4' := (b1.cell hqU).trans d4)
  have BA := BA.trans (b1.mono BA.size)
  have X1 := X1.past b1
  have Y0 := Y0.past b1
  have hr1 := hr1.past b1
  have hr2 := hr2.past b1
  clear c0 c1 c2 c3 c4 d0 d1 d2 d3 d4 c4' d4' hpU hqU b1 HS9 h1 h2
  have BU0 : Below W.heap.size W W := Below.refl _ _
  go_wp2_with fail
  go_loopw [5] (fun zs wr => ∃ j : Nat, j ≤ rn ∧ zs = .int .i64 (j : Nat) ∧ Below W.heap.size W wr) (fun zs _ => rn - (intOf zs).toNat)
  case atStart => exact ⟨0, by omega, rfl, BU0⟩
  case round =>
    clear BU0
    obtain ⟨j, hj, rfl, BU⟩ := hrel
    obtain ⟨-, -, -, -, c4⟩ := tb_cells (X1.past BU)
    obtain ⟨-, -, -, -, d4⟩ := tb_cells (Y0.past BU)
    by_cases hlt : j < rn
    · have hlti : (j : Int) < (rn : Int) := by omega
      obtain ⟨r, hr⟩ : ∃ r, rs[j]? = some r := ⟨rs[j]'(by omega), List.getElem?_eq_getElem _⟩
      obtain ⟨b, off, x, rfl, hbx, hc1, hx⟩ := (hr1.past BU).at hr
      obtain ⟨b', off', y, rfl, hby, hc2, hy⟩ := (hr2.past BU).at hr
      obtain ⟨za, zn, zc⟩ := x
      obtain ⟨ya, yn, yc⟩ := y
      simp only at hc1 hx hc2 hy
      have hbB := hbx
      have hbB' := hby
      have hpB := (X1.past BU).lt
      have hqB := (Y0.past BU).lt
      have HS0 : ∀ w', Below wr.heap.size wr.drew w' → Calls Try.prog 25 #[.slice za zn zc, .slice ya yn yc] w' fun e w'' => e = .returned (.bool true) ∧ Below w'.heap.size w' w'' := fun w' hb => by
        have bq := (Below.refl _ _).drew.trans hb
        have := rsame_any za zn zc r ya yn yc r w' (hx.past bq) (hy.past bq)
        rwa [(eqVs_iff r r).2 rfl] at this
      have HS := HS0
      have hB0 : wr.heap.size ≤ wr.heap.size := Nat.le_refl _
      clear HS0 hx hy hr hbx hby
      go_upto_region 6 with fail
      refine region_inv (RSame106 wr.heap.size p q b off rn rc b' off' rc' j za zn zc ya yn yc) (by kernel_rfl) (by kernel_rfl) ?_ ?_ ?_
      · exact ⟨false, false, false, false, false, false, false, false, false, false, false, false, u28, u29, u30, u31, u32, u33, u34, u35, u36, u37, u38, u39, rfl, (by simp only [Act.put, List.setIfInBounds_toArray, List.set_cons_zero, List.set_cons_succ]), Below.refl _ _, (fun h => by cases h), (fun h => by cases h), (fun h => by cases h), (fun h => by cases h), (fun h => by cases h), (fun h => by cases h), (fun h => by cases h), (fun h => by cases h), (fun h => by cases h), (fun h => by cases h), (fun h => by cases h), (fun h => by cases h)⟩
      · refine ⟨?_, ?_, ?_, ?_, ?_, ?_, ?_, ?_, ?_, ?_, ?_, ?_, trivial⟩
        · rintro L a w ⟨b0, b1, b2, b3, b4, b5, b6, b7, b8, b9, b10, b11, x28, x29, x30, x31, x32, x33, x34, x35, x36, x37, x38, x39, rfl, rfl, hb, cd0, cd1, cd2, cd3, cd4, cd5, cd6, cd7, cd8, cd9, cd10, cd11⟩ hf hd
          have hf' : b0 = false := hf
          subst hf'
          clear hf hd
          try simp only [List.setIfInBounds_toArray, List.set_cons_zero, List.set_cons_succ]
          intro K hK
          rw [if_pos (by rfl)]
          go_simp
          exact hK.out _ _ ⟨true, b1, b2, b3, b4, b5, b6, b7, b8, b9, b10, b11, (.pointer (some ⟨p, 4, none⟩)), x29, x30, x31, x32, x33, x34, x35, x36, x37, x38, x39, (by simp only [Act.put, List.setIfInBounds_toArray, List.set_cons_zero, List.set_cons_succ]), (by simp only [Act.put, List.setIfInBounds_toArray, List.set_cons_zero, List.set_cons_succ]), hb, (fun _ => rfl), cd1, cd2, cd3, cd4, cd5, cd6, cd7, cd8, cd9, cd10, cd11⟩
        · rintro L a w ⟨b0, b1, b2, b3, b4, b5, b6, b7, b8, b9, b10, b11, x28, x29, x30, x31, x32, x33, x34, x35, x36, x37, x38, x39, rfl, rfl, hb, cd0, cd1, cd2, cd3, cd4, cd5, cd6, cd7, cd8, cd9, cd10, cd11⟩ hf hd
          have hf' : b1 = false := hf
          subst hf'
          have d0 : b0 = true := hd ⟨0, .data⟩ (by simp) rfl
          subst d0
          obtain rfl := cd0.out rfl
          clear hf hd
          try simp only [List.setIfInBounds_toArray, List.set_cons_zero, List.set_cons_succ]
          have z0 := (hb.cell hpB).trans c4
          intro K hK
          rw [if_pos (by rfl)]
          go_simp
          exact hK.out _ _ ⟨true, true, b2, b3, b4, b5, b6, b7, b8, b9, b10, b11, .pointer (some ⟨p, 4, none⟩), (.slice (some ⟨b, off, none⟩) rn rc), x30, x31, x32, x33, x34, x35, x36, x37, x38, x39, (by simp only [Act.put, List.setIfInBounds_toArray, List.set_cons_zero, List.set_cons_succ]), (by simp only [Act.put, List.setIfInBounds_toArray, List.set_cons_zero, List.set_cons_succ]), hb, (fun _ => rfl), (fun _ => rfl), cd2, cd3, cd4, cd5, cd6, cd7, cd8, cd9, cd10, cd11⟩
        · rintro L a w ⟨b0, b1, b2, b3, b4, b5, b6, b7, b8, b9, b10, b11, x28, x29, x30, x31, x32, x33, x34, x35, x36, x37, x38, x39, rfl, rfl, hb, cd0, cd1, cd2, cd3, cd4, cd5, cd6, cd7, cd8, cd9, cd10, cd11⟩ hf hd
          have hf' : b2 = false := hf
          subst hf'
          clear hf hd
          try simp only [List.setIfInBounds_toArray, List.set_cons_zero, List.set_cons_succ]
          intro K hK
          rw [if_pos (by rfl)]
          go_simp
          exact hK.out _ _ ⟨b0, b1, true, b3, b4, b5, b6, b7, b8, b9, b10, b11, x28, x29, (.int .i64 (j : Nat)), x31, x32, x33, x34, x35, x36, x37, x38, x39, (by simp only [Act.put, List.setIfInBounds_toArray, List.set_cons_zero, List.set_cons_succ]), (by simp only [Act.put, List.setIfInBounds_toArray, List.set_cons_zero, List.set_cons_succ]), hb, cd0, cd1, (fun _ => rfl), cd3, cd4, cd5, cd6, cd7, cd8, cd9, cd10, cd11⟩
        · rintro L a w ⟨b0, b1, b2, b3, b4, b5, b6, b7, b8, b9, b10, b11, x28, x29, x30, x31, x32, x33, x34, x35, x36, x37, x38, x39, rfl, rfl, hb, cd0, cd1, cd2, cd3, cd4, cd5, cd6, cd7, cd8, cd9, cd10, cd11⟩ hf hd
          have hf' : b3 = false := hf
          subst hf'
          have d1 : b1 = true := hd ⟨1, .data⟩ (by simp) rfl
          subst d1
          have d2 : b2 = true := hd ⟨2, .data⟩ (by simp) rfl
          subst d2
          obtain rfl := cd1.out rfl
          obtain rfl := cd2.out rfl
          clear hf hd
          try simp only [List.setIfInBounds_toArray, List.set_cons_zero, List.set_cons_succ]
          intro K hK
          rw [if_pos (by rfl)]
          go_simp
          exact hK.out _ _ ⟨b0, true, true, true, b4, b5, b6, b7, b8, b9, b10, b11, x28, .slice (some ⟨b, off, none⟩) rn rc, .int .i64 (j : Nat), (.pointer (some ⟨b, off + j, none⟩)), x32, x33, x34, x35, x36, x37, x38, x39, (by simp only [Act.put, List.setIfInBounds_toArray, List.set_cons_zero, List.set_cons_succ]), (by simp only [Act.put, List.setIfInBounds_toArray, List.set_cons_zero, List.set_cons_succ]), hb, cd0, (fun _ => rfl), (fun _ => rfl), (fun _ => rfl), cd4, cd5, cd6, cd7, cd8, cd9, cd10, cd11⟩
        · rintro L a w ⟨b0, b1, b2, b3, b4, b5, b6, b7, b8, b9, b10, b11, x28, x29, x30, x31, x32, x33, x34, x35, x36, x37, x38, x39, rfl, rfl, hb, cd0, cd1, cd2, cd3, cd4, cd5, cd6, cd7, cd8, cd9, cd10, cd11⟩ hf hd
          have hf' : b4 = false := hf
          subst hf'
          have d3 : b3 = true := hd ⟨3, .data⟩ (by simp) rfl
          subst d3
          obtain rfl := cd3.out rfl
          clear hf hd
          try simp only [List.setIfInBounds_toArray, List.set_cons_zero, List.set_cons_succ]
          have z0 := (hb.cell hbB).trans hc1
          intro K hK
          rw [if_pos (by rfl)]
          go_simp
          exact hK.out _ _ ⟨b0, b1, b2, true, true, b5, b6, b7, b8, b9, b10, b11, x28, x29, x30, .pointer (some ⟨b, off + j, none⟩), (.slice za zn zc), x33, x34, x35, x36, x37, x38, x39, (by simp only [Act.put, List.setIfInBounds_toArray, List.set_cons_zero, List.set_cons_succ]), (by simp only [Act.put, List.setIfInBounds_toArray, List.set_cons_zero, List.set_cons_succ]), hb, cd0, cd1, cd2, (fun _ => rfl), (fun _ => rfl), cd5, cd6, cd7, cd8, cd9, cd10, cd11⟩
        · rintro L a w ⟨b0, b1, b2, b3, b4, b5, b6, b7, b8, b9, b10, b11, x28, x29, x30, x31, x32, x33, x34, x35, x36, x37, x38, x39, rfl, rfl, hb, cd0, cd1, cd2, cd3, cd4, cd5, cd6, cd7, cd8, cd9, cd10, cd11⟩ hf hd
          have hf' : b5 = false := hf
          subst hf'
          clear hf hd
          try simp only [List.setIfInBounds_toArray, List.set_cons_zero, List.set_cons_succ]
          intro K hK
          rw [if_pos (by rfl)]
          go_simp
          exact hK.out _ _ ⟨b0, b1, b2, b3, b4, true, b6, b7, b8, b9, b10, b11, x28, x29, x30, x31, x32, (.pointer (some ⟨q, 4, none⟩)), x34, x35, x36, x37, x38, x39, (by simp only [Act.put, List.setIfInBounds_toArray, List.set_cons_zero, List.set_cons_succ]), (by simp only [Act.put, List.setIfInBounds_toArray, List.set_cons_zero, List.set_cons_succ]), hb, cd0, cd1, cd2, cd3, cd4, (fun _ => rfl), cd6, cd7, cd8, cd9, cd10, cd11⟩
        · rintro L a w ⟨b0, b1, b2, b3, b4, b5, b6, b7, b8, b9, b10, b11, x28, x29, x30, x31, x32, x33, x34, x35, x36, x37, x38, x39, rfl, rfl, hb, cd0, cd1, cd2, cd3, cd4, cd5, cd6, cd7, cd8, cd9, cd10, cd11⟩ hf hd
          have hf' : b6 = false := hf
          subst hf'
          have d5 : b5 = true := hd ⟨5, .data⟩ (by simp) rfl
          subst d5
          obtain rfl := cd5.out rfl
          clear hf hd
          try simp only [List.setIfInBounds_toArray, List.set_cons_zero, List.set_cons_succ]
          have z0 := (hb.cell hqB).trans d4
          intro K hK
          rw [if_pos (by rfl)]
          go_simp
          exact hK.out _ _ ⟨b0, b1, b2, b3, b4, true, true, b7, b8, b9, b10, b11, x28, x29, x30, x31, x32, .pointer (some ⟨q, 4, none⟩), (.slice (some ⟨b', off', none⟩) rn rc'), x35, x36, x37, x38, x39, (by simp only [Act.put, List.setIfInBounds_toArray, List.set_cons_zero, List.set_cons_succ]), (by simp only [Act.put, List.setIfInBounds_toArray, List.set_cons_zero, List.set_cons_succ]), hb, cd0, cd1, cd2, cd3, cd4, (fun _ => rfl), (fun _ => rfl), cd7, cd8, cd9, cd10, cd11⟩
        · rintro L a w ⟨b0, b1, b2, b3, b4, b5, b6, b7, b8, b9, b10, b11, x28, x29, x30, x31, x32, x33, x34, x35, x36, x37, x38, x39, rfl, rfl, hb, cd0, cd1, cd2, cd3, cd4, cd5, cd6, cd7, cd8, cd9, cd10, cd11⟩ hf hd
          have hf' : b7 = false := hf
          subst hf'
          clear hf hd
          try simp only [List.setIfInBounds_toArray, List.set_cons_zero, List.set_cons_succ]
          intro K hK
          rw [if_pos (by rfl)]
          go_simp
          exact hK.out _ _ ⟨b0, b1, b2, b3, b4, b5, b6, true, b8, b9, b10, b11, x28, x29, x30, x31, x32, x33, x34, (.int .i64 (j : Nat)), x36, x37, x38, x39, (by simp only [Act.put, List.setIfInBounds_toArray, List.set_cons_zero, List.set_cons_succ]), (by simp only [Act.put, List.setIfInBounds_toArray, List.set_cons_zero, List.set_cons_succ]), hb, cd0, cd1, cd2, cd3, cd4, cd5, cd6, (fun _ => rfl), cd8, cd9, cd10, cd11⟩
        · rintro L a w ⟨b0, b1, b2, b3, b4, b5, b6, b7, b8, b9, b10, b11, x28, x29, x30, x31, x32, x33, x34, x35, x36, x37, x38, x39, rfl, rfl, hb, cd0, cd1, cd2, cd3, cd4, cd5, cd6, cd7, cd8, cd9, cd10, cd11⟩ hf hd
          have hf' : b8 = false := hf
          subst hf'
          have d6 : b6 = true := hd ⟨6, .data⟩ (by simp) rfl
          subst d6
          have d7 : b7 = true := hd ⟨7, .data⟩ (by simp) rfl
          subst d7
          obtain rfl := cd6.out rfl
          obtain rfl := cd7.out rfl
          clear hf hd
          try simp only [List.setIfInBounds_toArray, List.set_cons_zero, List.set_cons_succ]
          intro K hK
          rw [if_pos (by rfl)]
          go_simp
          exact hK.out _ _ ⟨b0, b1, b2, b3, b4, b5, true, true, true, b9, b10, b11, x28, x29, x30, x31, x32, x33, .slice (some ⟨b', off', none⟩) rn rc', .int .i64 (j : Nat), (.pointer (some ⟨b', off' + j, none⟩)), x37, x38, x39, (by simp only [Act.put, List.setIfInBounds_toArray, List.set_cons_zero, List.set_cons_succ]), (by simp only [Act.put, List.setIfInBounds_toArray, List.set_cons_zero, List.set_cons_succ]), hb, cd0, cd1, cd2, cd3, cd4, cd5, (fun _ => rfl), (fun _ => rfl), (fun _ => rfl), cd9, cd10, cd11⟩
        · rintro L a w ⟨b0, b1, b2, b3, b4, b5, b6, b7, b8, b9, b10, b11, x28, x29, x30, x31, x32, x33, x34, x35, x36, x37, x38, x39, rfl, rfl, hb, cd0, cd1, cd2, cd3, cd4, cd5, cd6, cd7, cd8, cd9, cd10, cd11⟩ hf hd
          have hf' : b9 = false := hf
          subst hf'
          have d8 : b8 = true := hd ⟨8, .data⟩ (by simp) rfl
          subst d8
          obtain rfl := cd8.out rfl
          clear hf hd
          try simp only [List.setIfInBounds_toArray, List.set_cons_zero, List.set_cons_succ]
          have z0 := (hb.cell hbB').trans hc2
          intro K hK
          rw [if_pos (by rfl)]
          go_simp
          exact hK.out _ _ ⟨b0, b1, b2, b3, b4, b5, b6, b7, true, true, b10, b11, x28, x29, x30, x31, x32, x33, x34, x35, .pointer (some ⟨b', off' + j, none⟩), (.slice ya yn yc), x38, x39, (by simp only [Act.put, List.setIfInBounds_toArray, List.set_cons_zero, List.set_cons_succ]), (by simp only [Act.put, List.setIfInBounds_toArray, List.set_cons_zero, List.set_cons_succ]), hb, cd0, cd1, cd2, cd3, cd4, cd5, cd6, cd7, (fun _ => rfl), (fun _ => rfl), cd10, cd11⟩
        · rintro L a w ⟨b0, b1, b2, b3, b4, b5, b6, b7, b8, b9, b10, b11, x28, x29, x30, x31, x32, x33, x34, x35, x36, x37, x38, x39, rfl, rfl, hb, cd0, cd1, cd2, cd3, cd4, cd5, cd6, cd7, cd8, cd9, cd10, cd11⟩ hf hd
          have hf' : b10 = false := hf
          subst hf'
          have d4 : b4 = true := hd ⟨4, .data⟩ (by simp) rfl
          subst d4
          have d9 : b9 = true := hd ⟨9, .data⟩ (by simp) rfl
          subst d9
          obtain rfl := cd4.out rfl
          obtain rfl := cd9.out rfl
          clear hf hd
          try simp only [List.setIfInBounds_toArray, List.set_cons_zero, List.set_cons_succ]
          intro K hK
          rw [if_pos (by rfl)]
          go_simp
          go_at_call 25
          refine (HS _ hb).mono ?_
          rintro e w' ⟨rfl, bx⟩
          exact hK.out _ _ ⟨b0, b1, b2, b3, true, b5, b6, b7, b8, true, true, b11, x28, x29, x30, x31, .slice za zn zc, x33, x34, x35, x36, .slice ya yn yc, (.bool true), x39, (by simp only [Act.put, List.setIfInBounds_toArray, List.set_cons_zero, List.set_cons_succ]), (by simp only [Act.put, List.setIfInBounds_toArray, List.set_cons_zero, List.set_cons_succ]), hb.trans (bx.mono (Nat.le_trans hB0 hb.size)), cd0, cd1, cd2, cd3, (fun _ => rfl), cd5, cd6, cd7, cd8, (fun _ => rfl), (fun _ => rfl), cd11⟩
        · rintro L a w ⟨b0, b1, b2, b3, b4, b5, b6, b7, b8, b9, b10, b11, x28, x29, x30, x31, x32, x33, x34, x35, x36, x37, x38, x39, rfl, rfl, hb, cd0, cd1, cd2, cd3, cd4, cd5, cd6, cd7, cd8, cd9, cd10, cd11⟩ hf hd
          have hf' : b11 = false := hf
          subst hf'
          have d10 : b10 = true := hd ⟨10, .data⟩ (by simp) rfl
          subst d10
          obtain rfl := cd10.out rfl
          clear hf hd
          try simp only [List.setIfInBounds_toArray, List.set_cons_zero, List.set_cons_succ]
          intro K hK
          rw [if_pos (by rfl)]
          go_simp
          exact hK.out _ _ ⟨b0, b1, b2, b3, b4, b5, b6, b7, b8, b9, true, true, x28, x29, x30, x31, x32, x33, x34, x35, x36, x37, .bool true, (.bool false), (by simp only [Act.put, List.setIfInBounds_toArray, List.set_cons_zero, List.set_cons_succ]), (by simp only [Act.put, List.setIfInBounds_toArray, List.set_cons_zero, List.set_cons_succ]), hb, cd0, cd1, cd2, cd3, cd4, cd5, cd6, cd7, cd8, cd9, (fun _ => rfl), (fun _ => rfl)⟩
      · rintro act V9 ⟨b0, b1, b2, b3, b4, b5, b6, b7, b8, b9, b10, b11, x28, x29, x30, x31, x32, x33, x34, x35, x36, x37, x38, x39, hL, rfl, hb, cd0, cd1, cd2, cd3, cd4, cd5, cd6, cd7, cd8, cd9, cd10, cd11⟩
        have hL' : [true, true, true, true, true, true, true, true, true, true, true, true] = [b0, b1, b2, b3, b4, b5, b6, b7, b8, b9, b10, b11] := congrArg Array.toList hL
        simp only [List.cons.injEq, and_true] at hL'
        obtain ⟨rfl, rfl, rfl, rfl, rfl, rfl, rfl, rfl, rfl, rfl, rfl, rfl⟩ := hL'
        obtain rfl := cd0.out rfl
        obtain rfl := cd1.out rfl
        obtain rfl := cd2.out rfl
        obtain rfl := cd3.out rfl
        obtain rfl := cd4.out rfl
        obtain rfl := cd5.out rfl
        obtain rfl := cd6.out rfl
        obtain rfl := cd7.out rfl
        obtain rfl := cd8.out rfl
        obtain rfl := cd9.out rfl
        obtain rfl := cd10.out rfl
        obtain rfl := cd11.out rfl
        clear hL cd0 cd1 cd2 cd3 cd4 cd5 cd6 cd7 cd8 cd9 cd10 cd11
        simp only [List.setIfInBounds_toArray, List.set_cons_zero, List.set_cons_succ]
        have BV : Below W.heap.size W V9 := BU.trans (((Below.refl _ _).drew.trans hb).mono BU.size)
        clear hb
        go_wp2_with fail
        go_roundw
        case rel => exact ⟨j + 1, by omega, by go_num, BV⟩
        case measure => simp [intOf]; omega
    · have hlti : ¬ ((j : Int) < (rn : Int)) := by omega
      go_wp2_with fail
      go_ret
      exact ⟨rfl, BA.trans (BU.mono BA.size)⟩
theorem of_any (w : World) (l : List UInt8) (co : Option Addr) (cn cc : Nat) (ky : Nat) (only : Bool) (ro : Option Addr) (rn rc : Nat) :
    Calls Try.prog 28 #[tbV l co cn cc (ky : Nat) only ro rn rc] w fun e w' => e = .returned (tbV l co cn cc (ky : Nat) only ro rn rc) ∧ Below w.heap.size w w' := by
  unfold tbV
  have B0 : Below w.heap.size w ((w.alloc (.cells #[.string (bsOf l), .slice co cn cc, .int .i64 (ky : Nat), .bool only, .slice ro rn rc] 48)).alloc (.cells #[.string ⟨#[]⟩, .slice none 0 0, .int .i64 0, .bool false, .slice none 0 0] 47)) := ((Below.refl _ _).alloc (Nat.le_refl _) _).alloc (by simp) _
  have hT : Bk ((w.alloc (.cells #[.string (bsOf l), .slice co cn cc, .int .i64 (ky : Nat), .bool only, .slice ro rn rc] 48)).alloc (.cells #[.string ⟨#[]⟩, .slice none 0 0, .int .i64 0, .bool false, .slice none 0 0] 47)) w.heap.size (tbC l co cn cc (ky : Nat) only ro rn rc) 48 := (Bk.new w _ _).alloc _
  have hR : Bk ((w.alloc (.cells #[.string (bsOf l), .slice co cn cc, .int .i64 (ky : Nat), .bool only, .slice ro rn rc] 48)).alloc (.cells #[.string ⟨#[]⟩, .slice none 0 0, .int .i64 0, .bool false, .slice none 0 0] 47)) (w.heap.size + 1) (tbC [] none 0 0 0 false none 0 0) 47 := by
    have := Bk.new (w.alloc (.cells #[.string (bsOf l), .slice co cn cc, .int .i64 (ky : Nat), .bool only, .slice ro rn rc] 48)) #[.string ⟨#[]⟩, .slice none 0 0, .int .i64 0, .bool false, .slice none 0 0] 47
    rwa [World.size_alloc] at this
  go_enter Try.func28, Try.ntmps28
  go_upto_region 1 with fail
  generalize (w.alloc (.cells #[.string (bsOf l), .slice co cn cc, .int .i64 (ky : Nat), .bool only, .slice ro rn rc] 48)).alloc (.cells #[.string ⟨#[]⟩, .slice none 0 0, .int .i64 0, .bool false, .slice none 0 0] 47) = W at B0 hT hR ⊢
  obtain ⟨p, hp⟩ : ∃ p, w.heap.size = p := ⟨_, rfl⟩
  obtain ⟨r, hr⟩ : ∃ r, p + 1 = r := ⟨_, rfl⟩
  rw [hp] at hT hR
  rw [hr] at hR
  simp only [hp, hr]
  have HP := Lib.hid hp
  have hpr : p ≤ r := by omega
  clear hp hr
  obtain ⟨t0, t1, t2, t3, t4⟩ := tb_cells hT
  have hRh := Lib.hid (show W.heap[r]? = some (.cells (tbC [] none 0 0 0 false none 0 0) 47 (0, 0)) from hR)
  go_wp2_with ((with_reducible refine wpList_store_blk (o := ⟨none, _, _, _, _, _⟩) rfl 47 (.tmp 2) (.tmp 7) rfl r _ (tbC l co cn cc (ky : Nat) only ro rn rc) ?_ ?_ _ hRh 5 szTb (tbC_size ..) (tbC_size ..) (tbC_all ..) ?_); (rfl); (rfl); (intro w6 h6 g6))
  have hR6 : Bk w6 r (tbC l co cn cc (ky : Nat) only ro rn rc) 47 := h6.out
  obtain ⟨r0, r1, r2, r3, r4⟩ := tb_cells hR6
  refine bodyPost_ret (v := tbV l co cn cc (ky : Nat) only ro rn rc) (by simp [results, Try.results28, go_sem, tbV, r0, r1, r2, r3, r4]) rfl ?_
  exact ⟨rfl, B0.grown g6 B0.size (fun z hz => by cases hz; rw [HP.out]; exact hpr)⟩
theorem toref10_any (w : World) (l : List UInt8) (co : Option Addr) (cn cc : Nat) (ky : Nat) (only : Bool) (ro : Option Addr) (rn rc : Nat) :
    Calls Try.prog 30 #[tbV l co cn cc (ky : Nat) only ro rn rc] w fun e w' => e = .returned (tbV l co cn cc (ky : Nat) only ro rn rc) ∧ Below w.heap.size w w' := by
  unfold tbV
  have B0 : Below w.heap.size w ((w.alloc (.cells #[.string (bsOf l), .slice co cn cc, .int .i64 (ky : Nat), .bool only, .slice ro rn rc] 47)).alloc (.cells #[.string ⟨#[]⟩, .slice none 0 0, .int .i64 0, .bool false, .slice none 0 0] 48)) := ((Below.refl _ _).alloc (Nat.le_refl _) _).alloc (by simp) _
  have hT : Bk ((w.alloc (.cells #[.string (bsOf l), .slice co cn cc, .int .i64 (ky : Nat), .bool only, .slice ro rn rc] 47)).alloc (.cells #[.string ⟨#[]⟩, .slice none 0 0, .int .i64 0, .bool false, .slice none 0 0] 48)) w.heap.size (tbC l co cn cc (ky : Nat) only ro rn rc) 47 := (Bk.new w _ _).alloc _
  have hR : Bk ((w.alloc (.cells #[.string (bsOf l), .slice co cn cc, .int .i64 (ky : Nat), .bool only, .slice ro rn rc] 47)).alloc (.cells #[.string ⟨#[]⟩, .slice none 0 0, .int .i64 0, .bool false, .slice none 0 0] 48)) (w.heap.size + 1) (tbC [] none 0 0 0 false none 0 0) 48 := by
    have := Bk.new (w.alloc (.cells #[.string (bsOf l), .slice co cn cc, .int .i64 (ky : Nat), .bool only, .slice ro rn rc] 47)) #[.string ⟨#[]⟩, .slice none 0 0, .int .i64 0, .bool false, .slice none 0 0] 48
    rwa [World.size_alloc] at this
  go_enter Try.func30, Try.ntmps30
  go_upto_region 1 with fail
  generalize (w.alloc (.cells #[.string (bsOf l), .slice co cn cc, .int .i64 (ky : Nat), .bool only, .slice ro rn rc] 47)).alloc (.cells #[.string ⟨#[]⟩, .slice none 0 0, .int .i64 0, .bool false, .slice none 0 0] 48) = W at B0 hT hR ⊢
  obtain ⟨p, hp⟩ : ∃ p, w.heap.size = p := ⟨_, rfl⟩
  obtain ⟨r, hr⟩ : ∃ r, p + 1 = r := ⟨_, rfl⟩
  rw [hp] at hT hR
  rw [hr] at hR
  simp only [hp, hr]
  have HP := Lib.hid hp
  have hpr : p ≤ r := by omega
  clear hp hr
  obtain ⟨t0, t1, t2, t3, t4⟩ := tb_cells hT
  have hRh := Lib.hid (show W.heap[r]? = some (.cells (tbC [] none 0 0 0 false none 0 0) 48 (0, 0)) from hR)
  go_wp2_with ((with_reducible refine wpList_store_blk (o := ⟨none, _, _, _, _, _⟩) rfl 48 (.tmp 2) (.tmp 7) rfl r _ (tbC l co cn cc (ky : Nat) only ro rn rc) ?_ ?_ _ hRh 5 szRT (tbC_size ..) (tbC_size ..) (tbC_all ..) ?_); (rfl); (rfl); (intro w6 h6 g6))
  have hR6 : Bk w6 r (tbC l co cn cc (ky : Nat) only ro rn rc) 48 := h6.out
  obtain ⟨r0, r1, r2, r3, r4⟩ := tb_cells hR6
  refine bodyPost_ret (v := tbV l co cn cc (ky : Nat) only ro rn rc) (by simp [results, Try.results30, go_sem, tbV, r0, r1, r2, r3, r4]) rfl ?_
  exact ⟨rfl, B0.grown g6 B0.size (fun z hz => by cases hz; rw [HP.out]; exact hpr)⟩
end Go.Proofs.Ytllijeciodmckaa
namespace Go.Proofs.Ytllijeciodmckaa
open Go.RowKit
set_option linter.unusedSimpArgs false
/-- The row that is found. -/
def gotR (ky : Nat) (v : V) (rs : List (List V)) : List V := if hasN ky v rs = true then (rs[atN ky v rs]?).getD [] else []
def TakeW (w : World) (l : List UInt8) (cs : List Co) (cn ky : Nat) (only : Bool) (E : Int) (rs' : List (List V)) (PR : List V) (e : Ending) (w' : World) : Prop :=
  ∃ co cc ro rn rc pa pn pc, e = .returned (.tuple #[tbV l co cn cc (ky : Nat) only ro rn rc, .slice pa pn pc, .int .i64 E]) ∧ IsT w' w.heap.size co cn cc cs ro rn rc rs' ∧ IsR EV w' pa pn pc PR ∧ Below w.heap.size w w'
theorem take_w (w : World) (l : List UInt8) (co : Option Addr) (cn cc : Nat) (ky : Nat) (only : Bool) (ro : Option Addr) (rn rc : Nat) (cs : List Co) (h0 : 0 < cn) (hcn : cn ≤ 100) (B : Nat) (rs : List (List V)) (h : IsT w B co cn cc cs ro rn rc rs) (v : V) (hS : Srt ky rs) (hn : rn ≤ 300) (hfl : ∀ x ∈ rs, 0 < x.length ∧ x.length ≤ 100) :
    Calls Try.prog 23 #[tbV l co cn cc (ky : Nat) only ro rn rc, vv v.k v.n v.s] w (TakeW w l cs cn ky only (takeE ky v rs) (takeR ky v rs) (gotR ky v rs)) := by
  refine (take_any w l co cn cc ky only ro rn rc cs h0 hcn B rs h v hS hn hfl).mono ?_
  rintro e w' ⟨hN, hY, hB⟩
  unfold takeE takeR gotR
  cases hh : hasN ky v rs with
  | false =>
    obtain ⟨co2, cc2, ro2, rn2, rc2, rfl, hT⟩ := hN hh
    exact ⟨co2, cc2, ro2, rn2, rc2, none, 0, 0, rfl, hT, IsR.nilR _, hB⟩
  | true =>
    obtain ⟨x, hx⟩ := hasN_at hh
    obtain ⟨co2, cc2, ro2, rn2, rc2, g, c, rfl, hT, oX, _⟩ := hY x hh hx
    refine ⟨co2, cc2, ro2, rn2, rc2, some ⟨g, 0, none⟩, x.length, c, rfl, hT, ?_, hB⟩
    rw [if_pos rfl, hx]
    exact oX.isR
def RTakeW (w : World) (B : Nat) (l : List UInt8) (co : Option Addr) (cn cc ky : Nat) (only : Bool) (E : Int) (rs' : List (List V)) (PR : List V) (e : Ending) (w' : World) : Prop :=
  ∃ ro rn rc pa pn pc, e = .returned (.tuple #[tbV l co cn cc (ky : Nat) only ro rn rc, .slice pa pn pc, .int .i64 E]) ∧ IsRR EV w' B ro rn rc rs' ∧ IsR EV w' pa pn pc PR ∧ Below w.heap.size w w'
theorem rtake_w (w : World) (l : List UInt8) (co : Option Addr) (cn cc : Nat) (ky : Nat) (only : Bool) (ro : Option Addr) (rn rc : Nat) (B : Nat) (hBw : B ≤ w.heap.size) (rs : List (List V)) (h : IsRR EV w B ro rn rc rs) (v : V) (hv : Val v.k v.n v.s) (hV : ∀ r ∈ rs, ky < r.length ∧ Val (kOf ky r).k (kOf ky r).n (kOf ky r).s) (hn : rn ≤ 300) (hrl : ∀ r ∈ rs, r.length ≤ 100) :
    Calls Try.prog 24 #[tbV l co cn cc (ky : Nat) only ro rn rc, vv v.k v.n v.s] w (RTakeW w B l co cn cc ky only (takeE ky v rs) (takeR ky v rs) (gotR ky v rs)) := by
  refine (rtake_any w l co cn cc ky only ro rn rc B hBw rs h v hv hV hn hrl).mono ?_
  rintro e w' ⟨hN, hY, hB⟩
  unfold takeE takeR gotR
  cases hh : hasN ky v rs with
  | false =>
    obtain ⟨ro2, rn2, rc2, rfl, hT⟩ := hN hh
    exact ⟨ro2, rn2, rc2, none, 0, 0, rfl, hT, IsR.nilR _, hB⟩
  | true =>
    obtain ⟨x, hx⟩ := hasN_at hh
    obtain ⟨ro2, rn2, rc2, g, c, rfl, hT, oX, _⟩ := hY x hh hx
    refine ⟨ro2, rn2, rc2, some ⟨g, 0, none⟩, x.length, c, rfl, hT, ?_, hB⟩
    rw [if_pos rfl, hx]
    exact oX.isR
def GetW (w : World) (tk : Bool) (PR : List V) (e : Ending) (w' : World) : Prop := ∃ pa pn pc, e = .returned (.tuple #[.slice pa pn pc, .bool tk]) ∧ IsR EV w' pa pn pc PR ∧ Below w.heap.size w w'
theorem get_w (w : World) (l : List UInt8) (co : Option Addr) (cn cc : Nat) (ky : Nat) (only : Bool) (ro : Option Addr) (rn rc : Nat) (cs : List Co) (B : Nat) (rs : List (List V)) (h : IsT w B co cn cc cs ro rn rc rs) (v : V) (hS : Srt ky rs) (hn : rn ≤ 1000) (hrl : ∀ r ∈ rs, 0 < r.length ∧ r.length ≤ 1000) :
    Calls Try.prog 26 #[tbV l co cn cc (ky : Nat) only ro rn rc, vv v.k v.n v.s] w (GetW w (hasN ky v rs) (gotR ky v rs)) := by
  refine (get_any w l co cn cc ky only ro rn rc cs B rs h v hS hn hrl).mono ?_
  rintro e w' ⟨hN, hY, hB⟩
  unfold gotR
  cases hh : hasN ky v rs with
  | false => exact ⟨none, 0, 0, hN hh, IsR.nilR _, hB⟩
  | true =>
    obtain ⟨x, hx⟩ := hasN_at hh
    obtain ⟨g, c, rfl, oX, _⟩ := hY x hh hx
    refine ⟨some ⟨g, 0, none⟩, x.length, c, rfl, ?_, hB⟩
    rw [if_pos rfl, hx]
    exact oX.isR
theorem rget_w (w : World) (l : List UInt8) (co : Option Addr) (cn cc : Nat) (ky : Nat) (only : Bool) (ro : Option Addr) (rn rc : Nat) (B : Nat) (rs : List (List V)) (h : IsRR EV w B ro rn rc rs) (v : V) (hv : Val v.k v.n v.s) (hV : ∀ r ∈ rs, ky < r.length ∧ Val (kOf ky r).k (kOf ky r).n (kOf ky r).s) (hn : rn ≤ 1000) (hrl : ∀ r ∈ rs, r.length ≤ 1000) :
    Calls Try.prog 27 #[tbV l co cn cc (ky : Nat) only ro rn rc, vv v.k v.n v.s] w (GetW w (hasN ky v rs) (gotR ky v rs)) := by
  refine (rget_any w l co cn cc ky only ro rn rc B rs h v hv hV hn hrl).mono ?_
  rintro e w' ⟨hN, hY, hB⟩
  unfold gotR
  cases hh : hasN ky v rs with
  | false => exact ⟨none, 0, 0, hN hh, IsR.nilR _, hB⟩
  | true =>
    obtain ⟨x, hx⟩ := hasN_at hh
    obtain ⟨g, c, rfl, oX, _⟩ := hY x hh hx
    refine ⟨some ⟨g, 0, none⟩, x.length, c, rfl, ?_, hB⟩
    rw [if_pos rfl, hx]
    exact oX.isR
theorem rsame5_rfl (w : World) (ao : Option Addr) (n c : Nat) (ao' : Option Addr) (n' c' : Nat) (r : List V) (h : IsR EV w ao n c r) (h' : IsR EV w ao' n' c' r) :
    Calls Try.prog 25 #[.slice ao n c, .slice ao' n' c'] w (Told w true) := by
  have := rsame_any ao n c r ao' n' c' r w h h'
  rwa [(eqVs_iff r r).2 rfl] at this
theorem tsame_rfl (w : World) (l : List UInt8) (cs : List Co) (cn : Nat) (ky : Int) (only : Bool) (B B' : Nat) (co : Option Addr) (cc : Nat) (ro : Option Addr) (rn rc : Nat) (rs : List (List V)) (co' : Option Addr) (cc' : Nat) (ro' : Option Addr) (rn' rc' : Nat) (h : IsT w B co cn cc cs ro rn rc rs) (h' : IsT w B' co' cn cc' cs ro' rn' rc' rs) (hn : rn ≤ 1000) :
    Calls Try.prog 22 #[tbV l co cn cc ky only ro rn rc, tbV l co' cn cc' ky only ro' rn' rc'] w (Told w true) := by
  have := tsame_any w l cs cn ky only B B' co cc ro rn rc rs co' cc' ro' rn' rc' rs h h' hn
  rwa [(eqRs_iff rs rs).2 rfl] at this
/-- append to an empty row of the call's own, of whatever, nothing too. -/
theorem wp_append_gb {α : Type} {E : Enc α} {zero : α} {P : Program} {w : World} {o : Oper} {a : Act} {K : Act → World → Prop} {Q : Exit → Act → World → Prop} (s x : Operand) (t tx : TypeId)
    (ho : o.op = .call { callee := .builtin .append, args := #[s, x], argTypes := #[t, tx] }) (e : TypeId) (hB : RowTy E P t e zero) (B g : Nat) (hsv : a.eval s = .slice (some ⟨g, 0, none⟩) 0 0) (ow : OwnR E w e g 0 0 []) (hg : B ≤ g) (hBw : B ≤ w.heap.size)
    (X : Value) (hx : a.eval x = X) (m : Nat) (cs : List α) (hs : Src P E.sz tx X m (E.all cs) w) (hcl : cs.length = m) (hmax : m ≤ 1000000)
    (hK : ∀ ao' c' w', TxtR E w' e B ao' m c' cs → w.grownBy w' (some g) → Below B w w' → K (a.put o.dst (.slice ao' m c')) w') : o.wp P a w K Q := by
  obtain ⟨g', cap', w', hr, h1, h2, h3⟩ := run_append_or (P := P) w t tx o.type e hB g 0 0 [] ow X m cs hs hcl (by omega)
  unfold Oper.wp execOp
  simp only [ho, resolve, invoke, builtin, Sem.run_bind, Sem.run_pure, Result.andThen_ok, List.map_toArray, List.map_cons, List.map_nil, hsv, hx, hr]
  have e0 : 0 + m = m := Nat.zero_add m
  rw [e0, List.nil_append] at h1
  have hh := hK (some ⟨g', 0, none⟩) cap' w' ⟨.inr ⟨_, rfl, h1, by rcases h3 with rfl | h3; exact hg; exact Nat.le_trans hBw h3⟩⟩ (puts_grown' h2) (h2.below hg hBw)
  rw [e0]
  exact hh
end Go.Proofs.Ytllijeciodmckaa
