/-
 row.Same.
 ledger.Same, of ledgers that are alike (by gen_sm14.py).
-/
import Derived.Test.YtdmnjjknkcnkgaaGreatDoorMzB
import Derived.Deep.QuietTactic
import Derived.BigQuiet
namespace Go.Proofs.YtdmnjjknkcnkgaaGreatDoor
open Go.RowKit
def V.eq (x y : V) : Bool := eqV x.k x.n x.s y.k y.n y.s
def eqVs : List V → List V → Bool
 | [], [] => true
 | x :: a, y :: b => x.eq y && eqVs a b
 | _, _ => false
theorem toList_inj (s t : ByteArray) (h : s.toList = t.toList) : s = t := by
 rw [ByteArray.toList_eq, ByteArray.toList_eq] at h
 apply ByteArray.ext
 exact Array.ext' h
theorem V.eq_iff (x y : V) : x.eq y = true ↔ x = y := by
 obtain ⟨k, n, s⟩ := x
 obtain ⟨k', n', s'⟩ := y
 simp only [V.eq, eqV, Bool.and_eq_true, beq_iff_eq, V.mk.injEq]
 constructor
 · rintro ⟨h1, h2, h3⟩
   exact ⟨h1, h2, toList_inj _ _ h3⟩
 · rintro ⟨h1, h2, h3⟩
   exact ⟨h1, h2, by rw [h3]⟩
theorem eqVs_iff : ∀ a b : List V, eqVs a b = true ↔ a = b
 | [], [] => by simp [eqVs]
 | [], _ :: _ => by simp [eqVs]
 | _ :: _, [] => by simp [eqVs]
 | x :: a, y :: b => by simp only [eqVs, Bool.and_eq_true, V.eq_iff, eqVs_iff a b, List.cons.injEq]
theorem eqVs_len {a b : List V} (h : a.length ≠ b.length) : eqVs a b = false := by
 cases q : eqVs a b
 · rfl
 · exact absurd (congrArg List.length ((eqVs_iff a b).1 q)) h
theorem eqVs_drop (a b : List V) (j : Nat) (x y : V) (hx : a[j]? = some x) (hy : b[j]? = some y) : eqVs (a.drop j) (b.drop j) = (x.eq y && eqVs (a.drop (j + 1)) (b.drop (j + 1))) := by
 obtain ⟨h1, rfl⟩ := List.getElem?_eq_some_iff.1 hx
 obtain ⟨h2, rfl⟩ := List.getElem?_eq_some_iff.1 hy
 rw [List.drop_eq_getElem_cons h1, List.drop_eq_getElem_cons h2, eqVs]
set_option maxRecDepth 100000 in
theorem run_neq_val (k n : Int) (s : ByteArray) (k' n' : Int) (s' : ByteArray) (w : World) :
 (binOp .neq 98 (vv k n s) (vv k' n' s')).run Tryz.prog w = .ok (.bool !(eqV k n s k' n' s')) w := by
 unfold vv eqV
 go_simp
 by_cases h1 : k = k' <;> by_cases h2 : n = n' <;> by_cases h3 : s.toList = s'.toList <;> simp [h1, h2, h3]
set_option maxRecDepth 100000 in
set_option maxHeartbeats 1000000 in
theorem equal_any (ao : Option Addr) (n cap : Nat) (a : List V) (ao' : Option Addr) (n' cap' : Nat) (b : List V) (w : World) (ha : IsR EV w ao n cap a) (hb : IsR EV w ao' n' cap' b) :
 Calls Tryz.prog 145 #[.slice ao n cap, .slice ao' n' cap'] w (Told w (eqVs a b)) := by
 have hla := ha.len
 have hlb := hb.len
 have hmx := ha.max
 have hle := ha.le
 unfold maxLen at hmx
 by_cases hn : n = n'
 · subst hn
   go_enter Tryz.func145, Tryz.ntmps145
   go_wp2_with fail
   go_loopw [13] (fun i wr => ∃ j : Nat, j ≤ n ∧ i = .int .i64 (j : Nat) ∧ Below w.heap.size w wr ∧ Hid (eqVs a b = eqVs (a.drop j) (b.drop j))) (fun i _ => n - (intOf i).toNat)
   case atStart => exact ⟨0, by omega, rfl, Below.refl _ _, rfl⟩
   case round =>
    obtain ⟨j, hj, rfl, hB, hc⟩ := hrel
    by_cases hlt : j < n
    · obtain ⟨x, hx⟩ : ∃ x, a[j]? = some x := ⟨a[j]'(by omega), List.getElem?_eq_getElem _⟩
      obtain ⟨y, hy⟩ : ∃ y, b[j]? = some y := ⟨b[j]'(by omega), List.getElem?_eq_getElem _⟩
      obtain ⟨g1, off1, rfl, hb1, hc1⟩ := ha.open (by omega) (by decide)
      obtain ⟨g2, off2, rfl, hb2, hc2⟩ := hb.open (by omega) (by decide)
      obtain ⟨c0, c1, c2⟩ := cells_v hc1 j x hx
      obtain ⟨d0, d1, d2⟩ := cells_v hc2 j y hy
      rw [← hB.cell hb1] at c0 c1 c2
      rw [← hB.cell hb2] at d0 d1 d2
      have HD := hc.out.trans (eqVs_drop a b j x y hx hy)
      have hq := run_neq_val x.k x.n x.s y.k y.n y.s
      have hji : (j : Int) < n := by omega
      obtain ⟨k, m, s⟩ := x
      obtain ⟨k', m', s'⟩ := y
      simp only at c0 c1 c2 d0 d1 d2 hq
      simp only [V.eq] at HD
      cases q : eqV k m s k' m' s' <;> rw [q] at HD hq
      · have HD' := Lib.hid HD
        clear hc1 hc2 hx hy HD q ha hb
        go_wp2_with fail
        go_quiet (fail)
        go_wp2_with fail
        go_ret
        rw [HD'.out]
        exact ⟨rfl, ⟨hB.os, hB.tape, hB.output, hB.size, hB.block⟩⟩
      · have HD' := Lib.hid HD
        clear hc1 hc2 hx hy HD q ha hb
        go_wp2_with fail
        go_quiet (fail)
        go_wp2_with fail
        go_roundw
        case rel => exact ⟨j + 1, by omega, by go_num, ⟨hB.os, hB.tape, hB.output, hB.size, hB.block⟩, by unfold Hid; rw [HD'.out, Bool.true_and]⟩
        case measure => simp [intOf]; omega
    · obtain rfl : j = n := by omega
      rw [List.drop_eq_nil_of_le (by omega), List.drop_eq_nil_of_le (by omega)] at hc
      go_wp2_with fail
      go_ret
      rw [hc.out]
      exact ⟨rfl, hB⟩
 · rw [eqVs_len (by omega)]
   have hni : ¬ ((n : Int) = n') := by omega
   go_enter Tryz.func145, Tryz.ntmps145
   go_wp2_with fail
   go_ret
   exact ⟨rfl, Below.refl _ _⟩
set_option maxRecDepth 100000 in
theorem same_any (ao : Option Addr) (n cap : Nat) (a : List V) (ao' : Option Addr) (n' cap' : Nat) (b : List V) (w : World) (ha : IsR EV w ao n cap a) (hb : IsR EV w ao' n' cap' b) :
 Calls Tryz.prog 134 #[.slice ao n cap, .slice ao' n' cap'] w (Told w (eqVs a b)) := by
 go_enter Tryz.func134, Tryz.ntmps134
 go_wp2_with (go_at_call 145; (with_reducible refine (equal_any ao n cap a ao' n' cap' b _ ha hb).mono ?_); rintro e w1 ⟨rfl, b1⟩)
 go_ret
 exact ⟨rfl, b1⟩
set_option linter.unusedSimpArgs false
set_option maxRecDepth 100000 in
set_option maxHeartbeats 1000000 in
theorem sameChange_rfl (w : World) (bt : ByteArray) (bo : Int) (ra : Option Addr) (n ca : Nat) (sa : Option Addr) (cb : Nat) (vl : List V) (hr : IsR EV w ra n ca vl) (hs : IsR EV w sa n cb vl) :
 Calls Tryz.prog 120 #[.agg #[.string bt, .int .i64 bo, .slice ra n ca], .agg #[.string bt, .int .i64 bo, .slice sa n cb]] w (Told w true) := by
 have B0 : Below w.heap.size w ((w.alloc (.cells #[.string bt,.int .i64 bo,.slice ra n ca] 67)).alloc (.cells #[.string bt,.int .i64 bo,.slice sa n cb] 67)) := ((Below.refl _ _).alloc (Nat.le_refl _) _).alloc (by simp) _
 have hP : Bk ((w.alloc (.cells #[.string bt,.int .i64 bo,.slice ra n ca] 67)).alloc (.cells #[.string bt,.int .i64 bo,.slice sa n cb] 67)) w.heap.size #[.string bt,.int .i64 bo,.slice ra n ca] 67 := (Bk.new w _ _).alloc _
 have hQ : Bk ((w.alloc (.cells #[.string bt,.int .i64 bo,.slice ra n ca] 67)).alloc (.cells #[.string bt,.int .i64 bo,.slice sa n cb] 67)) (w.heap.size + 1) #[.string bt,.int .i64 bo,.slice sa n cb] 67 := by
  have := Bk.new (w.alloc (.cells #[.string bt, .int .i64 bo, .slice ra n ca] 67)) #[.string bt, .int .i64 bo, .slice sa n cb] 67
  rwa [World.size_alloc] at this
 have hr0 := hr.past B0
 have hs0 := hs.past B0
 go_enter Tryz.func120, Tryz.ntmps120
 go_upto_region 1 with fail
 generalize (w.alloc (.cells #[.string bt, .int .i64 bo, .slice ra n ca] 67)).alloc (.cells #[.string bt, .int .i64 bo, .slice sa n cb] 67) = W at B0 hP hQ hr0 hs0 ⊢
 obtain ⟨px, hpx⟩ : ∃ x, w.heap.size = x := ⟨_, rfl⟩
 obtain ⟨py, hpy⟩ : ∃ x, px + 1 = x := ⟨_, rfl⟩
 have HG := Lib.hid hpx
 rw [hpx] at hP hQ B0
 rw [hpy] at hQ
 simp only [hpx, hpy]
 have hpW : px ≤ W.heap.size := Nat.le_of_lt hP.lt
 clear hpx hpy hr hs
 obtain ⟨c0, c1, c2⟩ : W.cell? ⟨px, 0, none⟩ = some (.string bt) ∧ W.cell? ⟨px, 1, none⟩ = some (.int .i64 bo) ∧ W.cell? ⟨px, 2, none⟩ = some (.slice ra n ca) := ⟨hP.c rfl, hP.c rfl, hP.c rfl⟩
 obtain ⟨d0, d1, d2⟩ : W.cell? ⟨py, 0, none⟩ = some (.string bt) ∧ W.cell? ⟨py, 1, none⟩ = some (.int .i64 bo) ∧ W.cell? ⟨py, 2, none⟩ = some (.slice sa n cb) := ⟨hQ.c rfl, hQ.c rfl, hQ.c rfl⟩
 have e : eqVs vl vl = true := (eqVs_iff vl vl).2 rfl
 have HS := fun (w' : World) (hb : Below W.heap.size W w') => same_any ra n ca vl sa n cb vl w' (hr0.past hb) (hs0.past hb)
 simp only [e] at HS
 clear e
 go_wp2_with (go_at_call 134; refine (HS _ (Below.refl _ _)).mono ?_; rintro en w1 ⟨rfl, b1⟩)
 go_ret
 exact ⟨rfl, by rw [HG.out]; exact B0.trans (b1.mono hpW)⟩
set_option maxRecDepth 100000 in
set_option maxHeartbeats 1000000 in
theorem equalCh_rfl (w : World) (Qa Qb : Nat → Prop) (ao : Option Addr) (n c : Nat) (bo0 : Option Addr) (c2 : Nat) (ls : List Chg) (ha : IsD DC w Qa ao n c ls) (hb9 : IsD DC w Qb bo0 n c2 ls) :
 Calls Tryz.prog 119 #[.slice ao n c,.slice bo0 n c2,.func (.func 120) #[] #[]] w (Told w true) := by
 have hln := ha.len
 have hmx : n ≤ maxLen := by obtain ⟨bs, h1, -⟩ := id ha; exact Nat.le_trans h1.le h1.max
 unfold maxLen at hmx
 go_enter Tryz.func119, Tryz.ntmps119
 go_wp2_with fail
 go_loopw [17] (fun i wr => ∃ j : Nat, j ≤ n ∧ i = .int .i64 (j : Nat) ∧ Below w.heap.size w wr) (fun i _ => n - (intOf i).toNat)
 case atStart => exact ⟨0, by omega, rfl, Below.refl _ _⟩
 case round =>
  obtain ⟨j, hj, rfl, hB⟩ := hrel
  by_cases hlt : j < n
  · have hlti : (j : Int) < (n : Int) := by omega
    obtain ⟨x, hx⟩ : ∃ x, ls[j]? = some x := ⟨ls[j]'(by omega), List.getElem?_eq_getElem _⟩
    obtain ⟨ga, oa, pb, rfl, hga, -, hcga, hra⟩ := (ha.past hB).at hx
    obtain ⟨gb, ob, qb, rfl, hgb, -, hcgb, hsa⟩ := (hb9.past hB).at hx
    obtain ⟨⟨xt, xo⟩, xl⟩ := x
    obtain ⟨⟨bt, bo⟩, ⟨ra, rn, rc⟩⟩ := pb
    obtain ⟨⟨bt2, bo2⟩, ⟨sa, sn, sc⟩⟩ := qb
    obtain ⟨hE, hra⟩ := hra
    obtain ⟨hE2, hsa⟩ := hsa
    obtain ⟨rfl, rfl⟩ : bt = xt ∧ bo = xo := by simpa using hE
    obtain ⟨rfl, rfl⟩ : bt2 = bt ∧ bo2 = bo := by simpa using hE2
    have hl1 : xl.length = rn := hra.flat.len
    have hl2 : xl.length = sn := hsa.flat.len
    obtain rfl : sn = rn := by omega
    have hcga : ∀ k u, (ECh.f ((bt2, bo2), ⟨ra, sn, rc⟩))[k]? = some u → wr.cell? ⟨ga, oa + (j * 3 + k), none⟩ = some u := hcga
    have m0 : wr.cell? ⟨ga, oa + j * 3, none⟩ = some (.string bt2) := hcga 0 _ rfl
    have m1 : wr.cell? ⟨ga, oa + j * 3 + 1, none⟩ = some (.int .i64 bo2) := by have := hcga 1 _ rfl; rwa [← Nat.add_assoc] at this
    have m2 : wr.cell? ⟨ga, oa + j * 3 + 2, none⟩ = some (.slice ra sn rc) := by have := hcga 2 _ rfl; rwa [← Nat.add_assoc] at this
    have hcgb : ∀ k u, (ECh.f ((bt2, bo2), ⟨sa, sn, sc⟩))[k]? = some u → wr.cell? ⟨gb, ob + (j * 3 + k), none⟩ = some u := hcgb
    have k0 : wr.cell? ⟨gb, ob + j * 3, none⟩ = some (.string bt2) := hcgb 0 _ rfl
    have k1 : wr.cell? ⟨gb, ob + j * 3 + 1, none⟩ = some (.int .i64 bo2) := by have := hcgb 1 _ rfl; rwa [← Nat.add_assoc] at this
    have k2 : wr.cell? ⟨gb, ob + j * 3 + 2, none⟩ = some (.slice sa sn sc) := by have := hcgb 2 _ rfl; rwa [← Nat.add_assoc] at this
    clear hcga hcgb hE hE2 hl1 hl2
    have BB : Below wr.heap.size wr ((wr.alloc (.cells #[.string bt2,.int .i64 bo2,.slice ra sn rc] 67)).alloc (.cells #[.string bt2,.int .i64 bo2,.slice sa sn sc] 67)) := ((Below.refl _ _).alloc (Nat.le_refl _) _).alloc (by simp) _
    have HS := Lib.hid (sameChange_rfl ((wr.alloc (.cells #[.string bt2,.int .i64 bo2,.slice ra sn rc] 67)).alloc (.cells #[.string bt2,.int .i64 bo2,.slice sa sn sc] 67)) bt2 bo2 ra sn rc sa sc xl (hra.flat.past BB) (hsa.flat.past BB))
    clear hx hra hsa
    go_wp2_with (go_at_call 120; refine HS.out.mono ?_; rintro en w2 ⟨rfl, b2⟩)
    go_roundw
    case rel => exact ⟨j + 1, by omega, by go_num, hB.trans ((BB.trans (b2.mono BB.size)).mono hB.size)⟩
    case measure => simp [intOf]; omega
  · have hlti : ¬ ((j : Int) < (n : Int)) := by omega
    go_wp2_with fail
    go_ret
    exact ⟨rfl, hB⟩
set_option maxRecDepth 100000 in
set_option maxHeartbeats 1000000 in
theorem sameTx_rfl (w : World) (Qa Qb : Nat → Prop) (id : Int) (ra : Option Addr) (n ca : Nat) (sa : Option Addr) (cb : Nat) (cl : List Chg) (hr : IsD DC w Qa ra n ca cl) (hs : IsD DC w Qb sa n cb cl) :
 Calls Tryz.prog 90 #[.agg #[.int .i64 id, .slice ra n ca], .agg #[.int .i64 id, .slice sa n cb]] w (Told w true) := by
 have B0 : Below w.heap.size w ((w.alloc (.cells #[.int .i64 id,.slice ra n ca] 45)).alloc (.cells #[.int .i64 id,.slice sa n cb] 45)) := ((Below.refl _ _).alloc (Nat.le_refl _) _).alloc (by simp) _
 have hP : Bk ((w.alloc (.cells #[.int .i64 id,.slice ra n ca] 45)).alloc (.cells #[.int .i64 id,.slice sa n cb] 45)) w.heap.size #[.int .i64 id,.slice ra n ca] 45 := (Bk.new w _ _).alloc _
 have hQ : Bk ((w.alloc (.cells #[.int .i64 id,.slice ra n ca] 45)).alloc (.cells #[.int .i64 id,.slice sa n cb] 45)) (w.heap.size + 1) #[.int .i64 id,.slice sa n cb] 45 := by
  have := Bk.new (w.alloc (.cells #[.int .i64 id, .slice ra n ca] 45)) #[.int .i64 id, .slice sa n cb] 45
  rwa [World.size_alloc] at this
 have hr0 := hr.past B0
 have hs0 := hs.past B0
 go_enter Tryz.func90, Tryz.ntmps90
 go_upto_region 1 with fail
 generalize (w.alloc (.cells #[.int .i64 id, .slice ra n ca] 45)).alloc (.cells #[.int .i64 id, .slice sa n cb] 45) = W at B0 hP hQ hr0 hs0 ⊢
 obtain ⟨px, hpx⟩ : ∃ x, w.heap.size = x := ⟨_, rfl⟩
 obtain ⟨py, hpy⟩ : ∃ x, px + 1 = x := ⟨_, rfl⟩
 have HG := Lib.hid hpx
 rw [hpx] at hP hQ B0
 rw [hpy] at hQ
 simp only [hpx, hpy]
 have hpW : px ≤ W.heap.size := Nat.le_of_lt hP.lt
 clear hpx hpy hr hs
 obtain ⟨c0, c1⟩ : W.cell? ⟨px, 0, none⟩ = some (.int .i64 id) ∧ W.cell? ⟨px, 1, none⟩ = some (.slice ra n ca) := ⟨hP.c rfl, hP.c rfl⟩
 obtain ⟨d0, d1⟩ : W.cell? ⟨py, 0, none⟩ = some (.int .i64 id) ∧ W.cell? ⟨py, 1, none⟩ = some (.slice sa n cb) := ⟨hQ.c rfl, hQ.c rfl⟩
 have HS := fun (w' : World) (hb : Below W.heap.size W w') => equalCh_rfl w' Qa Qb ra n ca sa cb cl (hr0.past hb) (hs0.past hb)
 go_wp2_with (go_at_call 119; refine (HS _ (Below.refl _ _)).mono ?_; rintro en w1 ⟨rfl,b1⟩)
 go_ret
 exact ⟨rfl, by rw [HG.out]; exact B0.trans (b1.mono hpW)⟩
set_option maxRecDepth 100000 in
set_option maxHeartbeats 1000000 in
theorem equalTx_rfl (w : World) (Qa Qb : Nat → Prop) (ao : Option Addr) (n c : Nat) (bo0 : Option Addr) (c2 : Nat) (ls : List Txn) (ha : IsD DT w Qa ao n c ls) (hb9 : IsD DT w Qb bo0 n c2 ls) :
 Calls Tryz.prog 89 #[.slice ao n c,.slice bo0 n c2,.func (.func 90) #[] #[]] w (Told w true) := by
 have hln := ha.len
 have hmx : n ≤ maxLen := by obtain ⟨bs, h1, -⟩ := id ha; exact Nat.le_trans h1.le h1.max
 unfold maxLen at hmx
 go_enter Tryz.func89, Tryz.ntmps89
 go_wp2_with fail
 go_loopw [17] (fun i wr => ∃ j : Nat, j ≤ n ∧ i = .int .i64 (j : Nat) ∧ Below w.heap.size w wr) (fun i _ => n - (intOf i).toNat)
 case atStart => exact ⟨0, by omega, rfl, Below.refl _ _⟩
 case round =>
  obtain ⟨j, hj, rfl, hB⟩ := hrel
  by_cases hlt : j < n
  · have hlti : (j : Int) < (n : Int) := by omega
    obtain ⟨x, hx⟩ : ∃ x, ls[j]? = some x := ⟨ls[j]'(by omega), List.getElem?_eq_getElem _⟩
    obtain ⟨ga, oa, pb, rfl, hga, -, hcga, hra⟩ := (ha.past hB).at hx
    obtain ⟨gb, ob, qb, rfl, hgb, -, hcgb, hsa⟩ := (hb9.past hB).at hx
    obtain ⟨xi, xl⟩ := x
    obtain ⟨ti, ⟨ra, cn, rc⟩⟩ := pb
    obtain ⟨t2, ⟨sa, sn, sc⟩⟩ := qb
    obtain ⟨hE, hra⟩ := hra
    obtain ⟨hE2, hsa⟩ := hsa
    obtain rfl : ti = xi := hE
    obtain rfl : t2 = ti := hE2
    have hl1 : xl.length = cn := hra.len
    have hl2 : xl.length = sn := hsa.len
    obtain rfl : sn = cn := by omega
    have hra : IsD DC wr Qa ra sn rc xl := hra
    have hsa : IsD DC wr Qb sa sn sc xl := hsa
    have hcga : ∀ k u, (ETx.f (t2, ⟨ra, sn, rc⟩))[k]? = some u → wr.cell? ⟨ga, oa + (j * 2 + k), none⟩ = some u := hcga
    have m0 : wr.cell? ⟨ga, oa + j * 2, none⟩ = some (.int .i64 t2) := hcga 0 _ rfl
    have m1 : wr.cell? ⟨ga, oa + j * 2 + 1, none⟩ = some (.slice ra sn rc) := by have := hcga 1 _ rfl; rwa [← Nat.add_assoc] at this
    have hcgb : ∀ k u, (ETx.f (t2, ⟨sa, sn, sc⟩))[k]? = some u → wr.cell? ⟨gb, ob + (j * 2 + k), none⟩ = some u := hcgb
    have k0 : wr.cell? ⟨gb, ob + j * 2, none⟩ = some (.int .i64 t2) := hcgb 0 _ rfl
    have k1 : wr.cell? ⟨gb, ob + j * 2 + 1, none⟩ = some (.slice sa sn sc) := by have := hcgb 1 _ rfl; rwa [← Nat.add_assoc] at this
    clear hcga hcgb hl1 hl2
    have BB : Below wr.heap.size wr ((wr.alloc (.cells #[.int .i64 t2,.slice ra sn rc] 45)).alloc (.cells #[.int .i64 t2,.slice sa sn sc] 45)) := ((Below.refl _ _).alloc (Nat.le_refl _) _).alloc (by simp) _
    have HS := Lib.hid (sameTx_rfl ((wr.alloc (.cells #[.int .i64 t2,.slice ra sn rc] 45)).alloc (.cells #[.int .i64 t2,.slice sa sn sc] 45)) Qa Qb t2 ra sn rc sa sc xl (hra.past BB) (hsa.past BB))
    clear hx hra hsa
    go_wp2_with (go_at_call 90; refine HS.out.mono ?_; rintro en w2 ⟨rfl, b2⟩)
    go_roundw
    case rel => exact ⟨j + 1, by omega, by go_num, hB.trans ((BB.trans (b2.mono BB.size)).mono hB.size)⟩
    case measure => simp [intOf]; omega
  · have hlti : ¬ ((j : Int) < (n : Int)) := by omega
    go_wp2_with fail
    go_ret
    exact ⟨rfl, hB⟩
set_option maxRecDepth 100000 in
set_option maxHeartbeats 1000000 in
theorem sameTxs_rfl (w : World) (Qa Qb : Nat → Prop) (ao : Option Addr) (n c : Nat) (bo0 : Option Addr) (c2 : Nat) (ls : List Txn) (ha : IsD DT w Qa ao n c ls) (hb9 : IsD DT w Qb bo0 n c2 ls) :
 Calls Tryz.prog 54 #[.slice ao n c, .slice bo0 n c2] w (Told w true) := by
 have HS := Lib.hid (equalTx_rfl w Qa Qb ao n c bo0 c2 ls ha hb9)
 clear ha hb9
 go_enter Tryz.func54, Tryz.ntmps54
 go_wp2_with (go_at_call 89; refine HS.out.mono ?_; rintro en w1 ⟨rfl, b1⟩)
 go_ret
 exact ⟨rfl, b1⟩
set_option maxRecDepth 100000 in
set_option maxHeartbeats 1000000 in
theorem equalTxs_rfl (w : World) (Qa Qb : Nat → Prop) (ao : Option Addr) (n c : Nat) (bo0 : Option Addr) (c2 : Nat) (ls : List (List Txn)) (ha : IsD DTs w Qa ao n c ls) (hb9 : IsD DTs w Qb bo0 n c2 ls) :
 Calls Tryz.prog 57 #[.slice ao n c,.slice bo0 n c2,.func (.func 54) #[] #[]] w (Told w true) := by
 have hln := ha.len
 have hmx : n ≤ maxLen := by obtain ⟨bs, h1, -⟩ := id ha; exact Nat.le_trans h1.le h1.max
 unfold maxLen at hmx
 go_enter Tryz.func57, Tryz.ntmps57
 go_wp2_with fail
 go_loopw [17] (fun i wr => ∃ j : Nat, j ≤ n ∧ i = .int .i64 (j : Nat) ∧ Below w.heap.size w wr) (fun i _ => n - (intOf i).toNat)
 case atStart => exact ⟨0, by omega, rfl, Below.refl _ _⟩
 case round =>
  obtain ⟨j, hj, rfl, hB⟩ := hrel
  by_cases hlt : j < n
  · have hlti : (j : Int) < (n : Int) := by omega
    obtain ⟨x, hx⟩ : ∃ x, ls[j]? = some x := ⟨ls[j]'(by omega), List.getElem?_eq_getElem _⟩
    obtain ⟨ga, oa, ⟨ra, rn, rc⟩, rfl, hga, -, hca, hra⟩ := (ha.past hB).at hx
    obtain ⟨gb, ob, ⟨sa, sn, sc⟩, rfl, hgb, -, hcb, hsa⟩ := (hb9.past hB).at hx
    have hra : IsD DT wr Qa ra rn rc x := hra
    have hsa : IsD DT wr Qb sa sn sc x := hsa
    have hl1 := hra.len
    have hl2 := hsa.len
    obtain rfl : sn = rn := by omega
    have m0 : wr.cell? ⟨ga, oa + j, none⟩ = some (.slice ra sn rc) := by have := hca 0 (.slice ra sn rc) rfl; simpa only [show DTs.E.sz = 1 from rfl, Nat.mul_one, Nat.add_zero] using this
    have k0 : wr.cell? ⟨gb, ob + j, none⟩ = some (.slice sa sn sc) := by have := hcb 0 (.slice sa sn sc) rfl; simpa only [show DTs.E.sz = 1 from rfl, Nat.mul_one, Nat.add_zero] using this
    have HS := Lib.hid (sameTxs_rfl wr Qa Qb ra sn rc sa sc x hra hsa)
    clear hca hcb hx hl1 hl2 hra hsa
    go_wp2_with (go_at_call 54; refine HS.out.mono ?_; rintro en w2 ⟨rfl, b2⟩)
    go_roundw
    case rel => exact ⟨j + 1, by omega, by go_num, hB.trans (b2.mono hB.size)⟩
    case measure => simp [intOf]; omega
  · have hlti : ¬ ((j : Int) < (n : Int)) := by omega
    go_wp2_with fail
    go_ret
    exact ⟨rfl, hB⟩
theorem wpList_load_cells_if2 {P : Program} {ops : Array Oper} {rest : List Oper} {o : Oper} {a : Act} {w : World} {Q : Exit → Act → World → Prop} (hgd : Region.wanted o (yielded ops a.tmps) = true) (ty : TypeId) (x : Operand) (ho : o.op = .load ty x)
 (p : Addr) (hx : a.eval x = .pointer (some p)) (l : List Value) (hc : ∀ j v,l[j]? = some v → w.cell? (p.add j) = some v) (hagg : ∀ w,(isAgg ty).run P w = .ok true w) (hi : (P.info? ty).map (·.size) = some l.length)
 (h : wpList P ops Q rest (a.put o.dst (.agg l.toArray)) w) : wpList P ops Q (o :: rest) a w :=
 wpList_step fun K hK => by
  rw [if_pos hgd]
  exact wp_load_cells ty x ho p hx l hc hagg hi (hK _ _ h)
set_option maxRecDepth 100000 in
set_option maxHeartbeats 4000000 in
theorem sameBlock_rfl (w : World) (b : Blk) :
 Calls Tryz.prog 56 #[.agg b.cs.toArray, .agg b.cs.toArray] w (Told w true) := by
 have B0 : Below w.heap.size w ((w.alloc (.cells b.cs.toArray 64)).alloc (.cells b.cs.toArray 64)) := ((Below.refl _ _).alloc (Nat.le_refl _) _).alloc (by simp) _
 have hP : Bk ((w.alloc (.cells b.cs.toArray 64)).alloc (.cells b.cs.toArray 64)) w.heap.size b.cs.toArray 64 := (Bk.new w _ _).alloc _
 have hQ : Bk ((w.alloc (.cells b.cs.toArray 64)).alloc (.cells b.cs.toArray 64)) (w.heap.size + 1) b.cs.toArray 64 := by
  have := Bk.new (w.alloc (.cells b.cs.toArray 64)) b.cs.toArray 64
  rwa [World.size_alloc] at this
 have qH := equal_hash _ _ b.prev.len b.prev.len
 have qR := equal_hash _ _ b.root.len b.root.len
 simp only [beq_self_eq_true] at qH qR
 have hl1 : (bcs b.prev.l).length = 32 := by rw [bcs_length, b.prev.len]
 have hl2 : (bcs b.root.l).length = 32 := by rw [bcs_length, b.root.len]
 have k1 := fun (W : World) (p : Nat) (h : Bk W p b.cs.toArray 64) => isB_cells (blk_prev h)
 have k2 := fun (W : World) (p : Nat) (h : Bk W p b.cs.toArray 64) => isB_cells (blk_root h)
 have e0 := blk_cs0 b
 have e65 := blk_cs65 b
 have hz : b.cs.toArray.size = 66 := by simp [Blk.cs_len]
 obtain ⟨BA, hBA⟩ : ∃ x, b.cs.toArray = x := ⟨_, rfl⟩
 obtain ⟨HA, hHA⟩ : ∃ x, (bcs b.prev.l).toArray = x := ⟨_, rfl⟩
 obtain ⟨HR, hHR⟩ : ∃ x, (bcs b.root.l).toArray = x := ⟨_, rfl⟩
 have g1 : bcs b.prev.l = HA.toList := by rw [← hHA]
 have g2 : bcs b.root.l = HR.toList := by rw [← hHR]
 obtain ⟨nB, hnB⟩ : ∃ x, b.n = x := ⟨_, rfl⟩
 obtain ⟨cB, hcB⟩ : ∃ x, b.count = x := ⟨_, rfl⟩
 rw [hBA] at hP hQ B0 e0 e65 hz ⊢
 rw [hnB] at e0
 rw [hcB] at e65
 simp only [hBA] at k1 k2
 rw [hHA] at qH
 rw [hHR] at qR
 rw [g1] at k1 hl1
 rw [g2] at k2 hl2
 have HAS := Lib.hid hl1
 have HRS := Lib.hid hl2
 have K1 := Lib.hid k1
 have K2 := Lib.hid k2
 have HZ := Lib.hid hz
 clear hBA hHA hHR g1 g2 hl1 hl2 k1 k2 hnB hcB hz
 go_enter Tryz.func56, Tryz.ntmps56
 go_upto_region 1 with fail
 generalize ((w.alloc (.cells BA 64)).alloc (.cells BA 64)) = W at B0 hP hQ ⊢
 obtain ⟨px, hpx0⟩ : ∃ x, w.heap.size = x := ⟨_, rfl⟩
 obtain ⟨py, hpy0⟩ : ∃ x, px + 1 = x := ⟨_, rfl⟩
 have HG := Lib.hid hpx0
 rw [hpx0] at hP hQ B0
 rw [hpy0] at hQ
 simp only [hpx0, hpy0]
 have hpW : px ≤ W.heap.size := Nat.le_of_lt hP.lt
 clear hpx0 hpy0
 obtain ⟨x0,x65,y0,y65⟩ : W.cell? ⟨px,0,none⟩ = some (.int .i64 nB) ∧ W.cell? ⟨px,65,none⟩ = some (.int .i64 cB) ∧ W.cell? ⟨py,0,none⟩ = some (.int .i64 nB) ∧ W.cell? ⟨py,65,none⟩ = some (.int .i64 cB) := ⟨hP.c e0,hP.c e65,hQ.c e0,hQ.c e65⟩
 have Hpx1 := K1.out W px hP
 have Hpy1 := K1.out W py hQ
 have Hpx33 := K2.out W px hP
 have Hpy33 := K2.out W py hQ
 clear e0 e65 K1 K2 hP hQ
 go_wp2_with (first
  | ((with_reducible refine wpList_load_cells_if2 ?_ 53 _ rfl ⟨px, 1, none⟩ ?_ HA.toList Hpx1 hash_agg ?_ ?_); (rfl); (rfl); (rw [sizeHash, HAS.out]); (simp only [Array.toArray_toList]))
  | ((with_reducible refine wpList_load_cells_if2 ?_ 53 _ rfl ⟨py, 1, none⟩ ?_ HA.toList Hpy1 hash_agg ?_ ?_); (rfl); (rfl); (rw [sizeHash, HAS.out]); (simp only [Array.toArray_toList]))
  | ((with_reducible refine wpList_load_cells_if2 ?_ 53 _ rfl ⟨px,33,none⟩ ?_ HR.toList Hpx33 hash_agg ?_ ?_); (rfl); (rfl); (rw [sizeHash,HRS.out]); (simp only [Array.toArray_toList]))
  | ((with_reducible refine wpList_load_cells_if2 ?_ 53 _ rfl ⟨py,33,none⟩ ?_ HR.toList Hpy33 hash_agg ?_ ?_); (rfl); (rfl); (rw [sizeHash,HRS.out]); (simp only [Array.toArray_toList])))
 go_ret
 exact ⟨rfl, by rw [HG.out]; exact B0⟩
set_option maxRecDepth 100000 in
set_option maxHeartbeats 2000000 in
theorem equalBk_rfl (w : World) (ao : Option Addr) (n c : Nat) (bo0 : Option Addr) (c2 : Nat) (ls : List Blk) (ha : IsR EBk w ao n c ls) (hb9 : IsR EBk w bo0 n c2 ls) :
 Calls Tryz.prog 55 #[.slice ao n c,.slice bo0 n c2,.func (.func 56) #[] #[]] w (Told w true) := by
 have hln := ha.len
 have hmx : n ≤ maxLen := Nat.le_trans ha.le ha.max
 unfold maxLen at hmx
 go_enter Tryz.func55, Tryz.ntmps55
 go_wp2_with fail
 go_loopw [17] (fun i wr => ∃ j : Nat, j ≤ n ∧ i = .int .i64 (j : Nat) ∧ Below w.heap.size w wr) (fun i _ => n - (intOf i).toNat)
 case atStart => exact ⟨0, by omega, rfl, Below.refl _ _⟩
 case round =>
  obtain ⟨j, hj, rfl, hB⟩ := hrel
  by_cases hlt : j < n
  · have hlti : (j : Int) < (n : Int) := by omega
    obtain ⟨b, hbj⟩ : ∃ x, ls[j]? = some x := ⟨ls[j]'(by omega), List.getElem?_eq_getElem _⟩
    obtain ⟨ga, oa, rfl, hga, hca⟩ := blk_in (ha.past hB) hbj
    obtain ⟨gb, ob, rfl, hgb, hcb⟩ := blk_in (hb9.past hB) hbj
    have HS0 := fun w' : World => sameBlock_rfl w' b
    obtain ⟨BA, hBA⟩ : ∃ x, b.cs.toArray = x := ⟨_, rfl⟩
    have HD1 : Hid (BA.size = 66) := Lib.hid (by rw [← hBA]; simp [Blk.cs_len])
    have HD2 : Hid (BA.all (·.oneCell') = true) := Lib.hid (by rw [← hBA]; exact Array.all_eq_true_iff_forall_mem.2 fun v hv => EBk.one b v (Array.mem_toList_iff.2 hv))
    have HST : ∀ w' : World,Sem.run Tryz.prog (storeCells ⟨w'.heap.size,0,none⟩ BA.toList) (w'.alloc (.cells Tryz.zeroCells64 64)) = .ok () (w'.alloc (.cells BA 64)) := fun w' => run_storeCells_new w' 64 Tryz.zeroCells64 BA (by rw [HD1.out]; exact blk_size) (by rw [HD1.out]; kernel_rfl) HD2.out
    have hcb0 : b.cs = BA.toList := by rw [← hBA]
    rw [hcb0] at hca hcb
    simp only [hBA] at HS0
    clear hBA hcb0 hbj
    go_upto_region 6 with ((with_reducible refine wpList_load_cells rfl 64 _ rfl ⟨ga,oa + j * 66,none⟩ ?_ BA.toList hca dig_agg ?_ ?_); (rfl); (rw [blk_size,Array.length_toList,HD1.out]); (simp only [Array.toArray_toList]))
    have BX : Below wr.heap.size wr (wr.alloc (.cells BA 64)) := (Below.refl _ _).alloc (Nat.le_refl _) _
    have V5 : Bk (wr.alloc (.cells BA 64)) wr.heap.size BA 64 := Bk.new wr _ _
    have B5 := hB.trans (BX.mono hB.size)
    have hcb5 : ∀ q v,BA.toList[q]? = some v → (wr.alloc (.cells BA 64)).cell? ((⟨gb,ob + j * 66,none⟩ : Addr).add q) = some v := fun q v hv => by have := hcb q v hv; rw [Addr.add_lit] at this ⊢; exact (BX.cell hgb).trans this
    obtain ⟨pa, hpa⟩ : ∃ x, wr.heap.size = x := ⟨_, rfl⟩
    rw [hpa] at V5
    simp only [hpa]
    clear BX hpa hca hcb hB hga hgb
    generalize wr.alloc (.cells BA 64) = w5 at V5 B5 hcb5 ⊢
    go_upto_region 7 with ((with_reducible refine wpList_load_cells rfl 64 _ rfl ⟨gb,ob + j * 66,none⟩ ?_ BA.toList hcb5 dig_agg ?_ ?_); (rfl); (rw [blk_size,Array.length_toList,HD1.out]); (simp only [Array.toArray_toList]))
    have BX : Below w5.heap.size w5 (w5.alloc (.cells BA 64)) := (Below.refl _ _).alloc (Nat.le_refl _) _
    have V6 : Bk (w5.alloc (.cells BA 64)) w5.heap.size BA 64 := Bk.new w5 _ _
    have V56 := V5.past BX
    have B6 := B5.trans (BX.mono B5.size)
    obtain ⟨pb, hpb⟩ : ∃ x, w5.heap.size = x := ⟨_, rfl⟩
    rw [hpb] at V6
    simp only [hpb]
    clear BX hpb hcb5 B5 V5 HST
    generalize w5.alloc (.cells BA 64) = w6 at V6 V56 B6 ⊢
    have hx6 : ∀ q v, BA.toList[q]? = some v → w6.cell? ((⟨pa, 0, none⟩ : Addr).add q) = some v := fun q v hv => by rw [Addr.add_lit, Nat.zero_add]; exact V56.c (by simpa using hv)
    have hy6 : ∀ q v, BA.toList[q]? = some v → w6.cell? ((⟨pb, 0, none⟩ : Addr).add q) = some v := fun q v hv => by rw [Addr.add_lit, Nat.zero_add]; exact V6.c (by simpa using hv)
    go_wp2_with (first
     | ((with_reducible refine wpList_load_cells rfl 64 _ rfl ⟨pa,0,none⟩ ?_ BA.toList hx6 dig_agg ?_ ?_); (rfl); (rw [blk_size,Array.length_toList,HD1.out]); (simp only [Array.toArray_toList]))
     | ((with_reducible refine wpList_load_cells rfl 64 _ rfl ⟨pb,0,none⟩ ?_ BA.toList hy6 dig_agg ?_ ?_); (rfl); (rw [blk_size,Array.length_toList,HD1.out]); (simp only [Array.toArray_toList]))
     | (go_at_call 56; refine (HS0 _).mono ?_; rintro en w7 ⟨rfl, b7⟩))
    go_roundw
    case rel => exact ⟨j + 1, by omega, by go_num, B6.trans (b7.mono B6.size)⟩
    case measure => simp [intOf]; omega
  · have hlti : ¬ ((j : Int) < (n : Int)) := by omega
    go_wp2_with fail
    go_ret
    exact ⟨rfl, hB⟩
set_option maxRecDepth 100000 in
set_option maxHeartbeats 4000000 in
theorem ledgerSame_rfl (w : World) (Qa Qb : Nat → Prop) (next : Int) (oa : Option Addr) (on oc : Nat) (ba : Option Addr) (bn bc : Nat) (ta : Option Addr) (tn tc : Nat) (oa2 : Option Addr) (oc2 : Nat) (ba2 : Option Addr) (bc2 : Nat) (ta2 : Option Addr) (tc2 : Nat) (M : Lgr) (ha : LgR w Qa oa on oc ba bn bc ta tn tc M) (hb9 : LgR w Qb oa2 on oc2 ba2 bn bc2 ta2 tn tc2 M) :
 Calls Tryz.prog 26 #[.agg #[.int .i64 next,.slice oa on oc,.slice ba bn bc,.slice ta tn tc],.agg #[.int .i64 next,.slice oa2 on oc2,.slice ba2 bn bc2,.slice ta2 tn tc2]] w (Told w true) := by
 have B0 : Below w.heap.size w ((w.alloc (.cells #[.int .i64 next,.slice oa on oc,.slice ba bn bc,.slice ta tn tc] 29)).alloc (.cells #[.int .i64 next,.slice oa2 on oc2,.slice ba2 bn bc2,.slice ta2 tn tc2] 29)) := ((Below.refl _ _).alloc (Nat.le_refl _) _).alloc (by simp) _
 have hP : Bk ((w.alloc (.cells #[.int .i64 next,.slice oa on oc,.slice ba bn bc,.slice ta tn tc] 29)).alloc (.cells #[.int .i64 next,.slice oa2 on oc2,.slice ba2 bn bc2,.slice ta2 tn tc2] 29)) w.heap.size #[.int .i64 next,.slice oa on oc,.slice ba bn bc,.slice ta tn tc] 29 := (Bk.new w _ _).alloc _
 have hQ : Bk ((w.alloc (.cells #[.int .i64 next,.slice oa on oc,.slice ba bn bc,.slice ta tn tc] 29)).alloc (.cells #[.int .i64 next,.slice oa2 on oc2,.slice ba2 bn bc2,.slice ta2 tn tc2] 29)) (w.heap.size + 1) #[.int .i64 next,.slice oa2 on oc2,.slice ba2 bn bc2,.slice ta2 tn tc2] 29 := by
  have := Bk.new (w.alloc (.cells #[.int .i64 next,.slice oa on oc,.slice ba bn bc,.slice ta tn tc] 29)) #[.int .i64 next,.slice oa2 on oc2,.slice ba2 bn bc2,.slice ta2 tn tc2] 29
  rwa [World.size_alloc] at this
 have ha0 := ha.past B0
 have hb0 := hb9.past B0
 clear ha hb9
 go_enter Tryz.func26, Tryz.ntmps26
 go_upto_region 1 with fail
 generalize ((w.alloc (.cells #[.int .i64 next,.slice oa on oc,.slice ba bn bc,.slice ta tn tc] 29)).alloc (.cells #[.int .i64 next,.slice oa2 on oc2,.slice ba2 bn bc2,.slice ta2 tn tc2] 29)) = W at B0 hP hQ ha0 hb0 ⊢
 obtain ⟨px, hpx0⟩ : ∃ x, w.heap.size = x := ⟨_, rfl⟩
 obtain ⟨py, hpy0⟩ : ∃ x, px + 1 = x := ⟨_, rfl⟩
 have HG := Lib.hid hpx0
 rw [hpx0] at hP hQ B0
 rw [hpy0] at hQ
 simp only [hpx0, hpy0]
 have hpW : px ≤ W.heap.size := Nat.le_of_lt hP.lt
 clear hpx0 hpy0
 have HS1 := fun (w' : World) (hb : Below W.heap.size W w') => sameTxs_rfl w' Qa Qb oa on oc oa2 oc2 M.op (ha0.op.past hb) (hb0.op.past hb)
 have HS2 := fun (w' : World) (hb : Below W.heap.size W w') => equalBk_rfl w' ba bn bc ba2 bc2 M.bl (ha0.bl.flat.past hb) (hb0.bl.flat.past hb)
 have HS3 := fun (w' : World) (hb : Below W.heap.size W w') => equalTxs_rfl w' Qa Qb ta tn tc ta2 tc2 M.ts (ha0.ts.past hb) (hb0.ts.past hb)
 obtain ⟨x0,x1,x2,x3⟩ : W.cell? ⟨px,0,none⟩ = some (.int .i64 next) ∧ W.cell? ⟨px,1,none⟩ = some (.slice oa on oc) ∧ W.cell? ⟨px,2,none⟩ = some (.slice ba bn bc) ∧ W.cell? ⟨px,3,none⟩ = some (.slice ta tn tc) := ⟨hP.c rfl,hP.c rfl,hP.c rfl,hP.c rfl⟩
 obtain ⟨y0,y1,y2,y3⟩ : W.cell? ⟨py,0,none⟩ = some (.int .i64 next) ∧ W.cell? ⟨py,1,none⟩ = some (.slice oa2 on oc2) ∧ W.cell? ⟨py,2,none⟩ = some (.slice ba2 bn bc2) ∧ W.cell? ⟨py,3,none⟩ = some (.slice ta2 tn tc2) := ⟨hQ.c rfl,hQ.c rfl,hQ.c rfl,hQ.c rfl⟩
 clear ha0 hb0
 go_wp2_with (first
  | (go_at_call 54; refine (HS1 _ (Below.refl _ _)).mono ?_; rintro en w1 ⟨rfl,b1⟩; have P1 := hP.past b1; have Q1 := hQ.past b1; obtain ⟨u2,u3⟩ : w1.cell? ⟨px,2,none⟩ = some (.slice ba bn bc) ∧ w1.cell? ⟨px,3,none⟩ = some (.slice ta tn tc) := ⟨P1.c rfl,P1.c rfl⟩; obtain ⟨v2,v3⟩ : w1.cell? ⟨py,2,none⟩ = some (.slice ba2 bn bc2) ∧ w1.cell? ⟨py,3,none⟩ = some (.slice ta2 tn tc2) := ⟨Q1.c rfl,Q1.c rfl⟩)
  | (go_at_call 55; refine (HS2 _ b1).mono ?_; rintro en w2 ⟨rfl,b2⟩; have B2 := b1.trans (b2.mono b1.size); have P2 := hP.past B2; have Q2 := hQ.past B2; have s3 : w2.cell? ⟨px,3,none⟩ = some (.slice ta tn tc) := P2.c rfl; have t3 : w2.cell? ⟨py,3,none⟩ = some (.slice ta2 tn tc2) := Q2.c rfl)
  | (go_at_call 57; refine (HS3 _ B2).mono ?_; rintro en w3 ⟨rfl, b3⟩))
 go_ret
 exact ⟨rfl, by rw [HG.out]; exact B0.trans ((B2.trans (b3.mono B2.size)).mono hpW)⟩
end Go.Proofs.YtdmnjjknkcnkgaaGreatDoor
