/-
  What the statements of stage 6 share: known, within, below.
-/
import Derived.Test.YtpphlmbhonaglaaKeyR
namespace Go.Proofs.Ytpphlmbhonaglaa
open Go.RowKit
set_option linter.unusedSimpArgs false

theorem within6_any (a n : Int) (w : World) (hn : 0 < n) (hn2 : n ≤ 1000000) :
    Calls Try.prog 20 #[.int .i64 a, .int .i64 n] w fun e w' => e = .returned (.int .i64 (wth a n)) ∧ w = w' := by
  have h1 := Int.lt_tmod_of_pos a hn
  have h2 := Int.tmod_lt_of_pos a hn
  have hz : (n == 0) = false := by simp; omega
  by_cases h3 : a.tmod n < 0
  · go_enter Try.func20, Try.ntmps20
    go_wp2_with fail
    go_ret
    exact ⟨ret_int (by unfold wth; rw [if_pos h3]), rfl⟩
  · go_enter Try.func20, Try.ntmps20
    go_wp2_with fail
    go_ret
    exact ⟨ret_int (by unfold wth; rw [if_neg (by omega)]), rfl⟩
theorem isB_new (w : World) (cs : Array Value) (l : List UInt8) (m : Nat) (hv : cs.toList = bcs l) (hm : l.length = m) (hM : m ≤ 1000000) : IsB (w.alloc (.cells cs 5)) (some ⟨w.heap.size, 0, none⟩) m m l := by
  have hs : cs.size = m := by rw [← Array.length_toList, hv, bcs_length, hm]
  exact (⟨hm, Nat.le_refl _, by unfold maxLen; omega, cs, heap_alloc_new w _, hs, by rw [hv, List.take_of_length_le (by rw [bcs_length]; omega)]⟩ : OwnB _ 5 _ m m l).isB
set_option maxRecDepth 100000 in
set_option maxHeartbeats 2000000 in
theorem known6_any (w : World) : Calls Try.prog 17 #[] w fun e w' => e = .returned (.bool true) ∧ Below w.heap.size w w' := by
  have HB : Calls Try.prog 21 #[.agg #[.int .i64 0, .int .i64 0, .string ⟨#[]⟩]] w (FreshI w [0]) := keyBytes_any V0 Vok.none w
  have HP : ∀ (w' : World), IsB (w'.alloc (.cells #[.int .u8 0, .int .u8 7] 5)) (some ⟨w'.heap.size, 0, none⟩) 2 2 [0, 7] → Calls Try.prog 24 #[.slice (some ⟨w'.heap.size, 0, none⟩) 2 2] (w'.alloc (.cells #[.int .u8 0, .int .u8 7] 5)) fun e w2 => e = .returned (.tuple #[vv 0 0 ByteArray.empty, .int .i64 1, .int .i64 0]) ∧ Below (w'.alloc (.cells #[.int .u8 0, .int .u8 7] 5)).heap.size (w'.alloc (.cells #[.int .u8 0, .int .u8 7] 5)) w2 := fun w' h => keyParse_any V0 Vok.none (some ⟨w'.heap.size, 0, none⟩) 2 2 [7] _ h (by omega)
  go_enter Try.func17, Try.ntmps17
  go_wp2_with (first
    | (go_at_call 21; (with_reducible refine HB.mono ?_); rintro e w1 ⟨g1, rfl, i1, b1, q1⟩; have c1 : w1.cell? ⟨g1, 0, none⟩ = some (.int .u8 0) := i1.cell _ rfl 0 0 rfl; have l1 := World.block_lt_of_cell? w1 _ c1)
    | (go_at_call 24; (with_reducible refine (HP w1 (isB_new w1 _ _ 2 rfl rfl (by omega))).mono ?_); rintro e w2 ⟨rfl, b2⟩; have B2 := (Below.alloc (Below.refl w1.heap.size w1) (Nat.le_refl _) (.cells #[.int .u8 0, .int .u8 7] 5)).trans (b2.mono (by simp)); have c2 := cell_past c1 B2; have l2 := World.block_lt_of_cell? w2 _ c2; have t2 := VAt.new w2 0 0 ⟨#[]⟩; obtain ⟨z0, z1, z2, y0, y1, y2, -⟩ := t2; have ne : ¬ (g1 = w2.heap.size) := Nat.ne_of_lt l2; have ne2 : ¬ (w2.heap.size = g1) := fun e => ne e.symm; have c3 := cell_past c2 (Below.alloc (Below.refl w2.heap.size w2) (Nat.le_refl _) (.cells #[.int .i64 0, .int .i64 0, .string ⟨#[]⟩] 39)); have B3 := b1.trans ((B2.trans ((Below.alloc (Below.refl w2.heap.size w2) (Nat.le_refl _) (.cells #[.int .i64 0, .int .i64 0, .string ⟨#[]⟩] 39)).mono B2.size)).mono b1.size)))
  go_ret
  exact ⟨rfl, B3⟩
set_option maxRecDepth 100000 in
set_option maxHeartbeats 4000000 in
/-- Bytes held against one another. -/
theorem below_any (ao : Option Addr) (n cap : Nat) (a : List UInt8) (bo : Option Addr) (m cap' : Nat) (b : List UInt8) (w : World) (ha : IsB w ao n cap a) (hb : IsB w bo m cap' b) (hn : n ≤ 1000000) (hm : m ≤ 1000000) :
    Calls Try.prog 22 #[.slice ao n cap, .slice bo m cap'] w fun e w' => e = .returned (.int .i64 (cmpL a b)) ∧ Below w.heap.size w w' := by
  have HS := Lib.hid ha.len
  have HS' := Lib.hid hb.len
  have la := ha.len
  have lb := hb.len
  go_enter Try.func22, Try.ntmps22
  go_wp2_with fail
  go_loopw [5] (fun v wq => ∃ i : Nat, v = .int .i64 i ∧ i ≤ n ∧ i ≤ m ∧ Hid (a.take i = b.take i) ∧ Below w.heap.size w wq) (fun v _ => n + 1 - (intOf v).toNat)
  case atStart => exact ⟨0, rfl, by omega, by omega, by simp [Hid], Below.refl _ _⟩
  case round =>
    obtain ⟨i, rfl, hi1, hi2, HP, hB⟩ := hrel
    by_cases h1 : i < n
    · by_cases h2 : i < m
      · have h1' : (i : Int) < n := by omega
        have h2' : (i : Int) < m := by omega
        obtain ⟨ba, oa, rfl, hca⟩ := IsB_open ha (by omega)
        obtain ⟨bb, ob, rfl, hcb⟩ := IsB_open hb (by omega)
        have ca := cell_past (hca i h1) hB
        have cb := cell_past (hcb i h2) hB
        obtain ⟨x, hx⟩ : ∃ x, a[i]? = some x := ⟨a[i]'(by omega), List.getElem?_eq_getElem _⟩
        obtain ⟨y, hy⟩ : ∃ y, b[i]? = some y := ⟨b[i]'(by omega), List.getElem?_eq_getElem _⟩
        have ex : a.getD i 0 = x := by rw [List.getD, hx]; rfl
        have ey : b.getD i 0 = y := by rw [List.getD, hy]; rfl
        rw [ex] at ca
        rw [ey] at cb
        clear hca hcb ex ey
        by_cases hxy : x = y
        · subst hxy
          have HN : Hid (a.take (i + 1) = b.take (i + 1)) := take_next _ _ i x HP.out hx hy
          clear HP hx hy
          go_wp2_with fail
          go_quiet (fail)
          go_wp2_with fail
          go_roundw
          case rel => exact ⟨i + 1, by go_num, by omega, by omega, HN, hB.trans ⟨rfl, rfl, rfl, Nat.le_refl _, fun _ _ => rfl⟩⟩
          case measure => simp [intOf]; omega
        · have hc := cmpL_here _ _ i x y HP.out hx hy hxy
          have HC := Lib.hid hc
          have hn : ¬ (x.toNat : Int) = (y.toNat : Int) := fun e => hxy (UInt8.toNat_inj.1 (by omega))
          have hn2 : ((x.toNat : Int) != (y.toNat : Int)) = true := by simp; omega
          have Bd : ∀ n, Below wr.heap.size wr (wr.drewN n) := fun n => ⟨rfl, rfl, rfl, Nat.le_refl _, fun _ _ => rfl⟩
          clear HP hc hxy hx hy
          rcases Nat.lt_or_gt_of_ne (fun e => hn (by omega) : x.toNat ≠ y.toNat) with q | q
          · have q1 : (x.toNat : Int) < (y.toNat : Int) := by omega
            have e : cmpI (x.toNat : Int) y.toNat = -1 := by unfold cmpI; rw [if_pos q1]
            rw [e] at HC
            go_wp2_with fail
            go_quiet (fail)
            go_wp2_with fail
            go_quiet (fail)
            go_wp2_with fail
            go_ret
            exact ⟨ret_int HC.out.symm, hB.trans ⟨rfl, rfl, rfl, Nat.le_refl _, fun _ _ => rfl⟩⟩
          · have q1 : ¬ (x.toNat : Int) < (y.toNat : Int) := by omega
            have e : cmpI (x.toNat : Int) y.toNat = 1 := by unfold cmpI; rw [if_neg q1, if_pos (by omega)]
            rw [e] at HC
            go_wp2_with fail
            go_quiet (fail)
            go_wp2_with fail
            go_quiet (fail)
            go_wp2_with fail
            go_ret
            exact ⟨ret_int HC.out.symm, hB.trans ⟨rfl, rfl, rfl, Nat.le_refl _, fun _ _ => rfl⟩⟩
      · have hc := cmpL_end _ _ i HP.out (by omega) (by omega) (.inr (by omega))
        rw [la, lb] at hc
        have HC := Lib.hid hc
        have z1 : ¬ (i : Int) < (m : Int) := by omega
        have z0 : (i : Int) < (n : Int) := by omega
        have z3 : ¬ (n : Int) < m := by omega
        have z4 : (m : Int) < n := by omega
        clear hc HP
        go_wp2_with fail
        go_ret
        exact ⟨ret_int (by rw [HC.out]; unfold cmpI; (repeat' split) <;> omega), hB⟩
    · have hc := cmpL_end _ _ i HP.out (by omega) (by omega) (.inl (by omega))
      rw [la, lb] at hc
      have HC := Lib.hid hc
      have z1 : ¬ (i : Int) < (n : Int) := by omega
      clear hc HP
      by_cases z3 : (n : Int) < m
      · go_wp2_with fail
        go_ret
        exact ⟨ret_int (by rw [HC.out]; unfold cmpI; (repeat' split) <;> omega), hB⟩
      · have z4 : ¬ (m : Int) < n := by omega
        go_wp2_with fail
        go_ret
        exact ⟨ret_int (by rw [HC.out]; unfold cmpI; (repeat' split) <;> omega), hB⟩
end Go.Proofs.Ytpphlmbhonaglaa
