/-
  The reference of chapter 4: Compare of two texts.
-/
import Derived.Test.YtllijeciodmckaaOrd4
import Derived.Test.YtllijeciodmckaaVAt
import Derived.Deep.QuietTactic
import Derived.BigQuiet
import Derived.Deep.RegionHeld3
namespace Go.Proofs.Ytllijeciodmckaa
open Go.RowKit
set_option linter.unusedSimpArgs false
set_option maxRecDepth 100000 in
theorem rorder_any (a b : Int) (w : World) : Calls Try.prog 140 #[.int .i64 a, .int .i64 b] w fun e w' => e = .returned (.int .i64 (cmpI a b)) ∧ w = w' := by
  go_enter Try.func140, Try.ntmps140
  go_wp2_with fail
  all_goals (go_ret; exact ⟨ret_int (by unfold cmpI; (repeat' split) <;> omega), rfl⟩)
theorem rorder_q (a b : Int) (w : World) : Calls Try.prog 140 #[.int .i64 a, .int .i64 b] w fun e w' => e = .returned (.int .i64 (cmpI a b)) ∧ w' = w := (rorder_any a b w).mono fun _ _ h => ⟨h.1, h.2.symm⟩
theorem cmpL_front2 : ∀ (p a b : List UInt8), cmpL (p ++ a) (p ++ b) = cmpL a b
  | [], _, _ => rfl
  | x :: p, a, b => by
    have := cmpL_front2 p a b
    simp only [List.cons_append, cmpL, this, or2, cmpI]
    simp
theorem cmpL_at (l m : List UInt8) (i : Nat) (h : l.take i = m.take i) : cmpL l m = cmpL (l.drop i) (m.drop i) := by
  conv => lhs; rw [← List.take_append_drop i l, ← List.take_append_drop i m, h]
  exact cmpL_front2 _ _ _
theorem cmpL_end (l m : List UInt8) (i : Nat) (h : l.take i = m.take i) (h1 : i ≤ l.length) (h2 : i ≤ m.length) (h3 : l.length ≤ i ∨ m.length ≤ i) : cmpL l m = cmpI l.length m.length := by
  rw [cmpL_at l m i h]
  rcases h3 with h3 | h3
  · rw [List.drop_eq_nil_of_le h3]
    cases hd : m.drop i with
    | nil =>
      have := congrArg List.length hd
      simp at this
      unfold cmpI cmpL
      (repeat' split) <;> omega
    | cons y t =>
      have := congrArg List.length hd
      simp at this
      unfold cmpI cmpL
      (repeat' split) <;> omega
  · rw [List.drop_eq_nil_of_le h3]
    cases hd : l.drop i with
    | nil =>
      have := congrArg List.length hd
      simp at this
      unfold cmpI cmpL
      (repeat' split) <;> omega
    | cons y t =>
      have := congrArg List.length hd
      simp at this
      unfold cmpI cmpL
      (repeat' split) <;> omega
theorem cmpL_here (l m : List UInt8) (i : Nat) (x y : UInt8) (h : l.take i = m.take i) (h1 : l[i]? = some x) (h2 : m[i]? = some y) (hne : x ≠ y) : cmpL l m = cmpI x.toNat y.toNat := by
  obtain ⟨k1, e1⟩ := List.getElem?_eq_some_iff.1 h1
  obtain ⟨k2, e2⟩ := List.getElem?_eq_some_iff.1 h2
  rw [cmpL_at l m i h, List.drop_eq_getElem_cons k1, List.drop_eq_getElem_cons k2, e1, e2]
  have hn : x.toNat ≠ y.toNat := fun e => hne (UInt8.toNat_inj.1 e)
  simp only [cmpL, or2, cmpI]
  (repeat' split) <;> omega
theorem take_next (l m : List UInt8) (i : Nat) (x : UInt8) (h : l.take i = m.take i) (h1 : l[i]? = some x) (h2 : m[i]? = some x) : l.take (i + 1) = m.take (i + 1) := by
  rw [List.take_add_one, List.take_add_one, h, h1, h2]
theorem str_get (s : ByteArray) (i : Nat) (hi : i < s.size) : ∃ x : UInt8, s.toList[i]? = some x ∧ ∀ (t : TypeId) (w : World), Try.prog.underlying t = some .string → (Instr.index t (.string s) (.int .i64 (i : Int))).run Try.prog w = .ok (.int .u8 (x.toNat : Int)) w := by
  refine ⟨s[i], ?_, fun t w ht => ?_⟩
  · rw [ByteArray.toList_eq, Array.getElem?_toList]
    exact Array.getElem?_eq_getElem (xs := s.data) hi
  · rw [run_index_string w t s .i64 i ht, dif_pos ⟨by omega, by omega⟩]
    rfl
theorem toList_len (s : ByteArray) : s.toList.length = s.size := by
  rw [ByteArray.toList_eq]
  rfl
set_option maxRecDepth 100000 in
set_option maxHeartbeats 4000000 in
theorem rcmp4_text (s s' : ByteArray) (w : World) (hs : s.size ≤ 1000000) (hs' : s'.size ≤ 1000000) :
    Calls Try.prog 87 #[vv 3 0 s, vv 3 0 s'] w fun e w' => e = .returned (.int .i64 (cmpL s.toList s'.toList)) ∧ Below w.heap.size w w' := by
  have b0 : Below w.heap.size w ((w.alloc (.cells #[.int .i64 3, .int .i64 0, .string s] 55)).alloc (.cells #[.int .i64 3, .int .i64 0, .string s'] 55)) := ((Below.refl _ _).alloc (Nat.le_refl _) _).alloc (by simp) _
  have t1 := (VAt.new w 3 0 s).alloc (.cells #[.int .i64 3, .int .i64 0, .string s'] 55)
  have t2 := VAt.new (w.alloc (.cells #[.int .i64 3, .int .i64 0, .string s] 55)) 3 0 s'
  simp only [World.size_alloc] at t2
  have us := Try.underlying9
  have HS := Lib.hid (toList_len s)
  have HS' := Lib.hid (toList_len s')
  go_enter Try.func87, Try.ntmps87
  go_wp2_with fail
  generalize ((w.alloc (.cells #[.int .i64 3, .int .i64 0, .string s] 55)).alloc (.cells #[.int .i64 3, .int .i64 0, .string s'] 55)) = wa at b0 t1 t2 ⊢
  go_loopw [5] (fun v wq => ∃ i : Nat, v = .int .i64 i ∧ i ≤ s.size ∧ i ≤ s'.size ∧ Hid (s.toList.take i = s'.toList.take i) ∧ Below wa.heap.size wa wq) (fun v _ => s.size + 1 - (intOf v).toNat)
  case atStart => exact ⟨0, rfl, by omega, by omega, by simp [Hid], Below.refl _ _⟩
  case round =>
    obtain ⟨i, rfl, hi1, hi2, HP, hB⟩ := hrel
    have v1 := t1.past hB
    have v2 := t2.past hB
    obtain ⟨c10, c11, c12, -, -, -, -⟩ := id v1
    obtain ⟨c20, c21, c22, -, -, -, -⟩ := id v2
    have Bd : ∀ n, Below wr.heap.size wr (wr.drewN n) := fun n => ⟨rfl, rfl, rfl, Nat.le_refl _, fun _ _ => rfl⟩
    by_cases h1 : i < s.size
    · by_cases h2 : i < s'.size
      · obtain ⟨x, hx, ix⟩ := str_get s i h1
        obtain ⟨y, hy, iy⟩ := str_get s' i h2
        have ix1 := fun w => ix 9 w us
        have iy1 := fun w => iy 9 w us
        have HX := Lib.hid hx
        have HY := Lib.hid hy
        clear ix iy hx hy
        by_cases hxy : x = y
        · subst hxy
          have HN : Hid (s.toList.take (i + 1) = s'.toList.take (i + 1)) := take_next _ _ i x HP.out HX.out HY.out
          clear HX HY HP
          go_wp2_with fail
          go_quiet (fail)
          go_wp2_with fail
          go_roundw
          case rel => exact ⟨i + 1, by go_num, by omega, by omega, HN, hB.trans ⟨rfl, rfl, rfl, Nat.le_refl _, fun _ _ => rfl⟩⟩
          case measure => simp [intOf]; omega
        · have hc := cmpL_here _ _ i x y HP.out HX.out HY.out hxy
          have HC := Lib.hid hc
          have hn : ¬ (x.toNat : Int) = (y.toNat : Int) := fun e => hxy (UInt8.toNat_inj.1 (by omega))
          have hn2 : ((x.toNat : Int) != (y.toNat : Int)) = true := by simp; omega
          clear HX HY HP hc hxy
          have wx : IntKind.i64.wrap (x.toNat : Int) = (x.toNat : Int) := IntWalk.i64_in _ (by have := x.toNat_lt; omega)
          have wy : IntKind.i64.wrap (y.toNat : Int) = (y.toNat : Int) := IntWalk.i64_in _ (by have := y.toNat_lt; omega)
          go_wp2_with fail
          go_quiet (fail)
          go_wp2_with fail
          go_region_held3 (fun w' => w'.cell? ⟨w.heap.size, 2, none⟩ = some (.string s) ∧ w'.cell? ⟨w.heap.size + 1, 2, none⟩ = some (.string s')) (go_keep) (first | (go_at_call 140; refine (rorder_any _ _ _).mono ?_; rintro e w' ⟨rfl, rfl⟩))
          all_goals
            go_wp2_with fail
            go_ret
            exact ⟨ret_int (by first | exact HC.out.symm | (rw [wx, wy]; exact HC.out.symm)), b0.trans ((hB.trans ((Bd _).mono hB.size)).mono b0.size)⟩
      · have hc := cmpL_end _ _ i HP.out (by rw [HS.out]; exact hi1) (by rw [HS'.out]; exact hi2) (.inr (by rw [HS'.out]; omega))
        rw [HS.out, HS'.out] at hc
        have HC := Lib.hid hc
        have z1 : ¬ (i : Int) < (s'.size : Int) := by omega
        clear hc HP
        go_wp2_with (go_at_call 140; refine (rorder_any _ _ _).mono ?_; rintro e w' ⟨rfl, rfl⟩)
        go_ret
        exact ⟨ret_int (by rw [HC.out]), b0.trans (hB.mono b0.size)⟩
    · have hc := cmpL_end _ _ i HP.out (by rw [HS.out]; exact hi1) (by rw [HS'.out]; exact hi2) (.inl (by rw [HS.out]; omega))
      rw [HS.out, HS'.out] at hc
      have HC := Lib.hid hc
      have z1 : ¬ (i : Int) < (s.size : Int) := by omega
      clear hc HP
      go_wp2_with (go_at_call 140; refine (rorder_any _ _ _).mono ?_; rintro e w' ⟨rfl, rfl⟩)
      go_ret
      exact ⟨ret_int (by rw [HC.out]), b0.trans (hB.mono b0.size)⟩
set_option maxRecDepth 100000 in
set_option maxHeartbeats 2000000 in
theorem rcmp4_kinds (k n : Int) (s : ByteArray) (k' n' : Int) (s' : ByteArray) (w : World) (h : k ≠ k') :
    Calls Try.prog 87 #[vv k n s, vv k' n' s'] w fun e w' => e = .returned (.int .i64 (cmpI k k')) ∧ Below w.heap.size w w' := by
  have b0 : ∀ o o', Below w.heap.size w ((w.alloc o).alloc o') := fun o o' => ((Below.refl _ _).alloc (Nat.le_refl _) o).alloc (by simp) o'
  have h2 : (k != k') = true := by simp [h]
  go_enter Try.func87, Try.ntmps87
  go_wp2_with (go_at_call 140; refine (rorder_any _ _ _).mono ?_; rintro e w' ⟨rfl, rfl⟩)
  go_ret
  exact ⟨rfl, b0 _ _⟩
set_option maxRecDepth 100000 in
set_option maxHeartbeats 2000000 in
theorem rcmp4_nums (k n : Int) (s : ByteArray) (n' : Int) (s' : ByteArray) (w : World) (h : k ≠ 3) :
    Calls Try.prog 87 #[vv k n s, vv k n' s'] w fun e w' => e = .returned (.int .i64 (cmpI n n')) ∧ Below w.heap.size w w' := by
  have b0 : ∀ o o', Below w.heap.size w ((w.alloc o).alloc o') := fun o o' => ((Below.refl _ _).alloc (Nat.le_refl _) o).alloc (by simp) o'
  have h2 : (k != 3) = true := by simp [h]
  go_enter Try.func87, Try.ntmps87
  go_wp2_with (go_at_call 140; refine (rorder_any _ _ _).mono ?_; rintro e w' ⟨rfl, rfl⟩)
  go_ret
  exact ⟨rfl, b0 _ _⟩
/-- Of two valid values. -/
theorem rcmp4_any (k n : Int) (s : ByteArray) (k' n' : Int) (s' : ByteArray) (w : World) (h : Val k n s) (h' : Val k' n' s') :
    Calls Try.prog 87 #[vv k n s, vv k' n' s'] w fun e w' => e = .returned (.int .i64 (cmpV k n s k' n' s')) ∧ Below w.heap.size w w' := by
  have c0 : cmpS ByteArray.empty ByteArray.empty = 0 := by rw [cmpS_list]; exact (cmpL_zero _ _).2 rfl
  by_cases hk : k = k'
  · subst hk
    have ek : cmpI k k = 0 := (cmpI_zero _ _).2 rfl
    by_cases h3 : k = 3
    · subst h3
      cases h with
      | text _ hs =>
        cases h' with
        | text _ hs' =>
          have e : cmpV 3 0 s 3 0 s' = cmpL s.toList s'.toList := by
            simp only [cmpV, or3_two, cmpS_list]
            simp [or2, cmpI]
          rw [e]
          exact rcmp4_text s s' w (by omega) (by omega)
    · have e : cmpV k n s k n' s' = cmpI n n' := by
        have es : s = ByteArray.empty := by cases h <;> first | rfl | exact absurd rfl h3
        have es' : s' = ByteArray.empty := by cases h' <;> first | rfl | exact absurd rfl h3
        rw [es, es', cmpV, ek, c0]
        unfold or3
        (repeat' split) <;> omega
      rw [e]
      exact rcmp4_nums k n s n' s' w h3
  · have e : cmpV k n s k' n' s' = cmpI k k' := by
      have : cmpI k k' ≠ 0 := fun e => hk ((cmpI_zero _ _).1 e)
      rw [cmpV, or3, if_neg this]
    rw [e]
    exact rcmp4_kinds k n s k' n' s' w hk
end Go.Proofs.Ytllijeciodmckaa
