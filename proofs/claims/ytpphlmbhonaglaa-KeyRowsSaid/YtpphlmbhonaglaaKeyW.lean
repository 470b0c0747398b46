/-
  The contract of key.Bytes.
-/
import Derived.Test.YtpphlmbhonaglaaKeyP
import Derived.Test.YtpphlmbhonaglaaRCmp6
import Derived.Test.YtpphlmbhonaglaaVAt
import Derived.Test.YtpphlmbhonaglaaLow
namespace Go.Proofs.Ytpphlmbhonaglaa
open Go.RowKit
set_option linter.unusedSimpArgs false

theorem shr_byte (U i : Nat) : Value.int .u8 ((U : Int) / 2 ^ (8 * i) % 256) = bc (UInt8.ofNat (U / 256 ^ i % 256)) := by
  have e : (2 : Nat) ^ (8 * i) = 256 ^ i := by rw [Nat.pow_mul]
  rw [← bc_mod, ← e]
  push_cast
  rfl
set_option maxRecDepth 100000 in
set_option maxHeartbeats 1000000 in
theorem appendInt_any (g n cap : Nat) (l : List UInt8) (x : Int) (hx : -9223372036854775808 ≤ x ∧ x ≤ 9223372036854775807) (w : World) (h : OwnB w 5 g n cap l) (hn : n ≤ 1000) :
    Calls Try.prog 45 #[.slice (some ⟨g, 0, none⟩) n cap, .int .i64 x] w (Went w g n (n + 8) (l ++ be 8 (x + 9223372036854775808).toNat)) := by
  obtain ⟨U, hU⟩ : ∃ U : Nat, x + 9223372036854775808 = (U : Int) := ⟨(x + 9223372036854775808).toNat, by omega⟩
  have hU2 : U < 18446744073709551616 := by omega
  rw [hU, Int.toNat_natCast]
  have hw : IntKind.u64.wrap (IntKind.u64.wrap x + 9223372036854775808) = (U : Int) := by rw [u64_wrap, u64_wrap]; unfold XU; omega
  go_enter Try.func45, Try.ntmps45
  go_wp2_with fail
  clear hw hU hx
  go_loopw [0, 10] (fun v i wr => ∃ j g' cap', j ≤ 8 ∧ i = .int .i64 (j : Nat) ∧ v = .slice (some ⟨g', 0, none⟩) (n + j) cap' ∧ OwnB wr 5 g' (n + j) cap' (l ++ (be 8 U).take j) ∧ Puts w wr g n ∧ (g' = g ∨ w.heap.size ≤ g')) (fun _ i _ => 8 - (intOf i).toNat)
  case atStart => exact ⟨0, g, cap, by omega, rfl, rfl, by simpa using h, Puts.refl _ _ _, .inl rfl⟩
  case round =>
    obtain ⟨j, g', cap', hj, rfl, rfl, ho, hp, hg'⟩ := hrel
    have hg := h.lt
    by_cases hlt' : j < 8
    · have HL : Hid (l ++ (be 8 U).take j ++ [UInt8.ofNat (U / 256 ^ (7 - j) % 256)] = l ++ (be 8 U).take (j + 1)) := by unfold Hid; rw [be_take 8 U j hlt', List.append_assoc]
      go_wp2_with (at_builtin; refine wpList_append_ob rfl _ _ 24 24 rfl 5 byteTy g' (n + j) cap' (l ++ (be 8 U).take j) rfl (ho.alloc _) _ rfl 1 [UInt8.ofNat (U / 256 ^ (7 - j) % 256)] (src_one byteTy.ht _ _ _ (shr_byte U (7 - j))) (n + (j + 1)) (by omega) (l ++ (be 8 U).take (j + 1)) HL.out (by omega) ?_; intro g2 cap2 w2 ho2 hp2 hg2)
      go_roundw
      case rel => exact ⟨j + 1, g2, cap2, by omega, by go_num, rfl, ho2, (hp.alloc _ hg).trans hp2 (by omega), by have := hp.size; simp at hg2; omega⟩
      case measure => simp [intOf]; omega
    · have hj1 : ¬ ((j : Int) < 8) := by omega
      go_wp2_with fail
      go_ret
      obtain rfl : j = 8 := by omega
      rw [List.take_of_length_le (by rw [be_length]; omega)] at ho
      exact ⟨g', cap', rfl, ho, hp, hg'⟩
set_option maxRecDepth 100000 in
set_option maxHeartbeats 1000000 in
theorem appendText_any (g n cap : Nat) (l : List UInt8) (s : ByteArray) (hs : s.size ≤ 60) (w : World) (h : OwnB w 5 g n cap l) (hn : n ≤ 1000) :
    Calls Try.prog 46 #[.slice (some ⟨g, 0, none⟩) n cap, .string s] w (Went w g n (n + (esc s.toList ++ [0, 1]).length) (l ++ (esc s.toList ++ [0, 1]))) := by
  have us := Try.underlying9
  have HS := Lib.hid (toList_len s)
  obtain ⟨M, hM⟩ : ∃ M, (esc s.toList ++ [0, 1]).length = M := ⟨_, rfl⟩
  rw [hM]
  have HM := Lib.hid hM
  clear hM
  go_enter Try.func46, Try.ntmps46
  go_wp2_with fail
  go_loopw [0, 8] (fun v i wr => ∃ j g' cap' m, j ≤ s.size ∧ i = .int .i64 (j : Nat) ∧ Hid (m = (esc (s.toList.take j)).length) ∧ m ≤ 2 * j ∧ v = .slice (some ⟨g', 0, none⟩) (n + m) cap' ∧ OwnB wr 5 g' (n + m) cap' (l ++ esc (s.toList.take j)) ∧ Puts w wr g n ∧ (g' = g ∨ w.heap.size ≤ g')) (fun _ i _ => s.size - (intOf i).toNat)
  case atStart => exact ⟨0, g, cap, 0, by omega, rfl, rfl, by omega, rfl, by simpa [esc] using h, Puts.refl _ _ _, .inl rfl⟩
  case round =>
    obtain ⟨j, g', cap', m, hj, rfl, hm, hm2, rfl, ho, hp, hg'⟩ := hrel
    have hg := h.lt
    by_cases hlt' : j < s.size
    · have hlt2 : (j : Int) < (s.size : Int) := by omega
      obtain ⟨x, hx, ix⟩ := str_get s j hlt'
      have ix1 := fun w => ix 9 w us
      have HT : Hid (esc (s.toList.take (j + 1)) = esc (s.toList.take j) ++ esc [x]) := by
        unfold Hid
        rw [List.take_add_one, hx, esc_append]
        rfl
      clear ix hx
      by_cases h0 : x = 0
      · subst h0
        have HL : Hid (l ++ esc (s.toList.take j) ++ [0] ++ [255] = l ++ esc (s.toList.take (j + 1))) := by
          unfold Hid
          rw [HT.out, List.append_assoc, List.append_assoc]
          rfl
        have HN : Hid (m + 2 = (esc (s.toList.take (j + 1))).length) := by
          unfold Hid
          rw [HT.out, List.length_append, ← hm.out]
          rfl
        go_wp2_with (first
          | (at_builtin; refine wpList_append_ob rfl _ _ 24 24 rfl 5 byteTy g' (n + m) cap' (l ++ esc (s.toList.take j)) rfl (ho.alloc _) _ rfl 1 [0] (src_one byteTy.ht _ _ _ rfl) (n + (m + 1)) (by omega) _ rfl (by omega) ?_; intro g2 cap2 w2 ho2 hp2 hg2)
          | (at_builtin; refine wpList_append_ob rfl _ _ 24 24 rfl 5 byteTy g2 (n + (m + 1)) cap2 _ rfl (ho2.alloc _) _ rfl 1 [255] (src_one byteTy.ht _ _ _ rfl) (n + (m + 2)) (by omega) (l ++ esc (s.toList.take (j + 1))) HL.out (by omega) ?_; intro g3 cap3 w3 ho3 hp3 hg3))
        go_roundw
        case rel =>
          have p2 := (hp.alloc _ hg).trans hp2 (by omega)
          have s1 := hp.size
          have s2 := p2.size
          simp at hg2 hg3
          exact ⟨j + 1, g3, cap3, m + 2, by omega, by go_num, HN, by omega, rfl, ho3, (p2.alloc _ hg).trans hp3 (by omega), by omega⟩
        case measure => simp [intOf]; omega
      · have h1 : ((x.toNat : Int) == 0) = false := by
          have := pos_of_ne h0
          simp
          intro e
          exact h0 (UInt8.toNat_inj.1 (by simpa using e))
        have h2 : ¬ (x.toNat : Int) = 0 := by simpa using h1
        have HE : esc [x] = [x] := by rw [esc, if_neg h0]; rfl
        have HL : Hid (l ++ esc (s.toList.take j) ++ [x] = l ++ esc (s.toList.take (j + 1))) := by
          unfold Hid
          rw [HT.out, HE, List.append_assoc]
        have HN : Hid (m + 1 = (esc (s.toList.take (j + 1))).length) := by
          unfold Hid
          rw [HT.out, List.length_append, ← hm.out, HE]
          rfl
        clear HE h0
        go_wp2_with (at_builtin; refine wpList_append_ob rfl _ _ 24 24 rfl 5 byteTy g' (n + m) cap' (l ++ esc (s.toList.take j)) rfl (ho.alloc _) _ rfl 1 [x] (src_one byteTy.ht _ _ _ rfl) (n + (m + 1)) (by omega) (l ++ esc (s.toList.take (j + 1))) HL.out (by omega) ?_; intro g2 cap2 w2 ho2 hp2 hg2)
        go_roundw
        case rel => exact ⟨j + 1, g2, cap2, m + 1, by omega, by go_num, HN, by omega, rfl, ho2, (hp.alloc _ hg).trans hp2 (by omega), by have := hp.size; simp at hg2; omega⟩
        case measure => simp [intOf]; omega
    · have hj1 : ¬ ((j : Int) < (s.size : Int)) := by omega
      obtain rfl : j = s.size := by omega
      have e : s.toList.take s.size = s.toList := List.take_of_length_le (by rw [HS.out]; omega)
      rw [e] at ho hm
      obtain rfl : M = m + 2 := by rw [← HM.out, List.length_append, ← hm.out]; rfl
      go_wp2_with (at_builtin; refine wpList_append_ob rfl _ _ 24 24 rfl 5 byteTy g' (n + m) cap' (l ++ esc s.toList) rfl (ho.alloc _) _ rfl 2 [0, 1] (src_lit byteTy.ht _ _ _ 2 rfl rfl) (n + (m + 2)) (by omega) (l ++ (esc s.toList ++ [0, 1])) (List.append_assoc _ _ _) (by omega) ?_; intro g2 cap2 w2 ho2 hp2 hg2)
      go_ret
      exact ⟨g2, cap2, rfl, ho2, (hp.alloc _ hg).trans hp2 (by omega), by have := hp.size; simp at hg2; omega⟩
/-- NEW BYTES, with no room behind, are answered. -/
def FreshI (w : World) (l : List UInt8) (en : Ending) (w' : World) : Prop :=
  ∃ g, en = .returned (.slice (some ⟨g, 0, none⟩) l.length l.length) ∧ IsB w' (some ⟨g, 0, none⟩) l.length l.length l ∧ Below w.heap.size w w' ∧ w.heap.size ≤ g
theorem elemB (w' : World) : (sizeOf (Try.prog.elem 24)).run Try.prog w' = .ok 1 w' := by kernel_rfl
theorem IsB_trim {w : World} {ao : Option Addr} {n cap : Nat} {l : List UInt8} (h : IsB w ao n cap l) (h0 : 0 < n) : IsB w ao n n l :=
  ⟨h.len, Nat.le_refl _, Nat.le_trans h.le h.max, fun e => by have := h.nil e; have := h.le; omega, h.cell⟩
set_option maxRecDepth 100000 in
set_option maxHeartbeats 1000000 in
theorem keyBytes_any (v : V) (hv : Vok v) (w : World) : Calls Try.prog 21 #[v.val] w (FreshI w (keyB v)) := by
  have b0 : ∀ o, Below w.heap.size w (w.alloc o) := fun o => (Below.refl _ _).alloc (Nat.le_refl _) o
  have ow : ∀ (w : World) (u : UInt8) (x : Value), x = bc u → OwnB (w.alloc (.cells #[x] 5)) 5 w.heap.size 1 1 [u] := fun w u x hx => by
    subst hx
    exact ⟨rfl, Nat.le_refl _, by simp [maxLen], _, heap_alloc_new w _, rfl, rfl⟩
  have b1 : ∀ o o', Below w.heap.size w ((w.alloc o).alloc o') := fun o o' => (b0 o).alloc (b0 o).size o'
  cases hv with
  | none =>
    show Calls Try.prog 21 #[vv 0 0 ByteArray.empty] w _
    go_enter Try.func21, Try.ntmps21
    go_wp2_with fail
    go_ret
    have o := ow (w.alloc (.cells #[.int .i64 0, .int .i64 0, .string ByteArray.empty] 39)) 0 (.int .u8 0) rfl
    rw [World.size_alloc] at o
    exact ⟨w.heap.size + 1, rfl, o.isB, b1 _ _, by omega⟩
  | bool n hn =>
    rcases hn with rfl | rfl
    all_goals
      show Calls Try.prog 21 #[vv 1 _ ByteArray.empty] w _
      have b3 : ∀ o o' o'', Below w.heap.size w (((w.alloc o).alloc o').alloc o'') := fun o o' o'' => (b1 o o').alloc (b1 o o').size o''
      have o := fun y => ow (w.alloc (.cells #[.int .i64 1, .int .i64 y, .string ByteArray.empty] 39)) 1 (.int .u8 1) rfl
      have sr := fun y u (hu : Value.int .u8 y = bc u) => src_one (P := Try.prog) byteTy.ht ((w.alloc (.cells #[.int .i64 1, .int .i64 y, .string ByteArray.empty] 39)).alloc (.cells #[.int .u8 1] 5)) (.int .u8 y) u hu
      simp only [World.size_alloc] at o sr
      go_enter Try.func21, Try.ntmps21
      go_wp2_with (first
        | (at_builtin; (refine wpList_append_ob rfl _ _ 24 24 rfl 5 byteTy (w.heap.size + 1) 1 1 [1] rfl ((o 0).alloc _) _ rfl 1 [0] (sr 0 0 rfl) 2 (by omega) [1, 0] rfl (by omega) ?_); intro g2 c2 w2 o2 p2 q2; have h2 := o2.le)
        | (at_builtin; (refine wpList_append_ob rfl _ _ 24 24 rfl 5 byteTy (w.heap.size + 1) 1 1 [1] rfl ((o 1).alloc _) _ rfl 1 [1] (sr 1 1 rfl) 2 (by omega) [1, 1] rfl (by omega) ?_); intro g2 c2 w2 o2 p2 q2; have h2 := o2.le))
      go_ret
      exact ⟨g2, rfl, IsB_trim o2.isB (show 0 < 2 by omega), (b3 _ _ _).trans (p2.below (by omega) (b3 _ _ _).size), by simp at q2; omega⟩
  | int n hn =>
    show Calls Try.prog 21 #[vv 2 n ByteArray.empty] w _
    have o := ow (w.alloc (.cells #[.int .i64 2, .int .i64 n, .string ByteArray.empty] 39)) 2 (.int .u8 2) rfl
    have t0 := (VAt.new w 2 n ByteArray.empty).alloc (.cells #[.int .u8 2] 5)
    have B1 := b1 (.cells #[.int .i64 2, .int .i64 n, .string ByteArray.empty] 39) (.cells #[.int .u8 2] 5)
    rw [World.size_alloc] at o
    have HA := fun w' h' => appendInt_any (w.heap.size + 1) 1 1 [2] n hn w' h' (by omega)
    have E : keyB ⟨2, n, ByteArray.empty⟩ = [2] ++ be 8 (n + 9223372036854775808).toNat := rfl
    have EL : (keyB ⟨2, n, ByteArray.empty⟩).length = 9 := by rw [E, List.length_append, be_length]; rfl
    rw [← E] at HA
    unfold FreshI
    rw [EL]
    generalize keyB ⟨2, n, ByteArray.empty⟩ = KB at HA
    clear E EL
    go_enter Try.func21, Try.ntmps21
    go_wp2_with (go_at_call 45; (with_reducible refine (HA _ o).mono ?_); rintro e w2 ⟨g2, c2, rfl, o2, p2, q2⟩; have h2 := o2.le)
    go_ret
    exact ⟨g2, rfl, IsB_trim o2.isB (by omega), B1.trans (p2.below (by omega) B1.size), by have := B1.size; omega⟩
  | text s hs =>
    show Calls Try.prog 21 #[vv 3 0 s] w _
    have o := ow (w.alloc (.cells #[.int .i64 3, .int .i64 0, .string s] 39)) 3 (.int .u8 3) rfl
    have t0 := (VAt.new w 3 0 s).alloc (.cells #[.int .u8 3] 5)
    have B1 := b1 (.cells #[.int .i64 3, .int .i64 0, .string s] 39) (.cells #[.int .u8 3] 5)
    rw [World.size_alloc] at o
    have HA := fun w' h' => appendText_any (w.heap.size + 1) 1 1 [3] s hs w' h' (by omega)
    have E : keyB ⟨3, 0, s⟩ = [3] ++ (esc s.toList ++ [0, 1]) := rfl
    have EL : (keyB ⟨3, 0, s⟩).length = 1 + (esc s.toList ++ [0, 1]).length := by rw [E, List.length_append]; rfl
    rw [← E] at HA
    unfold FreshI
    rw [EL]
    generalize keyB ⟨3, 0, s⟩ = KB at HA
    generalize (esc s.toList ++ [0, 1]).length = M at HA
    clear E EL
    go_enter Try.func21, Try.ntmps21
    go_wp2_with (go_at_call 46; (with_reducible refine (HA _ o).mono ?_); rintro e w2 ⟨g2, c2, rfl, o2, p2, q2⟩; have h2 := o2.le)
    go_ret
    exact ⟨g2, rfl, IsB_trim o2.isB (by omega), B1.trans (p2.below (by omega) B1.size), by have := B1.size; omega⟩
end Go.Proofs.Ytpphlmbhonaglaa
