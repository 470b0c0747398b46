/-
  The statements' own Good, of a value: as a function.
-/
import Derived.Test.YtllijeciodmckaaV
import Derived.Test.YtllijeciodmckaaLaw4
import Derived.Test.YtllijeciodmckaaRowT
namespace Go.Proofs.Ytllijeciodmckaa
open Go.RowKit

/-- The valid value of a raw one. -/
def gd (v : V) : V :=
  if wth v.k 4 = 1 then ⟨1, wth v.n 2, ByteArray.empty⟩ else if wth v.k 4 = 2 then ⟨2, v.n, ByteArray.empty⟩
  else if wth v.k 4 = 3 then ⟨3, 0, v.s.extract 0 (min v.s.size 60)⟩ else ⟨0, 0, ByteArray.empty⟩
set_option maxRecDepth 100000 in
set_option maxHeartbeats 1000000 in
theorem goodv_any (k n : Int) (s : ByteArray) (w : World) :
    Calls Try.prog 89 #[vv k n s] w fun e w' => e = .returned (gd ⟨k, n, s⟩).val ∧ Below w.heap.size w w' := by
  have l1 := wth_lo k 4 (by omega)
  have l2 := wth_hi k 4 (by omega)
  have c1 : ∀ w, Calls Try.prog 141 #[.int .i64 k, .int .i64 4] w fun e w' => e = .returned (.int .i64 (wth k 4)) ∧ w = w' := fun w => within4_any k 4 w (by omega) (by omega)
  have c2 : ∀ w, Calls Try.prog 141 #[.int .i64 n, .int .i64 2] w fun e w' => e = .returned (.int .i64 (wth n 2)) ∧ w = w' := fun w => within4_any n 2 w (by omega) (by omega)
  have G : Hid (gd ⟨k, n, s⟩ = if wth k 4 = 1 then ⟨1, wth n 2, ByteArray.empty⟩ else if wth k 4 = 2 then ⟨2, n, ByteArray.empty⟩
    else if wth k 4 = 3 then ⟨3, 0, s.extract 0 (min s.size 60)⟩ else ⟨0, 0, ByteArray.empty⟩) := rfl
  generalize wth k 4 = z at l1 l2 c1 G
  generalize wth n 2 = m at c2 G
  generalize gd ⟨k, n, s⟩ = V at G
  have b0 : ∀ o o', Below w.heap.size w ((w.alloc o).alloc o') := fun o o' => ((Below.refl _ _).alloc (Nat.le_refl _) o).alloc (by simp) o'
  by_cases h1 : z = 1
  · subst h1
    obtain rfl : V = ⟨1, m, ByteArray.empty⟩ := G.out
    clear G
    go_enter Try.func89, Try.ntmps89
    go_wp2_with (first | (go_at_call 141; (with_reducible refine (c1 _).mono ?_); rintro e w' ⟨rfl, rfl⟩) | (go_at_call 141; (with_reducible refine (c2 _).mono ?_); rintro e w' ⟨rfl, rfl⟩))
    refine bodyPost_ret (v := vv 1 m ByteArray.empty) (by simp [results, Try.results89, go_sem]; rfl) rfl ⟨rfl, b0 _ _⟩
  by_cases h2 : z = 2
  · subst h2
    obtain rfl : V = ⟨2, n, ByteArray.empty⟩ := G.out
    clear G
    go_enter Try.func89, Try.ntmps89
    go_wp2_with (first | (go_at_call 141; (with_reducible refine (c1 _).mono ?_); rintro e w' ⟨rfl, rfl⟩) | (go_at_call 141; (with_reducible refine (c2 _).mono ?_); rintro e w' ⟨rfl, rfl⟩))
    refine bodyPost_ret (v := vv 2 n ByteArray.empty) (by simp [results, Try.results89, go_sem]; rfl) rfl ⟨rfl, b0 _ _⟩
  by_cases h3 : z = 3
  · subst h3
    obtain rfl : V = ⟨3, 0, s.extract 0 (min s.size 60)⟩ := G.out
    clear G
    go_enter Try.func89, Try.ntmps89
    go_wp2_with (first | (go_at_call 141; (with_reducible refine (c1 _).mono ?_); rintro e w' ⟨rfl, rfl⟩) | (go_at_call 141; (with_reducible refine (c2 _).mono ?_); rintro e w' ⟨rfl, rfl⟩))
    refine bodyPost_ret (v := vv 3 0 (s.extract 0 (min s.size 60))) (by simp [results, Try.results89, go_sem]; rw [show (min (s.size : Int) 60).toNat = min s.size 60 by omega]) rfl ⟨rfl, b0 _ _⟩
  · obtain rfl : z = 0 := by omega
    obtain rfl : V = ⟨0, 0, ByteArray.empty⟩ := G.out
    clear G
    go_enter Try.func89, Try.ntmps89
    go_wp2_with (first | (go_at_call 141; (with_reducible refine (c1 _).mono ?_); rintro e w' ⟨rfl, rfl⟩) | (go_at_call 141; (with_reducible refine (c2 _).mono ?_); rintro e w' ⟨rfl, rfl⟩))
    refine bodyPost_ret (v := vv 0 0 ByteArray.empty) (by simp [results, Try.results89, go_sem]; rfl) rfl ⟨rfl, b0 _ _⟩
/-- Small values alone. -/
def fewB (l : List V) : Bool := l.all fun v => decide ((v.s.size : Int) ≤ 80)
theorem fewB_take (l : List V) (j : Nat) (v : V) (h : l[j]? = some v) : fewB (l.take (j + 1)) = (fewB (l.take j) && decide ((v.s.size : Int) ≤ 80)) := by
  obtain ⟨hj, rfl⟩ := List.getElem?_eq_some_iff.1 h
  unfold fewB
  rw [List.take_succ_eq_append_getElem hj, List.all_append]
  simp only [List.all_cons, List.all_nil, Bool.and_true]
theorem fewB_false (l : List V) (j : Nat) (v : V) (h : l[j]? = some v) (hv : decide ((v.s.size : Int) ≤ 80) = false) : fewB l = false := by
  unfold fewB
  rw [List.all_eq_false]
  exact ⟨v, List.mem_of_getElem? h, by rw [hv]; simp⟩
set_option maxRecDepth 100000 in
set_option maxHeartbeats 1000000 in
theorem few5_any (ao : Option Addr) (n cap : Nat) (l : List V) (w : World) (h : IsR EV w ao n cap l) :
    Calls Try.prog 72 #[.slice ao n cap] w fun e w' => e = .returned (.bool (fewB l && decide ((n : Int) ≤ 12))) ∧ Below w.heap.size w w' := by
  have hln := h.len
  have hmx := h.max
  have hle := h.le
  unfold maxLen at hmx
  go_enter Try.func72, Try.ntmps72
  go_wp2_with fail
  go_loopw [3] (fun i wr => ∃ j : Nat, j ≤ n ∧ i = .int .i64 (j : Nat) ∧ Below w.heap.size w wr ∧ Hid (fewB (l.take j) = true)) (fun i _ => n - (intOf i).toNat)
  case atStart => exact ⟨0, by omega, rfl, Below.refl _ _, rfl⟩
  case round =>
    obtain ⟨j, hj, rfl, hB, hf⟩ := hrel
    by_cases hlt : j < n
    · obtain ⟨v, hv⟩ : ∃ v, l[j]? = some v := ⟨l[j]'(by omega), List.getElem?_eq_getElem _⟩
      obtain ⟨b, off, rfl, hb, hc⟩ := h.open (by omega) (by decide)
      obtain ⟨c0, c1, c2⟩ := cells_v hc j v hv
      rw [← hB.cell hb] at c0 c1 c2
      have hfew := few_any v.k v.n v.s
      have HT := fewB_take l j v hv
      have HF := fewB_false l j v hv
      obtain ⟨k, m, s⟩ := v
      simp only at c0 c1 c2 hfew HT HF
      have HT' := Lib.hid HT
      have HF' := Lib.hid HF
      clear hc HT HF hv
      cases q : decide ((s.size : Int) ≤ 80) <;> rw [q] at hfew HT' HF'
      · go_wp2_with (go_at_call 130; (with_reducible refine (hfew _).mono ?_); rintro e w1 ⟨rfl, b1⟩)
        go_ret
        rw [HF'.out trivial]
        exact ⟨rfl, hB.trans (b1.mono hB.size)⟩
      · go_wp2_with (go_at_call 130; (with_reducible refine (hfew _).mono ?_); rintro e w1 ⟨rfl, b1⟩)
        go_roundw
        case rel => exact ⟨j + 1, by omega, by go_num, hB.trans (b1.mono hB.size), by unfold Hid; rw [HT'.out, hf.out]; rfl⟩
        case measure => simp [intOf]; omega
    · obtain rfl : j = n := by omega
      rw [List.take_of_length_le (by omega)] at hf
      go_wp2_with fail
      go_ret
      rw [hf.out]
      exact ⟨rfl, hB⟩
set_option maxRecDepth 100000 in
set_option maxHeartbeats 1000000 in
/-- A new row of the valid values. -/
theorem good5_any (ao : Option Addr) (n cap : Nat) (l : List V) (w : World) (h : IsR EV w ao n cap l) (hn : n ≤ 300) :
    Calls Try.prog 31 #[.slice ao n cap] w fun e w' => ∃ ao' cap', e = .returned (.slice ao' n cap') ∧ Below w.heap.size w w' ∧
      ((n = 0 ∧ ao' = none ∧ cap' = 0) ∨ ∃ g, ao' = some ⟨g, 0, none⟩ ∧ OwnR EV w' 55 g n cap' (l.map gd) ∧ w.heap.size ≤ g) := by
  have hln := h.len
  go_enter Try.func31, Try.ntmps31
  go_wp2_with fail
  go_loopw [3, 4] (fun r i wr => ∃ j : Nat, j ≤ n ∧ i = .int .i64 (j : Nat) ∧ Below w.heap.size w wr ∧ ((j = 0 ∧ r = .slice none 0 0) ∨ ∃ g c, 0 < j ∧ r = .slice (some ⟨g, 0, none⟩) j c ∧ OwnR EV wr 55 g j c ((l.take j).map gd) ∧ w.heap.size ≤ g)) (fun _ i _ => n - (intOf i).toNat)
  case atStart => exact ⟨0, by omega, rfl, Below.refl _ _, .inl ⟨rfl, rfl⟩⟩
  case round =>
    obtain ⟨j, hj, rfl, hB, hr⟩ := hrel
    by_cases hlt : j < n
    · obtain ⟨v, hv⟩ : ∃ v, l[j]? = some v := ⟨l[j]'(by omega), List.getElem?_eq_getElem _⟩
      obtain ⟨b, off, rfl, hb, hc⟩ := h.open (by omega) (by decide)
      obtain ⟨c0, c1, c2⟩ := cells_v hc j v hv
      rw [← hB.cell hb] at c0 c1 c2
      have HG := goodv_any v.k v.n v.s
      have HT : Hid ((l.take j).map gd ++ [gd v] = (l.take (j + 1)).map gd) := by
        obtain ⟨hj, rfl⟩ := List.getElem?_eq_some_iff.1 hv
        rw [List.take_succ_eq_append_getElem hj, List.map_append]
        exact rfl
      obtain ⟨k, m, s⟩ := v
      simp only at c0 c1 c2 HG
      generalize gd ⟨k, m, s⟩ = x at HG HT
      obtain ⟨k', m', s'⟩ := x
      simp only [V.val] at HG
      clear hc hv
      have one : ∀ w : World, IsR EV (w.alloc (.cells #[.int .i64 k', .int .i64 m', .string s'] 55)) (some ⟨w.heap.size, 0, none⟩) 1 1 [⟨k', m', s'⟩] := fun w => (OwnR.ofBlk (E := EV) (l := [⟨k', m', s'⟩]) (n := 1) (heap_alloc_new w _) rfl rfl (by omega)).isR
      have one' := Lib.hid one
      clear one
      rcases hr with ⟨rfl, rfl⟩ | ⟨g, c, hp, rfl, ho, hg⟩
      · simp only [Nat.zero_mul, Nat.add_zero] at c0 c1 c2
        go_wp2_with (first
          | (go_at_call 89; (with_reducible refine (HG _).mono ?_); rintro e w1 ⟨rfl, b1⟩)
          | (at_builtin; refine wpList_append_nr rfl _ _ 49 49 rfl 55 rowTyV 0 rfl rfl _ rfl 1 [⟨k', m', s'⟩] ((one'.out w1).src rowTyV.ht) rfl (by omega) (by omega) ?_; intro g2 c2' w2 o2 b2 q2))
        have s1 := b1.size
        have s2 : w1.heap.size ≤ (w1.alloc (.cells #[.int .i64 k', .int .i64 m', .string s'] 55)).heap.size := by simp
        have B1 := (hB.trans (b1.mono hB.size)).alloc (Nat.le_trans hB.size s1) (.cells #[.int .i64 k', .int .i64 m', .string s'] 55)
        go_roundw
        case rel => exact ⟨1, by omega, by go_num, B1.trans (b2.mono B1.size), .inr ⟨g2, c2', by omega, rfl, by rw [← HT.out]; exact o2, by have := hB.size; omega⟩⟩
        case measure => simp [intOf]; omega
      · go_wp2_with (first
          | (go_at_call 89; (with_reducible refine (HG _).mono ?_); rintro e w1 ⟨rfl, b1⟩)
          | (at_builtin; refine wpList_append_or rfl _ _ 49 49 rfl 55 rowTyV g j c _ rfl ((ho.past b1).alloc _) _ rfl 1 [⟨k', m', s'⟩] ((one'.out w1).src rowTyV.ht) rfl (j + 1) rfl _ HT.out (by omega) ?_; intro g2 c2' w2 o2 p2 q2))
        have s1 := b1.size
        have s0 := hB.size
        have B1 := (hB.trans (b1.mono hB.size)).alloc (Nat.le_trans hB.size s1) (.cells #[.int .i64 k', .int .i64 m', .string s'] 55)
        simp only [World.size_alloc] at q2
        go_roundw
        case rel => exact ⟨j + 1, by omega, by go_num, B1.trans (p2.below hg B1.size), .inr ⟨g2, c2', by omega, rfl, o2, by omega⟩⟩
        case measure => simp [intOf]; omega
    · obtain rfl : j = n := by omega
      rw [List.take_of_length_le (by omega)] at hr
      rcases hr with ⟨rfl, rfl⟩ | ⟨g, c, hp, rfl, ho, hg⟩
      · go_wp2_with fail
        go_ret
        exact ⟨none, 0, rfl, hB, by simp⟩
      · go_wp2_with fail
        go_ret
        exact ⟨some ⟨g, 0, none⟩, c, rfl, hB, .inr ⟨g, rfl, ho, hg⟩⟩
end Go.Proofs.Ytllijeciodmckaa
