/-
  Holds: slices' Clone, Index, Contains, IndexFunc, ContainsFunc, Equal; a hold's conflicts, as (by gen_lkc.py).
-/
import Derived.Test.YtllijeciodmckaaHdE
import Derived.Deep.QuietTactic
import Derived.BigQuiet
import Derived.Deep.CutRange
import Derived.Lib.SliceRun
namespace Go.Proofs.Ytllijeciodmckaa
open Go.RowKit
set_option linter.unusedSimpArgs false
theorem eqlS_nilH {P : Program} (w : World) (t e : TypeId) (h : P.underlying t = some (.slice e)) (a : Addr) (n c : Nat) : (binOp .eql t (.slice (some a) n c) (.slice none 0 0)).run P w = .ok (.bool false) w := by
  simpa using Lib.run_eql_slice_nil w t e (some a) n c 0 0 h
set_option maxRecDepth 100000 in
/-- A copy, of the call's own. -/
theorem clone_hd (w : World) (ao : Option Addr) (n c : Nat) (l : List Hd) (h : IsR EHd w ao n c l) (hm : n ≤ 1000000) :
    Calls Try.prog 102 #[.slice ao n c] w fun e w' => ∃ ao' c', e = .returned (.slice ao' n c') ∧ TxtR EHd w' 101 w.heap.size ao' n c' l ∧ Below w.heap.size w w' := by
  have hln := h.len
  cases ao with
  | none =>
    obtain rfl := h.nil rfl
    have hle := h.le
    obtain rfl : n = 0 := by omega
    obtain rfl : l = [] := List.eq_nil_of_length_eq_zero hln
    have hnil := fun w' : World => Lib.run_eql_slice_nil (P := Try.prog) w' 94 101 none 0 0 0 0 Try.underlying94
    simp only [Option.isNone_none] at hnil
    go_enter Try.func102, Try.ntmps102
    go_wp2_with fail
    go_ret
    exact ⟨none, 0, rfl, TxtR.nil _ _ _, Below.refl _ _⟩
  | some a =>
    obtain ⟨b, off, sp⟩ := a
    have o0 : OwnR EHd (w.alloc (.cells #[] 101)) 101 w.heap.size 0 0 [] := ⟨rfl, Nat.le_refl _, Nat.zero_le _, #[], heap_alloc_new w _, rfl, rfl⟩
    have B0 : Below w.heap.size w (w.alloc (.cells #[] 101)) := (Below.refl _ _).alloc (Nat.le_refl _) _
    have hs := (h.past B0).src (P := Try.prog) Try.underlying94
    have hnil := fun w' : World => eqlS_nilH (P := Try.prog) w' 94 101 Try.underlying94 ⟨b, off, sp⟩ n c
    go_enter Try.func102, Try.ntmps102
    go_wp2_with (at_builtin; refine wpList_append_or rfl _ _ 94 94 rfl 101 rowTyHd w.heap.size 0 0 [] rfl o0 _ rfl n l hs hln n (Nat.zero_add n) l rfl (by omega) ?_; intro g1 c1 w1 o1 p1 q1)
    go_ret
    exact ⟨_, c1, rfl, ⟨.inr ⟨g1, rfl, o1, by rcases q1 with rfl | q1; exact Nat.le_refl _; rw [World.size_alloc] at q1; omega⟩⟩, B0.trans (p1.below (Nat.le_refl _) (by rw [World.size_alloc]; omega))⟩
theorem idx_hit {l : List Hd} {x : Hd} {j : Nat} (hn : ∀ y ∈ l.take j, x ≠ y) (hj : l[j]? = some x) : idx l x = (j : Nat) := by
  have hjl := (List.getElem?_eq_some_iff.1 hj).1
  have : l.findIdx? (fun k => decide (x = k)) = some j := by
    refine List.findIdx?_eq_some_iff_getElem.2 ⟨hjl, ?_, fun i hi => ?_⟩
    · rw [← Option.some.inj ((List.getElem?_eq_getElem hjl).symm.trans hj)]
      simp
    · have := hn (l[i]'(by omega)) (List.mem_take_iff_getElem.2 ⟨i, by omega, rfl⟩)
      simpa using this
  unfold idx
  rw [this]
theorem idx_miss {l : List Hd} {x : Hd} (hn : ∀ y ∈ l, x ≠ y) : idx l x = -1 := by
  have : l.findIdx? (fun k => decide (x = k)) = none := List.findIdx?_eq_none_iff.2 fun y hy => decide_eq_false (hn y hy)
  unfold idx
  rw [this]
theorem idx_mem (l : List Hd) (x : Hd) : decide (0 ≤ idx l x) = decide (x ∈ l) := by
  by_cases h : x ∈ l
  · rw [decide_eq_true h]
    unfold idx
    cases hq : l.findIdx? (fun k => decide (x = k)) with
    | none => exact absurd h (idx_none hq)
    | some i => exact decide_eq_true (Int.natCast_nonneg i)
  · rw [decide_eq_false h, idx_miss fun y hy e => h (by rw [e]; exact hy)]
    rfl
theorem take_ne {l : List Hd} {x y : Hd} {j : Nat} (hn : ∀ z ∈ l.take j, x ≠ z) (hj : l[j]? = some y) (he : x ≠ y) : ∀ z ∈ l.take (j + 1), x ≠ z := by
  intro z hz
  rw [List.take_add_one, hj] at hz
  rcases List.mem_append.1 hz with hz | hz
  · exact hn z hz
  · obtain rfl : z = y := by simpa using hz
    exact he
set_option maxRecDepth 100000 in
set_option maxHeartbeats 1000000 in
theorem index_hd (w : World) (ao : Option Addr) (n c : Nat) (l : List Hd) (h : IsR EHd w ao n c l) (x : Hd) :
    Calls Try.prog 157 #[.slice ao n c, x.val] w fun e w' => e = .returned (.int .i64 (idx l x)) ∧ Below w.heap.size w w' := by
  have hln := h.len
  have hmx := h.max
  have hle := h.le
  unfold maxLen at hmx
  have X := HdB.new w x 101
  have BA : Below w.heap.size w (w.alloc (.cells #[.int .i64 x.s, .string (bsOf x.t), .bool x.x] 101)) := (Below.refl _ _).alloc (Nat.le_refl _) _
  obtain ⟨xs, xt, xb⟩ := x
  unfold Hd.val
  simp only at X BA ⊢
  go_enter Try.func157, Try.ntmps157
  go_upto_region 1 with fail
  generalize w.alloc (.cells #[.int .i64 xs, .string (bsOf xt), .bool xb] 101) = W at X BA ⊢
  obtain ⟨p, hp⟩ : ∃ p, w.heap.size = p := ⟨_, rfl⟩
  have HP := Lib.hid hp
  rw [hp] at X BA
  simp only [hp]
  have hpW := X.lt
  have hpW' : p ≤ W.heap.size := Nat.le_of_lt hpW
  have h1 : IsR EHd W ao n c l := h.past (by rw [HP.out]; exact BA)
  clear hp h
  go_wp2_with fail
  go_loopw [8] (fun i wr => ∃ j : Nat, j ≤ n ∧ i = .int .i64 (j : Nat) ∧ Below W.heap.size W wr ∧ Hid (∀ y ∈ l.take j, (⟨xs, xt, xb⟩ : Hd) ≠ y)) (fun i _ => n - (intOf i).toNat)
  case atStart => exact ⟨0, by omega, rfl, Below.refl _ _, Lib.hid (by simp)⟩
  case round =>
    obtain ⟨j, hj, rfl, hB, htk⟩ := hrel
    by_cases hlt : j < n
    · have hlti : (j : Int) < (n : Int) := by omega
      obtain ⟨y, hy⟩ : ∃ v, l[j]? = some v := ⟨l[j]'(by omega), List.getElem?_eq_getElem _⟩
      obtain ⟨b, off, rfl, hb, hc⟩ := h1.open (by omega) (by decide)
      obtain ⟨p0, p1, p2⟩ := cells_hd hc j y hy
      rw [← hB.drew.cell hb] at p0 p1 p2
      obtain ⟨q0, q1, q2⟩ := (X.past hB.drew).c
      have hnx : Hid ((⟨xs, xt, xb⟩ : Hd) ≠ y → ∀ z ∈ l.take (j + 1), (⟨xs, xt, xb⟩ : Hd) ≠ z) := Lib.hid (take_ne htk.out hy)
      have hst : Hid ((⟨xs, xt, xb⟩ : Hd) = y → idx l ⟨xs, xt, xb⟩ = (j : Nat)) := Lib.hid fun e => idx_hit htk.out (by rw [hy, e])
      clear hc hy htk
      obtain ⟨ys, yt, yb⟩ := y
      simp only at p0 p1 p2 q0 q1 q2
      by_cases e1 : xs = ys
      · subst e1
        by_cases e2 : xt = yt
        · subst e2
          have f1 : ((bsOf xt).toList == (bsOf xt).toList) = true := by simp
          by_cases e3 : xb = yb
          · have HR := Lib.hid (hst.out (by rw [e3]))
            clear hst hnx
            go_wp2_with fail
            go_region
            all_goals
              go_wp2_with fail
              go_ret
              exact ⟨by rw [HR.out]; rfl, by rw [HP.out]; exact BA.trans (hB.drew.mono hpW')⟩
          · have HR := Lib.hid (hnx.out (fun e => e3 (Hd.mk.inj e).2.2))
            clear hst hnx
            go_wp2_with fail
            go_region
            all_goals
              go_wp2_with fail
              go_roundw
              case rel => exact ⟨j + 1, by omega, by go_num, hB.drew, HR⟩
              case measure => simp [intOf]; omega
        · have f1 : ¬ ((bsOf xt).toList = (bsOf yt).toList) := by
            rw [ByteArray.toList_eq, ByteArray.toList_eq, bsOf_toList, bsOf_toList]
            exact e2
          have HR := Lib.hid (hnx.out (fun e => e2 (Hd.mk.inj e).2.1))
          clear hst hnx
          go_wp2_with fail
          go_region
          all_goals
            go_wp2_with fail
            go_roundw
            case rel => exact ⟨j + 1, by omega, by go_num, hB.drew, HR⟩
            case measure => simp [intOf]; omega
      · have HR := Lib.hid (hnx.out (fun e => e1 (Hd.mk.inj e).1))
        clear hst hnx
        go_wp2_with fail
        go_region
        all_goals
          go_wp2_with fail
          go_roundw
          case rel => exact ⟨j + 1, by omega, by go_num, hB.drew, HR⟩
          case measure => simp [intOf]; omega
    · have hlti : ¬ ((j : Int) < (n : Int)) := by omega
      obtain rfl : j = n := by omega
      have HR := Lib.hid (idx_miss (by rw [List.take_of_length_le (by omega)] at htk; exact htk.out))
      clear htk
      go_wp2_with fail
      go_ret
      exact ⟨by rw [HR.out]; rfl, by rw [HP.out]; exact BA.trans (hB.mono hpW')⟩
set_option maxRecDepth 100000 in
theorem contains_hd (w : World) (ao : Option Addr) (n c : Nat) (l : List Hd) (h : IsR EHd w ao n c l) (x : Hd) :
    Calls Try.prog 154 #[.slice ao n c, x.val] w fun e w' => e = .returned (.bool (decide (x ∈ l))) ∧ Below w.heap.size w w' := by
  have X := HdB.new w x 101
  have BA : Below w.heap.size w (w.alloc (.cells #[.int .i64 x.s, .string (bsOf x.t), .bool x.x] 101)) := (Below.refl _ _).alloc (Nat.le_refl _) _
  have HI := index_hd _ ao n c l (h.past BA) x
  have hm := idx_mem l x
  obtain ⟨i, hi⟩ : ∃ i, idx l x = i := ⟨_, rfl⟩
  obtain ⟨bb, hbb⟩ : ∃ bb, decide (x ∈ l) = bb := ⟨_, rfl⟩
  rw [hi] at HI hm
  rw [hbb] at hm ⊢
  clear hi hbb
  have HM := Lib.hid hm
  clear hm
  obtain ⟨xs, xt, xb⟩ := x
  unfold Hd.val at HI ⊢
  simp only at X BA HI ⊢
  go_enter Try.func154, Try.ntmps154
  go_upto_region 1 with fail
  generalize w.alloc (.cells #[.int .i64 xs, .string (bsOf xt), .bool xb] 101) = W at X BA HI ⊢
  obtain ⟨q0, q1, q2⟩ := X.c
  go_wp2_with (go_at_call 157; refine HI.mono ?_; rintro e w1 ⟨rfl, b1⟩)
  go_ret
  refine ⟨?_, BA.trans (b1.mono BA.size)⟩
  rw [← HM.out]
  rfl
set_option maxRecDepth 100000 in
theorem conflicts_any (w : World) (h k : Hd) :
    Calls Try.prog 105 #[h.val, k.val] w fun e w' => e = .returned (.bool (clash h k)) ∧ Below w.heap.size w w' := by
  have B0 : Below w.heap.size w (w.alloc (.cells #[.int .i64 h.s, .string (bsOf h.t), .bool h.x] 101)) := (Below.refl _ _).alloc (Nat.le_refl _) _
  have B1 := B0.alloc B0.size (.cells #[.int .i64 k.s, .string (bsOf k.t), .bool k.x] 101)
  obtain ⟨hs, ht, hx⟩ := h
  obtain ⟨ks, kt, kx⟩ := k
  unfold Hd.val
  simp only at B0 B1 ⊢
  by_cases e1 : hs = ks
  · subst e1
    have HR : Hid (clash ⟨hs, ht, hx⟩ ⟨hs, kt, kx⟩ = false) := by simp [Hid, clash]
    have f0 : (hs != hs) = false := by simp
    go_enter Try.func105, Try.ntmps105
    go_wp2_with fail
    try go_quiet (fail)
    go_wp2_with fail
    go_ret
    exact ⟨by rw [HR.out]; rfl, B1⟩
  · have f0 : (hs != ks) = true := by simpa using e1
    by_cases e2 : ht = kt
    · subst e2
      have f1 : ((bsOf ht).toList == (bsOf ht).toList) = true := by simp
      cases hx
      · have HR : Hid (clash ⟨hs, ht, false⟩ ⟨ks, ht, kx⟩ = kx) := by simp [Hid, clash, e1]
        go_enter Try.func105, Try.ntmps105
        go_wp2_with fail
        try go_quiet (fail)
        go_wp2_with fail
        go_ret
        exact ⟨by rw [HR.out]; rfl, B1⟩
      · have HR : Hid (clash ⟨hs, ht, true⟩ ⟨ks, ht, kx⟩ = true) := by simp [Hid, clash, e1]
        go_enter Try.func105, Try.ntmps105
        go_wp2_with fail
        try go_quiet (fail)
        go_wp2_with fail
        go_ret
        exact ⟨by rw [HR.out]; rfl, B1⟩
    · have f1 : ¬ ((bsOf ht).toList = (bsOf kt).toList) := by
        rw [ByteArray.toList_eq, ByteArray.toList_eq, bsOf_toList, bsOf_toList]
        exact e2
      have HR : Hid (clash ⟨hs, ht, hx⟩ ⟨ks, kt, kx⟩ = false) := by simp [Hid, clash, e2]
      go_enter Try.func105, Try.ntmps105
      go_wp2_with fail
      try go_quiet (fail)
      go_wp2_with fail
      go_ret
      exact ⟨by rw [HR.out]; rfl, B1⟩
theorem as_any (w : World) (h : Hd) (x : Bool) :
    Calls Try.prog 155 #[h.val, .bool x] w fun e w' => e = .returned (h.as x).val ∧ Below w.heap.size w w' := by
  have B0 : Below w.heap.size w (w.alloc (.cells #[.int .i64 h.s, .string (bsOf h.t), .bool x] 101)) := (Below.refl _ _).alloc (Nat.le_refl _) _
  have B1 := B0.alloc B0.size (.cells #[.int .i64 h.s, .string (bsOf h.t), .bool x] 101)
  obtain ⟨hs, ht, hx⟩ := h
  unfold Hd.val Hd.as
  simp only at B0 B1 ⊢
  go_enter Try.func155, Try.ntmps155
  go_wp2_with fail
  refine bodyPost_ret (v := .agg #[.int .i64 hs, .string (bsOf ht), .bool x]) (by simp [results, Try.results155, go_sem]) rfl ?_
  exact ⟨rfl, B1⟩
end Go.Proofs.Ytllijeciodmckaa
