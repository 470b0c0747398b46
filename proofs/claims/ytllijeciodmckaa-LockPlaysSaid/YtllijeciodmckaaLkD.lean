/-
  Holds: slices' IndexFunc, ContainsFunc, DeleteFunc; lock's without (by gen_lkd.py).
-/
import Derived.Test.YtllijeciodmckaaLkC
import Derived.Test.YtllijeciodmckaaOwn3
namespace Go.Proofs.Ytllijeciodmckaa
open Go.RowKit
set_option linter.unusedSimpArgs false
/-- Where the first one of that kind stands, or -1. -/
def fidx (p : Hd → Bool) (l : List Hd) : Int := match l.findIdx? p with | some i => (i : Int) | none => -1
theorem fidx_hit {p : Hd → Bool} {l : List Hd} {x : Hd} {j : Nat} (hn : ∀ y ∈ l.take j, p y = false) (hj : l[j]? = some x) (hx : p x = true) : fidx p l = (j : Nat) := by
  have hjl := (List.getElem?_eq_some_iff.1 hj).1
  have : l.findIdx? p = some j := by
    refine List.findIdx?_eq_some_iff_getElem.2 ⟨hjl, ?_, fun i hi => ?_⟩
    · rw [Option.some.inj ((List.getElem?_eq_getElem hjl).symm.trans hj)]
      exact hx
    · have := hn (l[i]'(by omega)) (List.mem_take_iff_getElem.2 ⟨i, by omega, rfl⟩)
      simpa using this
  unfold fidx
  rw [this]
theorem fidx_miss {p : Hd → Bool} {l : List Hd} (hn : ∀ y ∈ l, p y = false) : fidx p l = -1 := by
  have : l.findIdx? p = none := List.findIdx?_eq_none_iff.2 hn
  unfold fidx
  rw [this]
theorem fidx_any (p : Hd → Bool) (l : List Hd) : decide (0 ≤ fidx p l) = l.any p := by
  cases h : l.any p
  · rw [fidx_miss fun y hy => by rw [List.any_eq_false] at h; simpa using h y hy]
    rfl
  · unfold fidx
    cases hq : l.findIdx? p with
    | none =>
      obtain ⟨x, hx, hp⟩ := List.any_eq_true.1 h
      have := List.findIdx?_eq_none_iff.1 hq x hx
      rw [hp] at this
      cases this
    | some i => exact decide_eq_true (Int.natCast_nonneg i)
theorem take_no {p : Hd → Bool} {l : List Hd} {y : Hd} {j : Nat} (hn : ∀ z ∈ l.take j, p z = false) (hj : l[j]? = some y) (he : p y = false) : ∀ z ∈ l.take (j + 1), p z = false := by
  intro z hz
  rw [List.take_add_one, hj] at hz
  rcases List.mem_append.1 hz with hz | hz
  · exact hn z hz
  · obtain rfl : z = y := by simpa using hz
    exact he
theorem wo1_any (w : World) (p : Nat) (s : Int) (h : Hd) (hp : w.cell? ⟨p, 0, none⟩ = some (.int .i64 s)) :
    Calls Try.prog 153 #[h.val, .pointer (some ⟨p, 0, none⟩)] w fun e w' => e = .returned (.bool (decide (h.s = s))) ∧ Below w.heap.size w w' := by
  have B0 : Below w.heap.size w (w.alloc (.cells #[.int .i64 h.s, .string (bsOf h.t), .bool h.x] 101)) := (Below.refl _ _).alloc (Nat.le_refl _) _
  have hp1 : (w.alloc (.cells #[.int .i64 h.s, .string (bsOf h.t), .bool h.x] 101)).cell? ⟨p, 0, none⟩ = some (.int .i64 s) := (B0.cell (World.block_lt_of_cell? w _ hp)).trans hp
  have hq : (h.s == s) = decide (h.s = s) := by rw [Bool.eq_iff_iff]; simp
  rw [← hq]
  obtain ⟨hs, ht, hx⟩ := h
  unfold Hd.val
  simp only at B0 hp1 ⊢
  clear hq hp
  obtain ⟨q, hq⟩ : ∃ q, (hs == s) = q := ⟨_, rfl⟩
  go_enter Try.func153, Try.ntmps153
  go_wp2_with fail
  go_ret
  exact ⟨by first | rfl | (rw [hq]; rfl), B0⟩
set_option maxRecDepth 100000 in
set_option maxHeartbeats 1000000 in
theorem indexF_c (w : World) (ao : Option Addr) (n c : Nat) (l : List Hd) (h : IsR EHd w ao n c l) (x : Hd) :
    Calls Try.prog 156 #[.slice ao n c, .func (.func 105) #[x.val] #[]] w fun e w' => e = .returned (.int .i64 (fidx (clash x) l)) ∧ Below w.heap.size w w' := by
  have hln := h.len
  have hmx := h.max
  have hle := h.le
  unfold maxLen at hmx
  go_enter Try.func156, Try.ntmps156
  go_wp2_with fail
  go_loopw [8] (fun i wr => ∃ j : Nat, j ≤ n ∧ i = .int .i64 (j : Nat) ∧ Below w.heap.size w wr ∧ Hid (∀ y ∈ l.take j, (clash x) y = false)) (fun i _ => n - (intOf i).toNat)
  case atStart => exact ⟨0, by omega, rfl, Below.refl _ _, Lib.hid (by simp)⟩
  case round =>
    obtain ⟨j, hj, rfl, hB, htk⟩ := hrel
    by_cases hlt : j < n
    · have hlti : (j : Int) < (n : Int) := by omega
      obtain ⟨y, hy⟩ : ∃ v, l[j]? = some v := ⟨l[j]'(by omega), List.getElem?_eq_getElem _⟩
      obtain ⟨b, off, rfl, hb, hc⟩ := h.open (by omega) (by decide)
      obtain ⟨p0, p1, p2⟩ := cells_hd hc j y hy
      rw [← hB.cell hb] at p0 p1 p2
      have hnx : Hid ((clash x) y = false → ∀ z ∈ l.take (j + 1), (clash x) z = false) := Lib.hid (take_no htk.out hy)
      have hst : Hid ((clash x) y = true → fidx (clash x) l = (j : Nat)) := Lib.hid fun e => fidx_hit htk.out hy e
      have HC := conflicts_any wr x y
      obtain ⟨q, hq⟩ : ∃ q, clash x y = q := ⟨_, rfl⟩
      rw [hq] at HC hnx hst
      clear hc hy htk hq
      obtain ⟨ys, yt, yb⟩ := y
      unfold Hd.val at HC
      simp only at p0 p1 p2 HC
      cases q
      · have HR := Lib.hid (hnx.out rfl)
        clear hst hnx
        go_wp2_with (go_at_call 105; refine HC.mono ?_; rintro en w2 ⟨rfl, b2⟩)
        go_roundw
        case rel => exact ⟨j + 1, by omega, by go_num, hB.trans (b2.mono hB.size), HR⟩
        case measure => simp [intOf]; omega
      · have HR := Lib.hid (hst.out rfl)
        clear hst hnx
        go_wp2_with (go_at_call 105; refine HC.mono ?_; rintro en w2 ⟨rfl, b2⟩)
        go_ret
        exact ⟨by rw [HR.out]; rfl, hB.trans (b2.mono hB.size)⟩
    · have hlti : ¬ ((j : Int) < (n : Int)) := by omega
      obtain rfl : j = n := by omega
      have HR := Lib.hid (fidx_miss (by rw [List.take_of_length_le (by omega)] at htk; exact htk.out))
      clear htk
      go_wp2_with fail
      go_ret
      exact ⟨by rw [HR.out]; rfl, hB⟩
set_option maxRecDepth 100000 in
set_option maxHeartbeats 1000000 in
theorem indexF_w (w : World) (ao : Option Addr) (n c : Nat) (l : List Hd) (h : IsR EHd w ao n c l) (p : Nat) (s : Int) (hp : w.cell? ⟨p, 0, none⟩ = some (.int .i64 s)) :
    Calls Try.prog 156 #[.slice ao n c, .func (.func 153) #[] #[.pointer (some ⟨p, 0, none⟩)]] w fun e w' => e = .returned (.int .i64 (fidx (fun h : Hd => decide (h.s = s)) l)) ∧ Below w.heap.size w w' := by
  have hln := h.len
  have hmx := h.max
  have hle := h.le
  unfold maxLen at hmx
  go_enter Try.func156, Try.ntmps156
  go_wp2_with fail
  go_loopw [8] (fun i wr => ∃ j : Nat, j ≤ n ∧ i = .int .i64 (j : Nat) ∧ Below w.heap.size w wr ∧ Hid (∀ y ∈ l.take j, (fun h : Hd => decide (h.s = s)) y = false)) (fun i _ => n - (intOf i).toNat)
  case atStart => exact ⟨0, by omega, rfl, Below.refl _ _, Lib.hid (by simp)⟩
  case round =>
    obtain ⟨j, hj, rfl, hB, htk⟩ := hrel
    by_cases hlt : j < n
    · have hlti : (j : Int) < (n : Int) := by omega
      obtain ⟨y, hy⟩ : ∃ v, l[j]? = some v := ⟨l[j]'(by omega), List.getElem?_eq_getElem _⟩
      obtain ⟨b, off, rfl, hb, hc⟩ := h.open (by omega) (by decide)
      obtain ⟨p0, p1, p2⟩ := cells_hd hc j y hy
      rw [← hB.cell hb] at p0 p1 p2
      have hnx : Hid ((fun h : Hd => decide (h.s = s)) y = false → ∀ z ∈ l.take (j + 1), (fun h : Hd => decide (h.s = s)) z = false) := Lib.hid (take_no htk.out hy)
      have hst : Hid ((fun h : Hd => decide (h.s = s)) y = true → fidx (fun h : Hd => decide (h.s = s)) l = (j : Nat)) := Lib.hid fun e => fidx_hit htk.out hy e
      have HC := wo1_any wr p s y ((hB.cell (World.block_lt_of_cell? w _ hp)).trans hp)
      simp only at hnx hst
      obtain ⟨q, hq⟩ : ∃ q, decide (y.s = s) = q := ⟨_, rfl⟩
      rw [hq] at HC hnx hst
      clear hc hy htk hq
      obtain ⟨ys, yt, yb⟩ := y
      unfold Hd.val at HC
      simp only at p0 p1 p2 HC
      cases q
      · have HR := Lib.hid (hnx.out rfl)
        clear hst hnx
        go_wp2_with (go_at_call 153; refine HC.mono ?_; rintro en w2 ⟨rfl, b2⟩)
        go_roundw
        case rel => exact ⟨j + 1, by omega, by go_num, hB.trans (b2.mono hB.size), HR⟩
        case measure => simp [intOf]; omega
      · have HR := Lib.hid (hst.out rfl)
        clear hst hnx
        go_wp2_with (go_at_call 153; refine HC.mono ?_; rintro en w2 ⟨rfl, b2⟩)
        go_ret
        exact ⟨by rw [HR.out]; rfl, hB.trans (b2.mono hB.size)⟩
    · have hlti : ¬ ((j : Int) < (n : Int)) := by omega
      obtain rfl : j = n := by omega
      have HR := Lib.hid (fidx_miss (by rw [List.take_of_length_le (by omega)] at htk; exact htk.out))
      clear htk
      go_wp2_with fail
      go_ret
      exact ⟨by rw [HR.out]; rfl, hB⟩
set_option maxRecDepth 100000 in
theorem containsF_c (w : World) (ao : Option Addr) (n c : Nat) (l : List Hd) (h : IsR EHd w ao n c l) (x : Hd) :
    Calls Try.prog 104 #[.slice ao n c, .func (.func 105) #[x.val] #[]] w fun e w' => e = .returned (.bool (l.any (clash x))) ∧ Below w.heap.size w w' := by
  have HI := indexF_c w ao n c l h x
  have hm := fidx_any (clash x) l
  obtain ⟨i, hi⟩ : ∃ i, fidx (clash x) l = i := ⟨_, rfl⟩
  obtain ⟨bb, hbb⟩ : ∃ bb, l.any (clash x) = bb := ⟨_, rfl⟩
  rw [hi] at HI hm
  rw [hbb] at hm ⊢
  clear hi hbb
  have HM := Lib.hid hm
  clear hm
  go_enter Try.func104, Try.ntmps104
  go_wp2_with (go_at_call 156; refine HI.mono ?_; rintro e w1 ⟨rfl, b1⟩)
  go_ret
  refine ⟨?_, b1⟩
  rw [← HM.out]
  rfl
end Go.Proofs.Ytllijeciodmckaa
