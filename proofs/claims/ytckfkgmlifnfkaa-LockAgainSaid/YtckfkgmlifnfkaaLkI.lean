/-
  slices.Equal of holds; lock.Same (by gen_lki.py).
-/
import Derived.Test.YtckfkgmlifnfkaaLkG
namespace Go.Proofs.Ytckfkgmlifnfkaa
open Go.RowKit
set_option linter.unusedSimpArgs false
set_option maxRecDepth 100000 in
set_option maxHeartbeats 1000000 in
theorem equal_hd (w : World) (ao bo : Option Addr) (n m c d : Nat) (cs ds : List Hd) (ha : IsR EHd w ao n c cs) (hb : IsR EHd w bo m d ds) :
    Calls Try.prog 119 #[.slice ao n c, .slice bo m d] w fun e w' => e = .returned (.bool (decide (cs = ds))) ∧ Below w.heap.size w w' := by
  have hla := ha.len
  have hlb := hb.len
  have hma := ha.max
  have hna := ha.le
  unfold maxLen at hma
  by_cases hnm : n = m
  · obtain rfl := hnm
    have hne : ((n : Int) != (n : Int)) = false := by simp
    go_enter Try.func119, Try.ntmps119
    go_wp2_with fail
    go_loopw [13] (fun i wr => ∃ j : Nat, j ≤ n ∧ i = .int .i64 (j : Nat) ∧ Below w.heap.size w wr ∧ Hid (cs.take j = ds.take j)) (fun i _ => n - (intOf i).toNat)
    case atStart => exact ⟨0, by omega, rfl, Below.refl _ _, rfl⟩
    case round =>
      obtain ⟨j, hj, rfl, hB, htk⟩ := hrel
      by_cases hlt : j < n
      · have hlti : (j : Int) < (n : Int) := by omega
        obtain ⟨x, hx⟩ : ∃ v, cs[j]? = some v := ⟨cs[j]'(by omega), List.getElem?_eq_getElem _⟩
        obtain ⟨y, hy⟩ : ∃ v, ds[j]? = some v := ⟨ds[j]'(by omega), List.getElem?_eq_getElem _⟩
        obtain ⟨b1, o1, rfl, hb1, hc1⟩ := ha.open (by omega) (by decide)
        obtain ⟨b2, o2, rfl, hb2, hc2⟩ := hb.open (by omega) (by decide)
        obtain ⟨p0, p1, p2⟩ := cells_hd hc1 j x hx
        obtain ⟨q0, q1, q2⟩ := cells_hd hc2 j y hy
        rw [← hB.drew.cell hb1] at p0 p1 p2
        rw [← hB.drew.cell hb2] at q0 q1 q2
        have hnx : Hid (x = y → cs.take (j + 1) = ds.take (j + 1)) := fun e => by
          rw [List.take_add_one, List.take_add_one, htk.out, hx, hy, e]
        have hst : Hid (x ≠ y → decide (cs = ds) = false) := fun e => by
          refine decide_eq_false fun h => e ?_
          rw [h, hy] at hx
          exact (Option.some.inj hx).symm
        clear hc1 hc2 hx hy
        obtain ⟨xs, xt, xb⟩ := x
        obtain ⟨ys, yt, yb⟩ := y
        simp only at p0 p1 p2 q0 q1 q2
        by_cases e1 : xs = ys
        · subst e1
          by_cases e2 : xt = yt
          · subst e2
            have f1 : ((bsOf xt).toList == (bsOf xt).toList) = true := by simp
            by_cases e3 : xb = yb
            · have HR := Lib.hid (hnx.out (by rw [e3]))
              clear hst hnx
              go_wp2_with fail
              go_region
              all_goals
                go_wp2_with fail
                go_roundw
                case rel => exact ⟨j + 1, by omega, by go_num, hB.drew, HR.out⟩
                case measure => simp [intOf]; omega
            · have HR := Lib.hid (hst.out (fun e => e3 (Hd.mk.inj e).2.2))
              clear hst hnx
              go_wp2_with fail
              go_region
              all_goals
                go_wp2_with fail
                go_ret
                exact ⟨by rw [HR.out]; rfl, hB.drew⟩
          · have f1 : ¬ ((bsOf xt).toList = (bsOf yt).toList) := by
              rw [ByteArray.toList_eq, ByteArray.toList_eq, bsOf_toList, bsOf_toList]
              exact e2
            have HR := Lib.hid (hst.out (fun e => e2 (Hd.mk.inj e).2.1))
            clear hst hnx
            go_wp2_with fail
            go_region
            all_goals
              go_wp2_with fail
              go_ret
              exact ⟨by rw [HR.out]; rfl, hB.drew⟩
        · have HR := Lib.hid (hst.out (fun e => e1 (Hd.mk.inj e).1))
          clear hst hnx
          go_wp2_with fail
          go_region
          all_goals
            go_wp2_with fail
            go_ret
            exact ⟨by rw [HR.out]; rfl, hB.drew⟩
      · have hlti : ¬ ((j : Int) < (n : Int)) := by omega
        obtain rfl : j = n := by omega
        rw [List.take_of_length_le (by omega), List.take_of_length_le (by omega)] at htk
        have HR := Lib.hid (decide_eq_true htk.out)
        clear htk
        go_wp2_with fail
        go_ret
        exact ⟨by rw [HR.out]; rfl, hB⟩
  · have hne : ((n : Int) != (m : Int)) = true := by simp; omega
    have hd : decide (cs = ds) = false := decide_eq_false fun e => hnm (by rw [← hla, ← hlb, e])
    have HR := Lib.hid hd
    clear hd hnm
    go_enter Try.func119, Try.ntmps119
    go_wp2_with fail
    go_ret
    exact ⟨by rw [HR.out]; rfl, Below.refl _ _⟩
set_option maxRecDepth 100000 in
set_option maxHeartbeats 1000000 in
theorem same_lk (w : World) (ho : Option Addr) (hn hc : Nat) (wo1 : Option Addr) (wn wc : Nat) (ko : Option Addr) (kn kc : Nat) (lo : Option Addr) (ln lc : Nat) (H W H' W' : List Hd)
    (h1 : IsR EHd w ho hn hc H) (h2 : IsR EHd w wo1 wn wc W) (h3 : IsR EHd w ko kn kc H') (h4 : IsR EHd w lo ln lc W') :
    Calls Try.prog 66 #[.agg #[.slice ho hn hc, .slice wo1 wn wc], .agg #[.slice ko kn kc, .slice lo ln lc]] w fun e w' => e = .returned (.bool (decide (H = H') && decide (W = W'))) ∧ Below w.heap.size w w' := by
  have X0 := LkB.new w ho hn hc wo1 wn wc 96
  have B0 : Below w.heap.size w (w.alloc (.cells #[.slice ho hn hc, .slice wo1 wn wc] 96)) := (Below.refl _ _).alloc (Nat.le_refl _) _
  have Y0 := LkB.new (w.alloc (.cells #[.slice ho hn hc, .slice wo1 wn wc] 96)) ko kn kc lo ln lc 96
  have X1 := X0.past ((Below.refl _ _).alloc (Nat.le_refl _) (.cells #[.slice ko kn kc, .slice lo ln lc] 96))
  have BA := B0.alloc B0.size (.cells #[.slice ko kn kc, .slice lo ln lc] 96)
  rw [World.size_alloc] at Y0
  obtain ⟨E1, hE1⟩ : ∃ b, decide (H = H') = b := ⟨_, rfl⟩
  obtain ⟨E2, hE2⟩ : ∃ b, decide (W = W') = b := ⟨_, rfl⟩
  have HE1 := fun (w' : World) (a : IsR EHd w' ho hn hc H) (b : IsR EHd w' ko kn kc H') => equal_hd w' ho ko hn kn hc kc H H' a b
  have HE2 := fun (w' : World) (a : IsR EHd w' wo1 wn wc W) (b : IsR EHd w' lo ln lc W') => equal_hd w' wo1 lo wn ln wc lc W W' a b
  rw [hE1] at HE1 ⊢
  rw [hE2] at HE2 ⊢
  clear hE1 hE2 X0 B0
  have HCov : Hid ((E1 && E2) = (E1 && E2)) := Lib.hid rfl
  go_enter Try.func66, Try.ntmps66
  go_upto_region 1 with fail
  generalize (w.alloc (.cells #[.slice ho hn hc, .slice wo1 wn wc] 96)).alloc (.cells #[.slice ko kn kc, .slice lo ln lc] 96) = W at X1 Y0 BA ⊢
  have h1 := h1.past BA
  have h2 := h2.past BA
  have h3 := h3.past BA
  have h4 := h4.past BA
  obtain ⟨p, hp⟩ : ∃ p, w.heap.size = p := ⟨_, rfl⟩
  have HP := Lib.hid hp
  rw [hp] at X1 Y0 BA
  simp only [hp]
  clear hp
  have hpB := X1.lt
  have hqB := Y0.lt
  have hpW := Nat.le_of_lt hpB
  obtain ⟨q, hq⟩ : ∃ q, p + 1 = q := ⟨_, rfl⟩
  rw [hq] at Y0 hqB
  simp only [hq]
  clear hq
  obtain ⟨c0, c1⟩ := X1.c
  obtain ⟨d0, d1⟩ := Y0.c
  have HE1_ := HE1
  have HE2_ := HE2
  clear HE1 HE2
  have HE1 := fun (w' : World) (hb : Below W.heap.size W w') => HE1_ w' (h1.past hb) (h3.past hb)
  have HE2 := fun (w' : World) (hb : Below W.heap.size W w') => HE2_ w' (h2.past hb) (h4.past hb)
  cases E1
  · have HR : Hid ((false && E2) = false) := Lib.hid rfl
    clear HE2
    go_wp2_with (go_at_call 119; refine (HE1 _ (Below.refl _ _)).mono ?_; rintro e w1 ⟨rfl, b1⟩)
    go_ret
    exact ⟨by rw [HR.out]; rfl, by rw [HP.out]; exact BA.trans (b1.mono hpW)⟩
  · have HR : Hid ((true && E2) = E2) := Lib.hid (Bool.true_and _)
    go_wp2_with (first
      | (go_at_call 119; (with_reducible refine (HE1 W (Below.refl _ _)).mono ?_); rintro e w1 ⟨rfl, b1⟩; have d2 := (b1.cell hqB).trans d1; have c2 := (b1.cell hpB).trans c1)
      | (go_at_call 119; (with_reducible refine (HE2 w1 b1).mono ?_); rintro e w2 ⟨rfl, b2⟩))
    go_ret
    exact ⟨by rw [HR.out]; rfl, by rw [HP.out]; exact BA.trans ((b1.trans (b2.mono b1.size)).mono hpW)⟩
theorem same_lk1 (w : World) (ho : Option Addr) (hn hc : Nat) (wo1 : Option Addr) (wn wc : Nat) (ko : Option Addr) (kn kc : Nat) (lo : Option Addr) (ln lc : Nat) (H W : List Hd)
    (h1 : IsR EHd w ho hn hc H) (h2 : IsR EHd w wo1 wn wc W) (h3 : IsR EHd w ko kn kc H) (h4 : IsR EHd w lo ln lc W) :
    Calls Try.prog 66 #[.agg #[.slice ho hn hc, .slice wo1 wn wc], .agg #[.slice ko kn kc, .slice lo ln lc]] w fun e w' => e = .returned (.bool true) ∧ Below w.heap.size w w' :=
  (same_lk w ho hn hc wo1 wn wc ko kn kc lo ln lc H W H W h1 h2 h3 h4).mono fun e w' h => ⟨by rw [h.1, decide_eq_true rfl, decide_eq_true rfl]; rfl, h.2⟩
end Go.Proofs.Ytckfkgmlifnfkaa
