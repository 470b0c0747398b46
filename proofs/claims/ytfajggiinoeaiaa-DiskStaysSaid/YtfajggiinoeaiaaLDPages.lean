/-
  DiskPages, walked.
-/
import Derived.Test.YtfajggiinoeaiaaLDOwn
namespace Go.Proofs.Ytfajggiinoeaiaa
open Go.RowKit
set_option linter.unusedSimpArgs false

theorem pad_copy (l : List UInt8) (n : Nat) (hl : l.length = n) (hn : n ≤ 64) : l.take (min n 64) ++ (List.replicate 64 (0 : UInt8)).drop (min n 64) = pad l := by
  rw [pad_short (by omega), Nat.min_eq_left hn, List.take_of_length_le (by omega), List.drop_replicate, hl]
theorem wth_of (a n : Int) (h : 0 < n) : ∃ k : Nat, wth a n = (k : Int) ∧ (k : Int) < n := by
  have h1 := wth_lo a n h
  have h2 := wth_hi a n h
  exact ⟨(wth a n).toNat, by omega, by omega⟩
/-- Eight pages, two written. -/
def two8 (P Q : Nat) (b c : List UInt8) : Dk := (((newD 8).put P b).spent.put Q c).spent
theorem two8_last (P Q : Nat) (b c : List UInt8) : (two8 P Q b c).last = ((List.replicate 8 []).set P (pad b)).set Q (pad c) := rfl
theorem s2_second {P Q k : Nat} {b c : List UInt8} (_hp : P < 8) (hq : Q < 8) (h : k = Q) : (two8 P Q b c).pg k = pad c := by
  subst h
  unfold Dk.pg
  rw [two8_last, set_get _ _ _ (by simp; omega), pad_pad]
theorem s2_first {P Q k : Nat} {b c : List UInt8} (hp : P < 8) (_hq : Q < 8) (h : k = P) (h2 : ¬ k = Q) : (two8 P Q b c).pg k = pad b := by
  subst h
  unfold Dk.pg
  rw [two8_last, List.getD, List.getElem?_set_ne (by omega), ← List.getD, set_get _ _ _ (by simp; omega), pad_pad]
theorem s2_other {P Q k : Nat} {b c : List UInt8} (_hp : P < 8) (_hq : Q < 8) (h : ¬ k = P) (h2 : ¬ k = Q) : (two8 P Q b c).pg k = List.replicate 64 0 := by
  unfold Dk.pg
  rw [two8_last, List.getD, List.getElem?_set_ne (by omega), List.getElem?_set_ne (by omega), List.getElem?_replicate]
  split <;> rfl
set_option maxRecDepth 100000 in
set_option maxHeartbeats 8000000 in
theorem diskPages_walk (a0 : Int) (ab : Option Addr) (nb cb : Nat) (lb : List UInt8) (a2 : Int) (ac : Option Addr) (nc cc : Nat) (lc : List UInt8) (w : World) (_f0 : (Lit.int .i64 a0).wf = true) (hb : IsB w ab nb cb lb) (_f2 : (Lit.int .i64 a2).wf = true) (hc : IsB w ac nc cc lc) :
    Calls Try.prog 5 #[.int .i64 a0, .slice ab nb cb, .int .i64 a2, .slice ac nc cc] w fun e w' => e = .returned (.bool true) ∧ Below w.heap.size w w' := by
  by_cases hlen : 64 < nb ∨ 64 < nc
  · rcases hlen with hlen | hlen
    · have h1 : (64 : Int) < (nb : Int) := by omega
      go_enter Try.func5, Try.ntmps5
      go_wp2_with fail
      refine (known7_any w).mono ?_
      rintro e w1 ⟨rfl, b1⟩
      go_wp2
      go_ret
      exact ⟨rfl, b1⟩
    · by_cases hnb : 64 < nb
      · have h1 : (64 : Int) < (nb : Int) := by omega
        go_enter Try.func5, Try.ntmps5
        go_wp2_with fail
        refine (known7_any w).mono ?_
        rintro e w1 ⟨rfl, b1⟩
        go_wp2
        go_ret
        exact ⟨rfl, b1⟩
      · have h0 : decide ((64 : Int) < (nb : Int)) = false := by simp; omega
        have h1 : (64 : Int) < (nc : Int) := by omega
        go_enter Try.func5, Try.ntmps5
        go_wp2_with fail
        refine (known7_any w).mono ?_
        rintro e w1 ⟨rfl, b1⟩
        go_wp2
        go_ret
        exact ⟨rfl, b1⟩
  · have hnb : nb ≤ 64 := by omega
    have hnc : nc ≤ 64 := by omega
    have h0 : decide ((64 : Int) < (nb : Int)) = false := by simp; omega
    have h1 : decide ((64 : Int) < (nc : Int)) = false := by simp; omega
    clear hlen
    obtain ⟨P, hP, hp⟩ := wth_of a0 8 (by omega)
    obtain ⟨Q, hQ, hq⟩ := wth_of a2 8 (by omega)
    have hp8 : P < 8 := by omega
    have hq8 : Q < 8 := by omega
    have HP := Lib.hid hP
    have HQ := Lib.hid hQ
    clear hP hQ hp hq
    go_enter Try.func5, Try.ntmps5
    go_wp2_with fail
    refine (known7_any w).mono ?_
    rintro e w1 ⟨rfl, b1⟩
    go_wp2_with fail
    refine (new_is 8 w1 (by omega) (by omega)).mono ?_
    rintro e w2 ⟨d, S, rfl, hD, b2, hS⟩
    have hw1 := b1.size
    have B2 := b1.trans (b2.mono b1.size)
    have hS0 : ∀ k, S k → w.heap.size ≤ k := fun k hk => Nat.le_trans hw1 (hS k hk)
    go_wp2_with fail
    refine (within7_any a0 8 _ (by omega) (by omega)).mono ?_
    rintro e w' ⟨rfl, rfl⟩
    rw [HP.out]
    go_wp2_with fail
    refine (within7_any a2 8 _ (by omega) (by omega)).mono ?_
    rintro e w' ⟨rfl, rfl⟩
    rw [HQ.out]
    go_wp2_with fail
    refine (write_is hD rfl (room_of (by decide) (by decide)) (by simp [newD]) P hp8 _ nb cb lb (hb.past B2) hnb).mono ?_
    rintro e w3 ⟨S1, rfl, hD1, k1, x1⟩
    have B3 := B2.trans (k1.below B2.size hS0)
    have hS1 := x1.ge B2.size hS0
    clear hD k1 x1
    rw [show (newD 8).code = 0 from rfl]
    go_wp2_with fail
    refine (write_is hD1 rfl (room_of (show (-1000000 : Int) ≤ -1 by decide) (show (-1 : Int) ≤ 1000000 by decide)) (by simp [newD, Dk.put, Dk.spent]) Q hq8 _ nc cc lc (hc.past B3) hnc).mono ?_
    rintro e w4 ⟨S2, rfl, hD2, k2, x2⟩
    have B4 := B3.trans (k2.below B3.size hS1)
    clear hD1 k2 x2 B3 B2 b2 b1
    rw [show (((newD 8).put P lb).spent).code = 0 from rfl]
    obtain ⟨s2, hs2⟩ : ∃ s2, s2 = two8 P Q lb lc := ⟨_, rfl⟩
    have hD2' : IsD w4 d 8 S2 s2 := by rw [hs2]; exact hD2
    have hgone : s2.gone = false := by rw [hs2]; rfl
    have HS2 := Lib.hid hs2
    have HG := Lib.hid hgone
    have cst := Try.underlying9
    clear hD2 hs2 hgone
    go_wp2_with fail
    go_loopw [11] (fun v wr => ∃ k : Nat, k ≤ 8 ∧ v = .int .i64 k ∧ IsD wr d 8 S2 s2 ∧ Below w.heap.size w wr) (fun v _ => (8 - (intOf v).toNat))
    case atStart => exact ⟨0, by omega, rfl, hD2', B4⟩
    case round =>
      clear hD2' B4
      obtain ⟨k, hk, rfl, hD, hB⟩ := hrel
      by_cases hk8 : k < 8
      · have hk2 : (k : Int) < 8 := by omega
        by_cases hkP : k = P
        · by_cases hkQ : k = Q
          · have t1 : ((k : Int) == (P : Int)) = true := by simp; omega
            have t2 : ((k : Int) == (Q : Int)) = true := by simp; omega
            have HKP := Lib.hid hkP
            have HKQ := Lib.hid hkQ
            clear hkP hkQ
            go_wp2_with (first
              | (at_make; first | (have hC' := hC; refine wpList_full_ob rfl _ _ 22 rfl 5 byteTy .i64 .i64 _ _ 64 rfl rfl rfl rfl (by omega) ?_; intro wd hE bd; have Bd := Bc.trans (bd.mono Bc.size)) | (refine wpList_full_ob rfl _ _ 22 rfl 5 byteTy .i64 .i64 _ _ 64 rfl rfl rfl rfl (by omega) ?_; intro wa hA ba; have Ba := hB.trans (ba.mono hB.size)))
              | (with_reducible refine wpList_copy_ob rfl (.tmp 53) (.tmp 54) 22 22 rfl 5 byteTy.ht sizeU8 _ 64 64 _ 5 rfl hA ab nb cb lb rfl (hb.past Ba) ?_; intro wc hC gc; have Bc := Ba.grown gc Ba.size (fun z e => by cases e; exact hB.size))
              | (with_reducible refine wpList_copy_ob rfl (.tmp 60) (.tmp 61) 22 22 rfl 5 byteTy.ht sizeU8 _ 64 64 _ 5 rfl hE ac nc cc lc rfl (hc.past Bd) ?_; intro we hF ge; have Be := Bd.grown ge Bd.size (fun z e => by cases e; exact Bc.size)))
            rw [pad_copy lc nc hc.len hnc] at hF
            have hW := hF
            have BW := Be
            have hDc := (hD.past ba).kp (Kp.ofGrown gc (S := fun z => z = wr.heap.size) (fun z e => by cases e; rfl)) (fun z hz e => by subst e; exact absurd (hD.lt _ hz) (Nat.lt_irrefl _))
            have hDW := (hDc.past bd).kp (Kp.ofGrown ge (S := fun z => z = wc.heap.size) (fun z e => by cases e; rfl)) (fun z hz e => by subst e; exact absurd (hDc.lt _ hz) (Nat.lt_irrefl _))
            clear hA hC hE hF hD hDc ba bd gc ge
            have hpg : s2.pg k = pad lc := by rw [HS2.out]; exact s2_second hp8 hq8 HKQ.out
            refine (read_is hDW HG.out k hk8).mono ?_
            rintro e wx ⟨gx, rfl, hX, hgx, bx⟩
            rw [hpg] at hX
            have hW' := hW.below bx hW.lt
            have Bx := BW.trans (bx.mono BW.size)
            have hDx := hDW.past bx
            have cvx := hX.isB.conv byteTy cst
            have cvw := hW'.isB.conv byteTy cst
            have HDX := Lib.hid (And.intro hDx Bx)
            generalize (pad lc) = lk at cvx cvw
            clear hX hW hW' hDW bx BW hpg hDx Bx
            go_wp2_with fail
            go_roundw
            case rel => exact ⟨k + 1, by omega, by go_num, HDX.out⟩
            case measure => simp [intOf]; omega
          · have t1 : ((k : Int) == (P : Int)) = true := by simp; omega
            have t2 : ((k : Int) == (Q : Int)) = false := by simp; omega
            have HKP := Lib.hid hkP
            have HKQ := Lib.hid hkQ
            clear hkP hkQ
            go_wp2_with (first
              | (at_make; refine wpList_full_ob rfl _ _ 22 rfl 5 byteTy .i64 .i64 _ _ 64 rfl rfl rfl rfl (by omega) ?_; intro wa hA ba; have Ba := hB.trans (ba.mono hB.size))
              | (with_reducible refine wpList_copy_ob rfl (.tmp 53) (.tmp 54) 22 22 rfl 5 byteTy.ht sizeU8 _ 64 64 _ 5 rfl hA ab nb cb lb rfl (hb.past Ba) ?_; intro wc hC gc; have Bc := Ba.grown gc Ba.size (fun z e => by cases e; exact hB.size)))
            rw [pad_copy lb nb hb.len hnb] at hC
            have hW := hC
            have BW := Bc
            have hDW := (hD.past ba).kp (Kp.ofGrown gc (S := fun z => z = wr.heap.size) (fun z e => by cases e; rfl)) (fun z hz e => by subst e; exact absurd (hD.lt _ hz) (Nat.lt_irrefl _))
            clear hA hC hD ba gc
            have hpg : s2.pg k = pad lb := by rw [HS2.out]; exact s2_first hp8 hq8 HKP.out HKQ.out
            refine (read_is hDW HG.out k hk8).mono ?_
            rintro e wx ⟨gx, rfl, hX, hgx, bx⟩
            rw [hpg] at hX
            have hW' := hW.below bx hW.lt
            have Bx := BW.trans (bx.mono BW.size)
            have hDx := hDW.past bx
            have cvx := hX.isB.conv byteTy cst
            have cvw := hW'.isB.conv byteTy cst
            have HDX := Lib.hid (And.intro hDx Bx)
            generalize (pad lb) = lk at cvx cvw
            clear hX hW hW' hDW bx BW hpg hDx Bx
            go_wp2_with fail
            go_roundw
            case rel => exact ⟨k + 1, by omega, by go_num, HDX.out⟩
            case measure => simp [intOf]; omega
        · by_cases hkQ : k = Q
          · have t1 : ((k : Int) == (P : Int)) = false := by simp; omega
            have t2 : ((k : Int) == (Q : Int)) = true := by simp; omega
            have HKP := Lib.hid hkP
            have HKQ := Lib.hid hkQ
            clear hkP hkQ
            go_wp2_with (first
              | (at_make; first | (have hA' := hA; refine wpList_full_ob rfl _ _ 22 rfl 5 byteTy .i64 .i64 _ _ 64 rfl rfl rfl rfl (by omega) ?_; intro wd hE bd; have Bd := Ba.trans (bd.mono Ba.size)) | (refine wpList_full_ob rfl _ _ 22 rfl 5 byteTy .i64 .i64 _ _ 64 rfl rfl rfl rfl (by omega) ?_; intro wa hA ba; have Ba := hB.trans (ba.mono hB.size)))
              | (with_reducible refine wpList_copy_ob rfl (.tmp 60) (.tmp 61) 22 22 rfl 5 byteTy.ht sizeU8 _ 64 64 _ 5 rfl hE ac nc cc lc rfl (hc.past Bd) ?_; intro we hF ge; have Be := Bd.grown ge Bd.size (fun z e => by cases e; exact Ba.size)))
            rw [pad_copy lc nc hc.len hnc] at hF
            have hW := hF
            have BW := Be
            have hDd := (hD.past ba).past bd
            have hDW := hDd.kp (Kp.ofGrown ge (S := fun z => z = wa.heap.size) (fun z e => by cases e; rfl)) (fun z hz e => by subst e; exact absurd ((hD.past ba).lt _ hz) (Nat.lt_irrefl _))
            clear hA hE hF hD hDd ba bd ge
            have hpg : s2.pg k = pad lc := by rw [HS2.out]; exact s2_second hp8 hq8 HKQ.out
            refine (read_is hDW HG.out k hk8).mono ?_
            rintro e wx ⟨gx, rfl, hX, hgx, bx⟩
            rw [hpg] at hX
            have hW' := hW.below bx hW.lt
            have Bx := BW.trans (bx.mono BW.size)
            have hDx := hDW.past bx
            have cvx := hX.isB.conv byteTy cst
            have cvw := hW'.isB.conv byteTy cst
            have HDX := Lib.hid (And.intro hDx Bx)
            generalize (pad lc) = lk at cvx cvw
            clear hX hW hW' hDW bx BW hpg hDx Bx
            go_wp2_with fail
            go_roundw
            case rel => exact ⟨k + 1, by omega, by go_num, HDX.out⟩
            case measure => simp [intOf]; omega
          · have t1 : ((k : Int) == (P : Int)) = false := by simp; omega
            have t2 : ((k : Int) == (Q : Int)) = false := by simp; omega
            have HKP := Lib.hid hkP
            have HKQ := Lib.hid hkQ
            clear hkP hkQ
            go_wp2_with (first
              | (at_make; refine wpList_full_ob rfl _ _ 22 rfl 5 byteTy .i64 .i64 _ _ 64 rfl rfl rfl rfl (by omega) ?_; intro wa hA ba; have hDa := hD.past ba; have Ba := hB.trans (ba.mono hB.size)))
            have hW : OwnB wa 5 wr.heap.size 64 64 (List.replicate 64 0) := hA
            have BW := Ba
            have hDW := hDa
            clear hA hD ba
            have hpg : s2.pg k = List.replicate 64 0 := by rw [HS2.out]; exact s2_other hp8 hq8 HKP.out HKQ.out
            refine (read_is hDW HG.out k hk8).mono ?_
            rintro e wx ⟨gx, rfl, hX, hgx, bx⟩
            rw [hpg] at hX
            have hW' := hW.below bx hW.lt
            have Bx := BW.trans (bx.mono BW.size)
            have hDx := hDW.past bx
            have cvx := hX.isB.conv byteTy cst
            have cvw := hW'.isB.conv byteTy cst
            have HDX := Lib.hid (And.intro hDx Bx)
            generalize (List.replicate 64 0) = lk at cvx cvw
            clear hX hW hW' hDW bx BW hpg hDx Bx
            go_wp2_with fail
            go_roundw
            case rel => exact ⟨k + 1, by omega, by go_num, HDX.out⟩
            case measure => simp [intOf]; omega
      · obtain rfl : k = 8 := by omega
        go_wp2_with fail
        refine (pages_is hD).mono ?_
        rintro e w' ⟨rfl, rfl⟩
        go_wp2_with fail
        go_ret
        exact ⟨rfl, hB⟩
end Go.Proofs.Ytfajggiinoeaiaa
