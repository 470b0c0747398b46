/-
  DiskStops, walked.
-/
import Derived.Test.YtfajggiinoeaiaaLDPages
namespace Go.Proofs.Ytfajggiinoeaiaa
open Go.RowKit
set_option linter.unusedSimpArgs false

/-- How far the power is from going, j operations of N done. -/
def StopAt (N j : Nat) (s : Dk) : Prop := (j < N ∧ s.gone = false ∧ s.left = (N : Int) - (j : Nat)) ∨ (j = N ∧ s.gone = true)
set_option maxRecDepth 100000 in
set_option maxHeartbeats 8000000 in
theorem diskStops_walk (a0 : Int) (a1 : Option Addr) (n1 c1 : Nat) (ks : List Int) (w : World) (_f0 : (Lit.int .i64 a0).wf = true) (hP : IsR EI w a1 n1 c1 ks) :
    Calls Try.prog 4 #[.int .i64 a0, .slice a1 n1 c1] w fun e w' => e = .returned (.bool true) ∧ Below w.heap.size w w' := by
  obtain ⟨N0, hN0, hN12⟩ := wth_of a0 12 (by omega)
  obtain ⟨N, hN⟩ : ∃ N, N = N0 + 1 := ⟨_, rfl⟩
  have e1 : (1 : Int) + (N0 : Int) = (N : Int) := by omega
  have hNl : N ≤ 12 := by omega
  have hN1 : 1 ≤ N := by omega
  have HN0 := Lib.hid hN0
  clear hN0 hN12 hN
  go_enter Try.func4, Try.ntmps4
  go_wp2_with fail
  refine (known7_any w).mono ?_
  rintro e w1 ⟨rfl, b1⟩
  go_wp2_with fail
  refine (new_is 4 w1 (by omega) (by omega)).mono ?_
  rintro e w2 ⟨d, S, rfl, hD, b2, hS⟩
  have hw1 := b1.size
  have B2 := b1.trans (b2.mono b1.size)
  have hS0 : ∀ k, S k → w.heap.size ≤ k := fun k hk => Nat.le_trans hw1 (hS k hk)
  go_wp2_with fail
  refine (within7_any a0 12 _ (by omega) (by omega)).mono ?_
  rintro e w' ⟨rfl, rfl⟩
  rw [HN0.out]
  go_wp2_with fail
  refine (stop_is hD N).mono ?_
  rintro e w3 ⟨S3, rfl, hD3, k3, x3⟩
  have B3 := B2.trans (k3.below B2.size hS0)
  have hS3 := x3.ge B2.size hS0
  have hst : StopAt N 0 { newD 4 with left := max (N : Int) 0 } := .inl ⟨by omega, rfl, by show max (N : Int) 0 = _; omega⟩
  have hp3 : ({ newD 4 with left := max (N : Int) 0 } : Dk).pend.length ≤ 0 := by simp [newD]
  generalize ({ newD 4 with left := max (N : Int) 0 } : Dk) = s0 at hD3 hst hp3
  clear hD k3 x3 b1 b2 B2 e1 HN0
  go_wp2_with fail
  go_loopw [7, 8] (fun u v wr => ∃ (i j : Nat) (S : Nat → Prop) (s : Dk), i ≤ 25 ∧ j ≤ N ∧ u = .int .i64 j ∧ v = .int .i64 i ∧ IsD wr d 4 S s ∧ Below w.heap.size w wr ∧ (∀ k, S k → w.heap.size ≤ k) ∧ s.pend.length ≤ i ∧ StopAt N j s) (fun _ v _ => (25 - (intOf v).toNat))
  case atStart => exact ⟨0, 0, S3, s0, by omega, by omega, rfl, rfl, hD3, B3, hS3, hp3, hst⟩
  case round =>
    clear hD3 B3 hS3 hp3 hst
    obtain ⟨i, j, S, s, hi, hj, rfl, rfl, hD, hB, hS, hpend, hst⟩ := hrel
    by_cases hin : i < n1 ∧ i < 25
    · obtain ⟨hin1, hi25⟩ := hin
      have q1 : (i : Int) < (n1 : Int) := by omega
      have q2 : (i : Int) < 25 := by omega
      obtain ⟨pa, rfl⟩ := hP.has (by omega)
      obtain ⟨v, hv⟩ : ∃ v, ks[i]? = some v := ⟨_, List.getElem?_eq_getElem (by rw [hP.len]; exact hin1)⟩
      have hvc : (EI.all ks)[i]? = some (.int .i64 v) := by rw [EI_all, List.getElem?_map, hv]; rfl
      have cv := (hP.past hB).cell _ rfl i _ hvc
      have hK3 := wth_hi v 3 (by omega)
      have hK0 := wth_lo v 3 (by omega)
      clear hv
      unfold StopAt at hst
      have hKc : wth v 3 = 0 ∨ wth v 3 = 1 ∨ wth v 3 = 2 := by omega
      clear hK3 hK0
      rcases hKc with hK | hK | hK
      · rcases hst with hst | hst
        · by_cases hmore : j + 1 < N
          · have HK : Hid (wth v 3 = 0) := hK
            clear hK
            obtain ⟨hjN, hgone, hleft⟩ := hst
            have hjN2 : (j : Int) < (N : Int) := by omega
            have t4 : ((j : Int) == (N : Int)) = false := by simp; omega
            have t3 : ((j : Int) + 1 == (N : Int)) = false := by simp; omega
            have t5 : (j : Int) + 1 < (N : Int) := by omega
            have hne : s.left ≠ 1 := by omega
            have hroom : Room s := room_of (by omega) (by omega)
            have HG := Lib.hid hgone
            have HL := Lib.hid hleft
            have HNE := Lib.hid hne
            clear hne
            clear hgone hleft
            go_wp2_with fail
            refine (within7_any v 3 _ (by omega) (by omega)).mono ?_
            rintro e w' ⟨rfl, rfl⟩
            rw [HK.out]
            go_wp2_with fail
            refine (within7_any _ 4 _ (by omega) (by omega)).mono ?_
            rintro e w' ⟨rfl, rfl⟩
            generalize hPx : wth _ 4 = Px
            obtain ⟨P, hP1, hP4b⟩ := wth_of (wrap64 (v.tdiv 3)) 4 (by omega)
            rw [hPx] at hP1
            subst hP1
            have hP4 : P < 4 := by omega
            clear hPx hP4b
            go_wp2_with fail
            have b1 : Below wr.heap.size wr (wr.alloc (.cells #[.int .u8 (i : Int)] 5)) := (Below.refl _ _).alloc (Nat.le_refl _) _
            have hI1 := isB_lit wr #[.int .u8 (i : Int)] 5 [UInt8.ofNat i] 1 (by show [Value.int .u8 (i : Int)] = [bc _]; unfold bc; rw [UInt8.toNat_ofNat', Nat.mod_eq_of_lt (by omega)]) rfl (by omega)
            have hD1 := hD.past b1
            have B1 := hB.trans (b1.mono hB.size)
            generalize wr.alloc (.cells #[.int .u8 (i : Int)] 5) = w1 at b1 hI1 hD1 B1 ⊢
            clear b1
            refine (write_is hD1 HG.out hroom (by omega) P hP4 _ 1 1 _ hI1 (by omega)).mono ?_
            rintro e w2 ⟨S2, rfl, hDf, k2, x2⟩
            have Bf := B1.trans (k2.below B1.size hS)
            have hSf := x2.ge B1.size hS
            rw [code_more HNE.out]
            have hpf : ((s.put P [UInt8.ofNat i]).spent).pend.length ≤ i + 1 := by rw [spent_more (s := s.put P _) HNE.out]; simp [Dk.put]; omega
            have hgf : ((s.put P [UInt8.ofNat i]).spent).gone = false := by rw [spent_more (s := s.put P _) HNE.out]; exact HG.out
            have hlf : ((s.put P [UInt8.ofNat i]).spent).left = (N : Int) - (j + 1 : Nat) := by rw [spent_more (s := s.put P _) HNE.out]; show s.left - 1 = _; rw [HL.out]; omega
            generalize (s.put P [UInt8.ofNat i]).spent = sf at hDf hpf hgf hlf
            clear hI1 hD hB hD1 k2 x2
            have HGF := Lib.hid hgf
            have HLF := Lib.hid hlf
            clear hgf hlf
            clear cv
            go_wp2_with fail
            refine (dead_is hDf).mono ?_
            rintro e w' ⟨rfl, rfl⟩
            rw [HGF.out]
            go_wp2_with fail
            go_roundw
            case rel => exact ⟨i + 1, j + 1, _, _, by omega, by omega, by go_num, by go_num, hDf, Bf, hSf, by omega, .inl ⟨by omega, HGF.out, HLF.out⟩⟩
            case measure => simp [intOf]; omega
          · have HK : Hid (wth v 3 = 0) := hK
            clear hK
            obtain ⟨hjN, hgone, hleft⟩ := hst
            have hjN2 : (j : Int) < (N : Int) := by omega
            have t4 : ((j : Int) == (N : Int)) = false := by simp; omega
            have t3 : ((j : Int) + 1 == (N : Int)) = true := by simp; omega
            have t5 : (N : Int) ≤ (j : Int) + 1 := by omega
            have hone : s.left = 1 := by omega
            have hroom : Room s := room_of (by omega) (by omega)
            have HG := Lib.hid hgone
            have HL := Lib.hid hleft
            have HONE := Lib.hid hone
            clear hone
            clear hgone hleft
            go_wp2_with fail
            refine (within7_any v 3 _ (by omega) (by omega)).mono ?_
            rintro e w' ⟨rfl, rfl⟩
            rw [HK.out]
            go_wp2_with fail
            refine (within7_any _ 4 _ (by omega) (by omega)).mono ?_
            rintro e w' ⟨rfl, rfl⟩
            generalize hPx : wth _ 4 = Px
            obtain ⟨P, hP1, hP4b⟩ := wth_of (wrap64 (v.tdiv 3)) 4 (by omega)
            rw [hPx] at hP1
            subst hP1
            have hP4 : P < 4 := by omega
            clear hPx hP4b
            go_wp2_with fail
            have b1 : Below wr.heap.size wr (wr.alloc (.cells #[.int .u8 (i : Int)] 5)) := (Below.refl _ _).alloc (Nat.le_refl _) _
            have hI1 := isB_lit wr #[.int .u8 (i : Int)] 5 [UInt8.ofNat i] 1 (by show [Value.int .u8 (i : Int)] = [bc _]; unfold bc; rw [UInt8.toNat_ofNat', Nat.mod_eq_of_lt (by omega)]) rfl (by omega)
            have hD1 := hD.past b1
            have B1 := hB.trans (b1.mono hB.size)
            generalize wr.alloc (.cells #[.int .u8 (i : Int)] 5) = w1 at b1 hI1 hD1 B1 ⊢
            clear b1
            refine (write_is hD1 HG.out hroom (by omega) P hP4 _ 1 1 _ hI1 (by omega)).mono ?_
            rintro e w2 ⟨S2, rfl, hDf, k2, x2⟩
            have Bf := B1.trans (k2.below B1.size hS)
            have hSf := x2.ge B1.size hS
            rw [code_last HONE.out]
            have hpf : ((s.put P [UInt8.ofNat i]).spent).pend.length ≤ i + 1 := by rw [spent_last (s := s.put P _) HONE.out]; simp [Dk.put]; omega
            have hgf : ((s.put P [UInt8.ofNat i]).spent).gone = true := by rw [spent_last (s := s.put P _) HONE.out]
            generalize (s.put P [UInt8.ofNat i]).spent = sf at hDf hpf hgf
            clear hI1 hD hB hD1 k2 x2
            have HGF := Lib.hid hgf
            clear hgf
            have cvf := (hP.past Bf).cell _ rfl i _ hvc
            clear cv
            go_wp2_with fail
            refine (within7_any v 3 _ (by omega) (by omega)).mono ?_
            rintro e w' ⟨rfl, rfl⟩
            rw [HK.out]
            go_wp2_with fail
            refine (dead_is hDf).mono ?_
            rintro e w' ⟨rfl, rfl⟩
            rw [HGF.out]
            go_wp2_with fail
            go_roundw
            case rel => exact ⟨i + 1, j + 1, _, _, by omega, by omega, by go_num, by go_num, hDf, Bf, hSf, by omega, .inr ⟨by omega, HGF.out⟩⟩
            case measure => simp [intOf]; omega
        · skip
          · have HK : Hid (wth v 3 = 0) := hK
            clear hK
            obtain ⟨rfl, hgone⟩ := hst
            have HG := Lib.hid hgone
            clear hgone
            have t1 : decide ((j : Int) ≤ (j : Int)) = true := by simp
            go_wp2_with fail
            refine (within7_any v 3 _ (by omega) (by omega)).mono ?_
            rintro e w' ⟨rfl, rfl⟩
            rw [HK.out]
            go_wp2_with fail
            refine (within7_any _ 4 _ (by omega) (by omega)).mono ?_
            rintro e w' ⟨rfl, rfl⟩
            generalize hPx : wth _ 4 = Px
            obtain ⟨P, hP1, hP4b⟩ := wth_of (wrap64 (v.tdiv 3)) 4 (by omega)
            rw [hPx] at hP1
            subst hP1
            have hP4 : P < 4 := by omega
            clear hPx hP4b
            go_wp2_with fail
            have b1 : Below wr.heap.size wr (wr.alloc (.cells #[.int .u8 (i : Int)] 5)) := (Below.refl _ _).alloc (Nat.le_refl _) _
            have hI1 := isB_lit wr #[.int .u8 (i : Int)] 5 [UInt8.ofNat i] 1 (by show [Value.int .u8 (i : Int)] = [bc _]; unfold bc; rw [UInt8.toNat_ofNat', Nat.mod_eq_of_lt (by omega)]) rfl (by omega)
            have hD1 := hD.past b1
            have B1 := hB.trans (b1.mono hB.size)
            generalize wr.alloc (.cells #[.int .u8 (i : Int)] 5) = w1 at b1 hI1 hD1 B1 ⊢
            clear b1
            refine (write_dead_is hD1 HG.out _ _ _ _).mono ?_
            rintro e w' ⟨rfl, rfl⟩
            clear hI1 hD hB
            have hDf := hD1
            have Bf := B1
            have hSf := hS
            have hpf := hpend
            have hgf : s.gone = true := HG.out
            have HGF := Lib.hid hgf
            clear hgf
            clear cv
            go_wp2_with fail
            refine (dead_is hDf).mono ?_
            rintro e w' ⟨rfl, rfl⟩
            rw [HGF.out]
            go_wp2_with fail
            go_roundw
            case rel => exact ⟨i + 1, j, _, _, by omega, by omega, by go_num, by go_num, hDf, Bf, hSf, by omega, .inr ⟨rfl, HGF.out⟩⟩
            case measure => simp [intOf]; omega
      · rcases hst with hst | hst
        · by_cases hmore : j + 1 < N
          · have HK : Hid (wth v 3 = 1) := hK
            clear hK
            obtain ⟨hjN, hgone, hleft⟩ := hst
            have hjN2 : (j : Int) < (N : Int) := by omega
            have t4 : ((j : Int) == (N : Int)) = false := by simp; omega
            have t3 : ((j : Int) + 1 == (N : Int)) = false := by simp; omega
            have t5 : (j : Int) + 1 < (N : Int) := by omega
            have hne : s.left ≠ 1 := by omega
            have hroom : Room s := room_of (by omega) (by omega)
            have HG := Lib.hid hgone
            have HL := Lib.hid hleft
            have HNE := Lib.hid hne
            clear hne
            clear hgone hleft
            go_wp2_with fail
            refine (within7_any v 3 _ (by omega) (by omega)).mono ?_
            rintro e w' ⟨rfl, rfl⟩
            rw [HK.out]
            go_wp2_with fail
            refine (sync_is hD HG.out hroom HNE.out (by omega)).mono ?_
            rintro e w2 ⟨S2, rfl, hDf, k2, x2⟩
            have Bf := hB.trans (k2.below hB.size hS)
            have hSf := x2.ge hB.size hS
            have hpf : s.sync.pend.length ≤ i + 1 := by simp [Dk.sync]
            have hgf : s.sync.gone = false := HG.out
            have hlf : s.sync.left = (N : Int) - (j + 1 : Nat) := by show s.left - 1 = _; rw [HL.out]; omega
            generalize s.sync = sf at hDf hpf hgf hlf
            clear hD hB k2 x2
            have HGF := Lib.hid hgf
            have HLF := Lib.hid hlf
            clear hgf hlf
            clear cv
            go_wp2_with fail
            refine (dead_is hDf).mono ?_
            rintro e w' ⟨rfl, rfl⟩
            rw [HGF.out]
            go_wp2_with fail
            go_roundw
            case rel => exact ⟨i + 1, j + 1, _, _, by omega, by omega, by go_num, by go_num, hDf, Bf, hSf, by omega, .inl ⟨by omega, HGF.out, HLF.out⟩⟩
            case measure => simp [intOf]; omega
          · have HK : Hid (wth v 3 = 1) := hK
            clear hK
            obtain ⟨hjN, hgone, hleft⟩ := hst
            have hjN2 : (j : Int) < (N : Int) := by omega
            have t4 : ((j : Int) == (N : Int)) = false := by simp; omega
            have t3 : ((j : Int) + 1 == (N : Int)) = true := by simp; omega
            have t5 : (N : Int) ≤ (j : Int) + 1 := by omega
            have hone : s.left = 1 := by omega
            have hroom : Room s := room_of (by omega) (by omega)
            have HG := Lib.hid hgone
            have HL := Lib.hid hleft
            have HONE := Lib.hid hone
            clear hone
            clear hgone hleft
            go_wp2_with fail
            refine (within7_any v 3 _ (by omega) (by omega)).mono ?_
            rintro e w' ⟨rfl, rfl⟩
            rw [HK.out]
            go_wp2_with fail
            refine (sync_last_is hD HG.out HONE.out).mono ?_
            rintro e w2 ⟨S2, rfl, hDf, k2, x2⟩
            have Bf := hB.trans (k2.below hB.size hS)
            have hSf := x2.ge hB.size hS
            have hpf : ({ s with left := 0, gone := true } : Dk).pend.length ≤ i + 1 := by show s.pend.length ≤ _; omega
            have hgf : ({ s with left := 0, gone := true } : Dk).gone = true := rfl
            generalize ({ s with left := 0, gone := true } : Dk) = sf at hDf hpf hgf
            clear hD hB k2 x2
            have HGF := Lib.hid hgf
            clear hgf
            have cvf := (hP.past Bf).cell _ rfl i _ hvc
            clear cv
            go_wp2_with fail
            refine (within7_any v 3 _ (by omega) (by omega)).mono ?_
            rintro e w' ⟨rfl, rfl⟩
            rw [HK.out]
            go_wp2_with fail
            refine (dead_is hDf).mono ?_
            rintro e w' ⟨rfl, rfl⟩
            rw [HGF.out]
            go_wp2_with fail
            go_roundw
            case rel => exact ⟨i + 1, j + 1, _, _, by omega, by omega, by go_num, by go_num, hDf, Bf, hSf, by omega, .inr ⟨by omega, HGF.out⟩⟩
            case measure => simp [intOf]; omega
        · skip
          · have HK : Hid (wth v 3 = 1) := hK
            clear hK
            obtain ⟨rfl, hgone⟩ := hst
            have HG := Lib.hid hgone
            clear hgone
            have t1 : decide ((j : Int) ≤ (j : Int)) = true := by simp
            go_wp2_with fail
            refine (within7_any v 3 _ (by omega) (by omega)).mono ?_
            rintro e w' ⟨rfl, rfl⟩
            rw [HK.out]
            go_wp2_with fail
            refine (sync_dead_is hD HG.out).mono ?_
            rintro e w' ⟨rfl, rfl⟩
            have hDf := hD
            have Bf := hB
            have hSf := hS
            have hpf := hpend
            have hgf : s.gone = true := HG.out
            clear hD hB
            have HGF := Lib.hid hgf
            clear hgf
            clear cv
            go_wp2_with fail
            refine (dead_is hDf).mono ?_
            rintro e w' ⟨rfl, rfl⟩
            rw [HGF.out]
            go_wp2_with fail
            go_roundw
            case rel => exact ⟨i + 1, j, _, _, by omega, by omega, by go_num, by go_num, hDf, Bf, hSf, by omega, .inr ⟨rfl, HGF.out⟩⟩
            case measure => simp [intOf]; omega
      · rcases hst with hst | hst
        · skip
          · have HK : Hid (wth v 3 = 2) := hK
            clear hK
            obtain ⟨hjN, hgone, hleft⟩ := hst
            have hjN2 : (j : Int) < (N : Int) := by omega
            have t4 : ((j : Int) == (N : Int)) = false := by simp; omega
            have hroom : Room s := room_of (by omega) (by omega)
            have HG := Lib.hid hgone
            have HL := Lib.hid hleft
            clear hgone hleft
            go_wp2_with fail
            refine (within7_any v 3 _ (by omega) (by omega)).mono ?_
            rintro e w' ⟨rfl, rfl⟩
            rw [HK.out]
            go_wp2_with fail
            refine (write_none_is hD HG.out 9 (by omega) _ _ _).mono ?_
            rintro e w' ⟨rfl, rfl⟩
            have hDf := hD
            have Bf := hB
            have hSf := hS
            have hpf := hpend
            have hgf : s.gone = false := HG.out
            have hlf : s.left = (N : Int) - (j : Nat) := HL.out
            clear hD hB
            have HGF := Lib.hid hgf
            have HLF := Lib.hid hlf
            clear hgf hlf
            clear cv
            go_wp2_with fail
            refine (dead_is hDf).mono ?_
            rintro e w' ⟨rfl, rfl⟩
            rw [HGF.out]
            go_wp2_with fail
            go_roundw
            case rel => exact ⟨i + 1, j, _, _, by omega, by omega, by go_num, by go_num, hDf, Bf, hSf, by omega, .inl ⟨by omega, HGF.out, HLF.out⟩⟩
            case measure => simp [intOf]; omega
        · skip
          · have HK : Hid (wth v 3 = 2) := hK
            clear hK
            obtain ⟨rfl, hgone⟩ := hst
            have HG := Lib.hid hgone
            clear hgone
            have t1 : decide ((j : Int) ≤ (j : Int)) = true := by simp
            go_wp2_with fail
            refine (within7_any v 3 _ (by omega) (by omega)).mono ?_
            rintro e w' ⟨rfl, rfl⟩
            rw [HK.out]
            go_wp2_with fail
            refine (write_dead_is hD HG.out _ _ _ _).mono ?_
            rintro e w' ⟨rfl, rfl⟩
            have hDf := hD
            have Bf := hB
            have hSf := hS
            have hpf := hpend
            have hgf : s.gone = true := HG.out
            clear hD hB
            have HGF := Lib.hid hgf
            clear hgf
            clear cv
            go_wp2_with fail
            refine (dead_is hDf).mono ?_
            rintro e w' ⟨rfl, rfl⟩
            rw [HGF.out]
            go_wp2_with fail
            go_roundw
            case rel => exact ⟨i + 1, j, _, _, by omega, by omega, by go_num, by go_num, hDf, Bf, hSf, by omega, .inr ⟨rfl, HGF.out⟩⟩
            case measure => simp [intOf]; omega
    · have hsm := hD.lt
      have q : (n1 : Int) ≤ (i : Int) ∨ ((i : Int) < (n1 : Int) ∧ (25 : Int) ≤ (i : Int)) := by omega
      clear hin hst
      rcases q with q | ⟨q, q'⟩
      all_goals
        go_wp2_with fail
        refine (crash_is hD (by omega) none 0 0 [] (IsR.nilR _) (fun a ha => by cases ha)).mono ?_
        rintro e w5 ⟨S5, rfl, hD5, k5, x5⟩
        have B5 := hB.trans (k5.below hB.size hS)
        have hS5 := x5.ge hB.size hS
        clear hD k5 x5 hB
        go_wp2_with fail
        refine (dead_is hD5).mono ?_
        rintro e w' ⟨rfl, rfl⟩
        rw [show (s.crash []).gone = false from rfl]
        go_wp2_with fail
        refine (write_is hD5 rfl (room_of (show (-1000000 : Int) ≤ 0 by decide) (show (0 : Int) ≤ 1000000 by decide)) (by simp [Dk.crash]) 0 (by omega) none 0 0 [] (IsB.nilB _) (by omega)).mono ?_
        rintro e w6 ⟨S6, rfl, hD6, k6, x6⟩
        have B6 := B5.trans (k6.below B5.size hS5)
        have hS6 := x6.ge B5.size hS5
        clear hD5 k6 x6 B5
        rw [show (s.crash []).code = 0 from rfl]
        go_wp2_with fail
        refine (sync_is hD6 rfl (room_of (show (-1000000 : Int) ≤ -1 by decide) (show (-1 : Int) ≤ 1000000 by decide)) (show (-1 : Int) ≠ 1 by decide) (by simp [Dk.crash, Dk.put, Dk.spent])).mono ?_
        rintro e w7 ⟨S7, rfl, hD7, k7, x7⟩
        have B7 := B6.trans (k7.below B6.size hS6)
        clear hD6 k7 x7 B6 hD7
        go_wp2_with fail
        go_ret
        exact ⟨rfl, B7⟩
end Go.Proofs.Ytfajggiinoeaiaa
