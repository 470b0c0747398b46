/-
  CodeBack, walked.
-/
import Derived.Test.YthkfoebannpmdaaBackL
import Derived.Deep.RegionHeld3
import Derived.Deep.RegionWith
namespace Go.Proofs.Ythkfoebannpmdaa
open Go.RowKit

set_option maxHeartbeats 400000 in
theorem back_long (a0 : Option Addr) (n0 c0 : Nat) (a1 : Option Addr) (n1 c1 : Nat) (w : World) (h : 20 < n0 ∨ 10 < n1) :
    Calls Try.prog 5 #[.slice a0 n0 c0, .slice a1 n1 c1] w (Told w true) := by
  by_cases h1 : 20 < n0
  · clear h
    go_enter Try.func5, Try.ntmps5
    go_wp2_with (go_at_call 11; refine (known_any _).mono ?_; rintro e wA ⟨rfl, hbA⟩)
    go_ret
    exact ⟨rfl, hbA⟩
  · have h2 : 10 < n1 := by omega
    clear h
    go_enter Try.func5, Try.ntmps5
    go_wp2_with (go_at_call 11; refine (known_any _).mono ?_; rintro e wA ⟨rfl, hbA⟩)
    go_ret
    exact ⟨rfl, hbA⟩

set_option maxRecDepth 100000 in
set_option maxHeartbeats 40000000 in
theorem back_walk (a0 : Option Addr) (n0 c0 : Nat) (zs : List Int) (a1 : Option Addr) (n1 c1 : Nat) (ss : List ByteArray) (w : World) (hz : IsI w a0 n0 zs) (hs : IsS w a1 n1 ss) :
    Calls Try.prog 5 #[.slice a0 n0 c0, .slice a1 n1 c1] w (Told w true) := by
  by_cases hc : 20 < n0 ∨ 10 < n1
  · exact back_long a0 n0 c0 a1 n1 c1 w hc
  have h0 : n0 ≤ 20 := by omega
  have h1 : n1 ≤ 10 := by omega
  clear hc
  have hzl := Lib.hid hz.len
  have hsl := Lib.hid hs.len
  go_enter Try.func5, Try.ntmps5
  go_wp2_with (first
    | (go_at_call 11; refine (known_any _).mono ?_; rintro e wA ⟨rfl, hbA⟩)
    | (go_at_call 14; (with_reducible refine (byte_nil _ wA).mono ?_); rintro en w1 ⟨g1, cap1, rfl, o1, b1, q1⟩; have B1 := below_on hbA b1))
  go_loopw [5, 6] (fun b i wr => ∃ j N cap : Nat, ∃ ao, j ≤ n0 ∧ i = .int .i64 (j : Nat) ∧ b = .slice ao N cap ∧ IsB wr ao N cap (le 1 (XU n0) ++ encI (zs.take j)) ∧ N ≤ 1 + 8 * j ∧ Below w.heap.size w wr) (fun _ i _ => n0 - (intOf i).toNat)
  case atStart => exact ⟨0, 1, cap1, _, by omega, rfl, rfl, by simpa [encI] using o1.isB, by omega, B1⟩
  case round =>
    obtain ⟨j, N, cap, ao, hj, rfl, rfl, hi, hN, hB⟩ := hrel
    clear B1 b1 o1 hbA
    by_cases hlt : j < n0
    · obtain ⟨v, hv⟩ : ∃ v, Hid (zs[j]? = some v) := ⟨zs[j]'(by rw [hzl.out]; exact hlt), List.getElem?_eq_getElem _⟩
      obtain ⟨bz, off, rfl, hcell⟩ := hz.cell (by omega)
      have hc := hcell j v hv.out
      have hblk := World.block_lt_of_cell? w _ hc
      have hcr : wr.cell? ⟨bz, off + j, none⟩ = some (.int .i64 v) := by rw [hB.cell hblk]; exact hc
      clear hcell
      go_wp2_with (go_at_call 12; (with_reducible refine (int_any ao N cap _ v wr hi (by omega)).mono ?_); rintro en w2 ⟨g2, c2, rfl, o2, b2, q2⟩; have B2 := below_on hB b2)
      have O2 := o2.isB
      rw [List.append_assoc, ← encI_take zs j v hv.out] at O2
      go_roundw
      case rel => exact ⟨j + 1, N + 8, c2, _, by omega, by go_num, rfl, O2, by omega, B2⟩
      case measure => simp [intOf]; omega
    · obtain rfl : j = n0 := by omega
      have hi1 : IsB wr ao N cap (le 1 (XU j) ++ encI zs) := by
        have := hi
        rwa [List.take_of_length_le (by rw [hzl.out]; omega)] at this
      clear hi hlt hj
      go_wp2_with fail
      go_loopw [5, 7] (fun b i wq => ∃ i' N cap : Nat, ∃ ao, i' ≤ n1 ∧ i = .int .i64 (i' : Nat) ∧ b = .slice ao N cap ∧ IsB wq ao N cap (le 1 (XU j) ++ (encI zs ++ encS (ss.take i'))) ∧ N ≤ 161 + 202 * i' ∧ Below w.heap.size w wq ∧ ∀ s ∈ ss.take i', s.size ≤ 200) (fun _ i _ => n1 - (intOf i).toNat)
      case atStart => exact ⟨0, N, cap, ao, by omega, rfl, rfl, by simpa [encS] using hi1, by omega, hB, by simp⟩
      case round =>
        obtain ⟨i, N, cap, ao, hi', rfl, rfl, hi, hN, hB, hsz⟩ := hrel
        have HSZ := Lib.hid hsz
        clear hi1 hsz
        by_cases hlt : i < n1
        · obtain ⟨s, hv⟩ : ∃ s, Hid (ss[i]? = some s) := ⟨ss[i]'(by rw [hsl.out]; exact hlt), List.getElem?_eq_getElem _⟩
          obtain ⟨bs, offs, rfl, hcell⟩ := hs.cell (by omega)
          have hc := hcell i s hv.out
          have hblk := World.block_lt_of_cell? w _ hc
          have hcr : wr.cell? ⟨bs, offs + i, none⟩ = some (.string s) := by rw [hB.cell hblk]; exact hc
          clear hcell
          by_cases h200 : 200 < s.size
          · go_wp2_with fail
            go_ret
            exact ⟨rfl, hB⟩
          · have hs2 : s.size ≤ 200 := by omega
            go_wp2_with (go_at_call 16; (with_reducible refine (text_small ao N cap _ s wr hi (by omega) (by omega)).mono ?_); rintro en w2 ⟨g2, c2, rfl, o2, b2, q2⟩; have B2 := below_on hB b2)
            have O2 := o2.isB
            rw [List.append_assoc, List.append_assoc, show le 2 s.size ++ s.data.toList = txt s from rfl, ← encS_take ss i s hv.out] at O2
            have HS2 : ∀ x ∈ ss.take (i + 1), x.size ≤ 200 := by
              obtain ⟨hj, rfl⟩ := List.getElem?_eq_some_iff.1 hv.out
              intro x hx
              rw [List.take_succ_eq_append_getElem hj, List.mem_append, List.mem_singleton] at hx
              rcases hx with hx | rfl
              · exact HSZ.out x hx
              · exact hs2
            have HS3 := Lib.hid HS2
            clear HS2
            go_roundw
            case rel => exact ⟨i + 1, _, c2, _, by omega, by go_num, rfl, O2, by omega, B2, HS3.out⟩
            case measure => simp [intOf]; omega
        · obtain rfl : i = n1 := by omega
          have hi2 : IsB wr ao N cap (le 1 (XU j) ++ (encI zs ++ encS ss)) := by
            have := hi
            rwa [List.take_of_length_le (by rw [hsl.out]; omega)] at this
          have hs200 : Hid (∀ x ∈ ss, x.size ≤ 200) := by
            have := HSZ.out
            rwa [List.take_of_length_le (by rw [hsl.out]; omega)] at this
          clear hi hlt hi' HSZ
          go_wp2_with fail
          obtain ⟨F, hF⟩ : ∃ F, Hid (F = le 1 (XU j) ++ (encI zs ++ encS ss)) := ⟨_, rfl⟩
          rw [← hF.out] at hi2
          have hFl : F.length = N := hi2.len
          have hF1 : 0 < F.length := by rw [hF.out, List.length_append, le_length]; omega
          obtain ⟨M, rfl⟩ : ∃ M, N = M + 1 := ⟨N - 1, by omega⟩
          have hFne : F ≠ [] := List.length_pos_iff.1 hF1
          have hdl : F.take M = F.dropLast := by rw [List.dropLast_eq_take, hFl, Nat.add_sub_cancel]
          have hcap := hi2.le
          have hmax := hi2.max
          unfold maxLen at hmax
          have HFne := Lib.hid hFne
          have HD := Lib.hid hdl
          clear hFl hF1 hFne hdl
          have HB2 := hB
          go_loopw [8] (fun k wq => ∃ kk : Nat, kk ≤ 3 ∧ k = .int .i64 (kk : Nat) ∧ Below w.heap.size w wq ∧ IsB wq ao (M + 1) cap F) (fun k _ => 3 - (intOf k).toNat)
          case atStart => exact ⟨0, by omega, rfl, hB, hi2⟩
          case round =>
            obtain ⟨kk, hkk, rfl, hB, hi⟩ := hrel
            clear hi2 HB2
            by_cases hk3 : kk = 3
            · subst hk3
              go_wp2_with fail
              go_ret
              exact ⟨rfl, hB⟩
            · have hk : kk = 0 ∨ kk = 1 ∨ kk = 2 := by omega
              clear hkk hk3
              rcases hk with rfl | rfl | rfl
              · have hst : Hid (St 0 F F 0) := .inr ⟨by omega, rfl, by simp [tl]⟩
                go_wp2_with (go_at_call 18; (with_reducible refine (new_any ao (M + 1) cap F wr hi (by omega)).mono ?_); rintro en w4 ⟨g, D, rfl, R4, b4, G4, F4⟩; have B4 := below_on hB b4; have X4 := hi.past b4)
                have hblkF : ∀ a, ao = some a → a.block < wr.heap.size := fun a ha => by
                  obtain ⟨u, r, hu⟩ := List.exists_cons_of_ne_nil HFne.out
                  have := World.block_lt_of_cell? wr _ (hi.cell a ha 0 u (by rw [hu]; rfl))
                  rwa [block_add] at this
                have hneF : ∀ a, ao = some a → some a.block ≠ some g := fun a ha hh => by
                  have h1 := hblkF a ha
                  have h2 := Option.some.inj hh
                  omega
                have GG : w.heap.size ≤ g := by have := hB.size; omega
                obtain ⟨X, hX, R4⟩ : ∃ X, Hid (St 0 F X 0) ∧ Rd w4 g D X 0 := ⟨_, hst, R4⟩
                have hs1 : Hid (St 0 (encI zs ++ encS ss) (dN 1 X 0) (eN 1 X 0) ∧ (0 ≠ 2 → vN 1 X 0 = (j : Int))) := by
                  have h := hX.out
                  rw [hF.out] at h
                  have h2 := st_byte 0 _ _ X 0 h
                  rw [wrap_le1 j h0] at h2
                  exact h2
                obtain ⟨ok1, hok1, hokk⟩ : ∃ ok1 : Bool, (vN 1 X 0 == (j : Int)) = ok1 ∧ Hid (0 ≠ 2 → ok1 = true) := ⟨_, rfl, fun hk => by rw [hs1.out.2 hk]; simp⟩
                clear hblkF hst
                go_wp2_with (go_at_call 23; (with_reducible refine (rByte_any g D X 0 w4 R4).mono ?_); rintro en w5 ⟨rfl, R5, k5⟩; have B5' := below_gr B4 k5 GG; have X5 := X4.grown k5 hneF)
                clear R4 B4 X4 b4 G4 F4 hX
                go_loopw [11, 12] (fun okv i wq => ∃ jj : Nat, ∃ okb : Bool, ∃ l' e', jj ≤ j ∧ i = .int .i64 (jj : Nat) ∧ okv = .bool okb ∧ Hid (0 ≠ 2 → okb = true) ∧ Hid (St 0 (encI (zs.drop jj) ++ encS ss) l' e') ∧ Rd wq g D l' e' ∧ Below w.heap.size w wq ∧ IsB wq ao (M + 1) cap F) (fun _ i _ => j - (intOf i).toNat)
                case atStart => exact ⟨0, ok1, _, _, by omega, rfl, rfl, hokk, hs1.out.1, R5, B5', X5⟩
                case round =>
                  obtain ⟨jj, okb, l', e', hjj, rfl, rfl, hok, hst, R, BB, XX⟩ := hrel
                  clear hs1 hok1 hokk R5 B5' X5 k5
                  by_cases hlt : jj < j
                  · obtain ⟨v, hv⟩ : ∃ v, Hid (zs[jj]? = some v) := ⟨zs[jj]'(by rw [hzl.out]; exact hlt), List.getElem?_eq_getElem _⟩
                    obtain ⟨bz, off, rfl, hcell⟩ := hz.cell (by omega)
                    have hc := hcell jj v hv.out
                    have hblk := World.block_lt_of_cell? w _ hc
                    have hcr : wr.drew.cell? ⟨bz, off + jj, none⟩ = some (.int .i64 v) := by rw [BB.drew.cell hblk]; exact hc
                    have hvr := hz.rng v (List.mem_of_getElem? hv.out)
                    have hi2 : Hid (St 0 (encI (zs.drop (jj + 1)) ++ encS ss) (dN 8 l' e') (eN 8 l' e') ∧ (0 ≠ 2 → vN 8 l' e' = v)) := by
                      have h := hst.out
                      rw [encI_drop zs jj v hv.out, List.append_assoc] at h
                      exact st_int 0 v hvr _ _ _ h
                    have RD := R.below (Below.refl _ wr).drew
                    have j0 : (0 : Int) ≤ (jj : Int) := by omega
                    have j1 : (jj : Int) < (j : Int) := by omega
                    clear hcell
                    obtain ⟨x, hx, hxk⟩ : ∃ x : Bool, (vN 8 l' e' == v) = x ∧ Hid (0 ≠ 2 → x = true) := ⟨_, rfl, fun hk => by rw [hi2.out.2 hk]; simp⟩
                    cases x
                    · go_wp2_with fail
                      first | go_region_with (go_at_call 21; (with_reducible refine (rInt_any g D l' e' _ (by exact RD)).mono ?_); rintro en w6 ⟨rfl, R6, k6⟩; have B6' := below_gr BB.drew k6 GG; have X6 := (IsB.drew XX).grown k6 hneF; have hc6 : w6.cell? ⟨bz, off + jj, none⟩ = some (.int .i64 v) := (by rw [B6'.cell hblk]; exact hc)) | fail
                      all_goals
                        go_wp2_with fail
                        go_roundw
                        case rel => exact ⟨jj + 1, false, _, _, by omega, by go_num, rfl, fun hk => hxk.out hk, hi2.out.1, R6, B6', X6⟩
                        case measure => simp [intOf]; omega
                    · go_wp2_with fail
                      go_region_held3 (fun w' => w'.cell? ⟨bz, off + jj, none⟩ = some (.int .i64 v)) (first | exact hcr | exact hc6) (first
                        | (go_at_call 21; (with_reducible refine (rInt_any g D l' e' _ (by exact RD)).mono ?_); rintro en w6 ⟨rfl, R6, k6⟩; have B6' := below_gr BB.drew k6 GG; have X6 := (IsB.drew XX).grown k6 hneF; have hc6 : w6.cell? ⟨bz, off + jj, none⟩ = some (.int .i64 v) := (by rw [B6'.cell hblk]; exact hc)))
                      go_wp2_with fail
                      go_roundw
                      case rel => exact ⟨jj + 1, okb, _, _, by omega, by go_num, rfl, hok, hi2.out.1, R6, B6', X6⟩
                      case measure => simp [intOf]; omega
                  · have hst1 : Hid (St 0 (encS ss) l' e') := by
                      have h := hst.out
                      rwa [List.drop_eq_nil_of_le (by rw [hzl.out]; omega), encI, List.nil_append] at h
                    clear hst
                    go_wp2_with fail
                    go_loopw [11, 13] (fun okv i' wq => ∃ jj : Nat, ∃ okb : Bool, ∃ l' e', jj ≤ i ∧ i' = .int .i64 (jj : Nat) ∧ okv = .bool okb ∧ Hid (0 ≠ 2 → okb = true) ∧ Hid (St 0 (encS (ss.drop jj)) l' e') ∧ Rd wq g D l' e' ∧ Below w.heap.size w wq ∧ IsB wq ao (M + 1) cap F) (fun _ i' _ => i - (intOf i').toNat)
                    case atStart => exact ⟨0, okb, l', e', by omega, rfl, rfl, hok, hst1, R, BB, XX⟩
                    case round =>
                      obtain ⟨jj, okb, l', e', hjj, rfl, rfl, hok, hst, R, BB, XX⟩ := hrel
                      clear hst1
                      by_cases hlt : jj < i
                      · obtain ⟨v, hv⟩ : ∃ v, Hid (ss[jj]? = some v) := ⟨ss[jj]'(by rw [hsl.out]; exact hlt), List.getElem?_eq_getElem _⟩
                        obtain ⟨bz, off, rfl, hcell⟩ := hs.cell (by omega)
                        have hc := hcell jj v hv.out
                        have hblk := World.block_lt_of_cell? w _ hc
                        have hcr : wr.drew.cell? ⟨bz, off + jj, none⟩ = some (.string v) := by rw [BB.drew.cell hblk]; exact hc
                        have hi2 : Hid (St 0 (encS (ss.drop (jj + 1))) (dT l' e') (eT l' e') ∧ (0 ≠ 2 → (⟨(vT l' e').toArray⟩ : ByteArray) = v)) := by
                          have h := hst.out
                          rw [encS_drop ss jj v hv.out] at h
                          exact st_txt 0 v (hs200.out v (List.mem_of_getElem? hv.out)) _ _ _ h
                        have RD := R.below (Below.refl _ wr).drew
                        have j0 : (0 : Int) ≤ (jj : Int) := by omega
                        have j1 : (jj : Int) < (i : Int) := by omega
                        clear hcell
                        obtain ⟨tb, htb⟩ : ∃ tb : ByteArray, Hid (tb = ⟨(vT l' e').toArray⟩) := ⟨_, rfl⟩
                        have HC : Hid (∀ wx, Rd wx g D l' e' → Calls Try.prog 25 #[.pointer (some ⟨g, 0, none⟩)] wx fun en w' => en = .returned (.string tb) ∧ Rd w' g D (dT l' e') (eT l' e') ∧ wx.grownBy w' (some g)) := fun wx hR => by
                          rw [htb.out]; exact rText_any g D l' e' wx hR
                        obtain ⟨x, hx, hxk⟩ : ∃ x : Bool, (tb.toList == v.toList) = x ∧ Hid (0 ≠ 2 → x = true) := ⟨_, rfl, fun hk => by rw [htb.out, hi2.out.2 hk]; exact beq_self_eq_true _⟩
                        cases x
                        · go_wp2_with fail
                          first | go_region_with (go_at_call 25; (with_reducible refine (HC.out _ (by exact RD)).mono ?_); rintro en w6 ⟨rfl, R6, k6⟩; have B6' := below_gr BB.drew k6 GG; have X6 := (IsB.drew XX).grown k6 hneF; have hc6 : w6.cell? ⟨bz, off + jj, none⟩ = some (.string v) := (by rw [B6'.cell hblk]; exact hc)) | fail
                          all_goals
                            go_wp2_with fail
                            go_roundw
                            case rel => exact ⟨jj + 1, false, _, _, by omega, by go_num, rfl, fun hk => hxk.out hk, hi2.out.1, R6, B6', X6⟩
                            case measure => simp [intOf]; omega
                        · go_wp2_with fail
                          go_region_held3 (fun w' => w'.cell? ⟨bz, off + jj, none⟩ = some (.string v)) (first | exact hcr | exact hc6) (first
                            | (go_at_call 25; (with_reducible refine (HC.out _ (by exact RD)).mono ?_); rintro en w6 ⟨rfl, R6, k6⟩; have B6' := below_gr BB.drew k6 GG; have X6 := (IsB.drew XX).grown k6 hneF; have hc6 : w6.cell? ⟨bz, off + jj, none⟩ = some (.string v) := (by rw [B6'.cell hblk]; exact hc)))
                          go_wp2_with fail
                          go_roundw
                          case rel => exact ⟨jj + 1, okb, _, _, by omega, by go_num, rfl, hok, hi2.out.1, R6, B6', X6⟩
                          case measure => simp [intOf]; omega
                      · have hE : Hid (endE l' e' = 0) := by
                          have h := hst.out
                          rw [List.drop_eq_nil_of_le (by rw [hsl.out]; omega), encS] at h
                          have := st_end 0 l' e' h
                          unfold Hid
                          simpa using this
                        obtain rfl : okb = true := hok.out (by omega)
                        go_wp2_with (go_at_call 29; (with_reducible refine (rEnd_any g D l' e' wr R).mono ?_); rintro en w' ⟨rfl, rfl⟩; rw [hE.out])
                        go_roundw
                        case rel => exact ⟨1, by omega, rfl, BB, XX⟩
                        case measure => simp [intOf]
              · have hst : Hid (St 1 F (F ++ [7]) 0) := .inr ⟨by omega, rfl, by simp [tl]⟩
                go_wp2_with (first
                  | (at_builtin; refine wpList_append_ob rfl _ _ 22 22 rfl 5 byteTy _ 0 0 [] rfl (own_empty wr) _ rfl (M + 1) F ((hi.alloc _).src byteTy.ht) (M + 1) (Nat.zero_add _) F rfl (by omega) ?_; intro g5 c5 w5 o5 p5 q5; have B5 := below_puts (Below.refl _ wr) p5 (Nat.le_refl _); have G5 := ge_new q5)
                  | (at_builtin; refine wpList_append_ob rfl _ _ 22 22 rfl 5 byteTy g5 (M + 1) c5 F rfl (o5.alloc _) _ rfl 1 [7] (src_one byteTy.ht _ _ _ rfl) (M + 1 + 1) rfl _ rfl (by omega) ?_; intro g6 c6 w6 o6 p6 q6; have B6 := (B5.alloc B5.size _).trans (p6.below G5 (by have := B5.size; simp; omega)))
                  | (go_at_call 18; (with_reducible refine (new_any (some ⟨g6, 0, none⟩) (M + 1 + 1) c6 _ w6 o6.isB (by omega)).mono ?_); rintro en w4 ⟨g, D, rfl, R4, b4, G4, F4⟩; have b4' := below_on B6 b4; have B4 := below_on hB b4'; have X4 := hi.past b4'))
                have hB6s := B6.size
                have hblkF : ∀ a, ao = some a → a.block < wr.heap.size := fun a ha => by
                  obtain ⟨u, r, hu⟩ := List.exists_cons_of_ne_nil HFne.out
                  have := World.block_lt_of_cell? wr _ (hi.cell a ha 0 u (by rw [hu]; rfl))
                  rwa [block_add] at this
                have hneF : ∀ a, ao = some a → some a.block ≠ some g := fun a ha hh => by
                  have h1 := hblkF a ha
                  have h2 := Option.some.inj hh
                  omega
                have GG : w.heap.size ≤ g := by have := hB.size; omega
                obtain ⟨X, hX, R4⟩ : ∃ X, Hid (St 1 F X 0) ∧ Rd w4 g D X 0 := ⟨_, hst, R4⟩
                have hs1 : Hid (St 1 (encI zs ++ encS ss) (dN 1 X 0) (eN 1 X 0) ∧ (1 ≠ 2 → vN 1 X 0 = (j : Int))) := by
                  have h := hX.out
                  rw [hF.out] at h
                  have h2 := st_byte 1 _ _ X 0 h
                  rw [wrap_le1 j h0] at h2
                  exact h2
                obtain ⟨ok1, hok1, hokk⟩ : ∃ ok1 : Bool, (vN 1 X 0 == (j : Int)) = ok1 ∧ Hid (1 ≠ 2 → ok1 = true) := ⟨_, rfl, fun hk => by rw [hs1.out.2 hk]; simp⟩
                clear hblkF hst
                go_wp2_with (go_at_call 23; (with_reducible refine (rByte_any g D X 0 w4 R4).mono ?_); rintro en w5 ⟨rfl, R5, k5⟩; have B5' := below_gr B4 k5 GG; have X5 := X4.grown k5 hneF)
                clear R4 B4 X4 b4 G4 F4 hX
                go_loopw [11, 12] (fun okv i wq => ∃ jj : Nat, ∃ okb : Bool, ∃ l' e', jj ≤ j ∧ i = .int .i64 (jj : Nat) ∧ okv = .bool okb ∧ Hid (1 ≠ 2 → okb = true) ∧ Hid (St 1 (encI (zs.drop jj) ++ encS ss) l' e') ∧ Rd wq g D l' e' ∧ Below w.heap.size w wq ∧ IsB wq ao (M + 1) cap F) (fun _ i _ => j - (intOf i).toNat)
                case atStart => exact ⟨0, ok1, _, _, by omega, rfl, rfl, hokk, hs1.out.1, R5, B5', X5⟩
                case round =>
                  obtain ⟨jj, okb, l', e', hjj, rfl, rfl, hok, hst, R, BB, XX⟩ := hrel
                  clear hs1 hok1 hokk R5 B5' X5 k5
                  by_cases hlt : jj < j
                  · obtain ⟨v, hv⟩ : ∃ v, Hid (zs[jj]? = some v) := ⟨zs[jj]'(by rw [hzl.out]; exact hlt), List.getElem?_eq_getElem _⟩
                    obtain ⟨bz, off, rfl, hcell⟩ := hz.cell (by omega)
                    have hc := hcell jj v hv.out
                    have hblk := World.block_lt_of_cell? w _ hc
                    have hcr : wr.drew.cell? ⟨bz, off + jj, none⟩ = some (.int .i64 v) := by rw [BB.drew.cell hblk]; exact hc
                    have hvr := hz.rng v (List.mem_of_getElem? hv.out)
                    have hi2 : Hid (St 1 (encI (zs.drop (jj + 1)) ++ encS ss) (dN 8 l' e') (eN 8 l' e') ∧ (1 ≠ 2 → vN 8 l' e' = v)) := by
                      have h := hst.out
                      rw [encI_drop zs jj v hv.out, List.append_assoc] at h
                      exact st_int 1 v hvr _ _ _ h
                    have RD := R.below (Below.refl _ wr).drew
                    have j0 : (0 : Int) ≤ (jj : Int) := by omega
                    have j1 : (jj : Int) < (j : Int) := by omega
                    clear hcell
                    obtain ⟨x, hx, hxk⟩ : ∃ x : Bool, (vN 8 l' e' == v) = x ∧ Hid (1 ≠ 2 → x = true) := ⟨_, rfl, fun hk => by rw [hi2.out.2 hk]; simp⟩
                    cases x
                    · go_wp2_with fail
                      first | go_region_with (go_at_call 21; (with_reducible refine (rInt_any g D l' e' _ (by exact RD)).mono ?_); rintro en w6 ⟨rfl, R6, k6⟩; have B6' := below_gr BB.drew k6 GG; have X6 := (IsB.drew XX).grown k6 hneF; have hc6 : w6.cell? ⟨bz, off + jj, none⟩ = some (.int .i64 v) := (by rw [B6'.cell hblk]; exact hc)) | fail
                      all_goals
                        go_wp2_with fail
                        go_roundw
                        case rel => exact ⟨jj + 1, false, _, _, by omega, by go_num, rfl, fun hk => hxk.out hk, hi2.out.1, R6, B6', X6⟩
                        case measure => simp [intOf]; omega
                    · go_wp2_with fail
                      go_region_held3 (fun w' => w'.cell? ⟨bz, off + jj, none⟩ = some (.int .i64 v)) (first | exact hcr | exact hc6) (first
                        | (go_at_call 21; (with_reducible refine (rInt_any g D l' e' _ (by exact RD)).mono ?_); rintro en w6 ⟨rfl, R6, k6⟩; have B6' := below_gr BB.drew k6 GG; have X6 := (IsB.drew XX).grown k6 hneF; have hc6 : w6.cell? ⟨bz, off + jj, none⟩ = some (.int .i64 v) := (by rw [B6'.cell hblk]; exact hc)))
                      go_wp2_with fail
                      go_roundw
                      case rel => exact ⟨jj + 1, okb, _, _, by omega, by go_num, rfl, hok, hi2.out.1, R6, B6', X6⟩
                      case measure => simp [intOf]; omega
                  · have hst1 : Hid (St 1 (encS ss) l' e') := by
                      have h := hst.out
                      rwa [List.drop_eq_nil_of_le (by rw [hzl.out]; omega), encI, List.nil_append] at h
                    clear hst
                    go_wp2_with fail
                    go_loopw [11, 13] (fun okv i' wq => ∃ jj : Nat, ∃ okb : Bool, ∃ l' e', jj ≤ i ∧ i' = .int .i64 (jj : Nat) ∧ okv = .bool okb ∧ Hid (1 ≠ 2 → okb = true) ∧ Hid (St 1 (encS (ss.drop jj)) l' e') ∧ Rd wq g D l' e' ∧ Below w.heap.size w wq ∧ IsB wq ao (M + 1) cap F) (fun _ i' _ => i - (intOf i').toNat)
                    case atStart => exact ⟨0, okb, l', e', by omega, rfl, rfl, hok, hst1, R, BB, XX⟩
                    case round =>
                      obtain ⟨jj, okb, l', e', hjj, rfl, rfl, hok, hst, R, BB, XX⟩ := hrel
                      clear hst1
                      by_cases hlt : jj < i
                      · obtain ⟨v, hv⟩ : ∃ v, Hid (ss[jj]? = some v) := ⟨ss[jj]'(by rw [hsl.out]; exact hlt), List.getElem?_eq_getElem _⟩
                        obtain ⟨bz, off, rfl, hcell⟩ := hs.cell (by omega)
                        have hc := hcell jj v hv.out
                        have hblk := World.block_lt_of_cell? w _ hc
                        have hcr : wr.drew.cell? ⟨bz, off + jj, none⟩ = some (.string v) := by rw [BB.drew.cell hblk]; exact hc
                        have hi2 : Hid (St 1 (encS (ss.drop (jj + 1))) (dT l' e') (eT l' e') ∧ (1 ≠ 2 → (⟨(vT l' e').toArray⟩ : ByteArray) = v)) := by
                          have h := hst.out
                          rw [encS_drop ss jj v hv.out] at h
                          exact st_txt 1 v (hs200.out v (List.mem_of_getElem? hv.out)) _ _ _ h
                        have RD := R.below (Below.refl _ wr).drew
                        have j0 : (0 : Int) ≤ (jj : Int) := by omega
                        have j1 : (jj : Int) < (i : Int) := by omega
                        clear hcell
                        obtain ⟨tb, htb⟩ : ∃ tb : ByteArray, Hid (tb = ⟨(vT l' e').toArray⟩) := ⟨_, rfl⟩
                        have HC : Hid (∀ wx, Rd wx g D l' e' → Calls Try.prog 25 #[.pointer (some ⟨g, 0, none⟩)] wx fun en w' => en = .returned (.string tb) ∧ Rd w' g D (dT l' e') (eT l' e') ∧ wx.grownBy w' (some g)) := fun wx hR => by
                          rw [htb.out]; exact rText_any g D l' e' wx hR
                        obtain ⟨x, hx, hxk⟩ : ∃ x : Bool, (tb.toList == v.toList) = x ∧ Hid (1 ≠ 2 → x = true) := ⟨_, rfl, fun hk => by rw [htb.out, hi2.out.2 hk]; exact beq_self_eq_true _⟩
                        cases x
                        · go_wp2_with fail
                          first | go_region_with (go_at_call 25; (with_reducible refine (HC.out _ (by exact RD)).mono ?_); rintro en w6 ⟨rfl, R6, k6⟩; have B6' := below_gr BB.drew k6 GG; have X6 := (IsB.drew XX).grown k6 hneF; have hc6 : w6.cell? ⟨bz, off + jj, none⟩ = some (.string v) := (by rw [B6'.cell hblk]; exact hc)) | fail
                          all_goals
                            go_wp2_with fail
                            go_roundw
                            case rel => exact ⟨jj + 1, false, _, _, by omega, by go_num, rfl, fun hk => hxk.out hk, hi2.out.1, R6, B6', X6⟩
                            case measure => simp [intOf]; omega
                        · go_wp2_with fail
                          go_region_held3 (fun w' => w'.cell? ⟨bz, off + jj, none⟩ = some (.string v)) (first | exact hcr | exact hc6) (first
                            | (go_at_call 25; (with_reducible refine (HC.out _ (by exact RD)).mono ?_); rintro en w6 ⟨rfl, R6, k6⟩; have B6' := below_gr BB.drew k6 GG; have X6 := (IsB.drew XX).grown k6 hneF; have hc6 : w6.cell? ⟨bz, off + jj, none⟩ = some (.string v) := (by rw [B6'.cell hblk]; exact hc)))
                          go_wp2_with fail
                          go_roundw
                          case rel => exact ⟨jj + 1, okb, _, _, by omega, by go_num, rfl, hok, hi2.out.1, R6, B6', X6⟩
                          case measure => simp [intOf]; omega
                      · have hE : Hid (endE l' e' = 9) := by
                          have h := hst.out
                          rw [List.drop_eq_nil_of_le (by rw [hsl.out]; omega), encS] at h
                          have := st_end 1 l' e' h
                          unfold Hid
                          simpa using this
                        obtain rfl : okb = true := hok.out (by omega)
                        go_wp2_with (go_at_call 29; (with_reducible refine (rEnd_any g D l' e' wr R).mono ?_); rintro en w' ⟨rfl, rfl⟩; rw [hE.out])
                        go_roundw
                        case rel => exact ⟨2, by omega, rfl, BB, XX⟩
                        case measure => simp [intOf]
              · have hst : Hid (St 2 F F.dropLast 0) := .inl ⟨rfl, .inl ⟨rfl, HFne.out, rfl⟩⟩
                have hiT : IsB wr ao M cap F.dropLast := by rw [← HD.out]; exact IsB_take hi (by omega)
                go_wp2_with (go_at_call 18; (with_reducible refine (new_any ao M cap F.dropLast wr hiT (by omega)).mono ?_); rintro en w4 ⟨g, D, rfl, R4, b4, G4, F4⟩; have B4 := below_on hB b4; have X4 := hi.past b4)
                have hblkF : ∀ a, ao = some a → a.block < wr.heap.size := fun a ha => by
                  obtain ⟨u, r, hu⟩ := List.exists_cons_of_ne_nil HFne.out
                  have := World.block_lt_of_cell? wr _ (hi.cell a ha 0 u (by rw [hu]; rfl))
                  rwa [block_add] at this
                have hneF : ∀ a, ao = some a → some a.block ≠ some g := fun a ha hh => by
                  have h1 := hblkF a ha
                  have h2 := Option.some.inj hh
                  omega
                have GG : w.heap.size ≤ g := by have := hB.size; omega
                obtain ⟨X, hX, R4⟩ : ∃ X, Hid (St 2 F X 0) ∧ Rd w4 g D X 0 := ⟨_, hst, R4⟩
                have hs1 : Hid (St 2 (encI zs ++ encS ss) (dN 1 X 0) (eN 1 X 0) ∧ (2 ≠ 2 → vN 1 X 0 = (j : Int))) := by
                  have h := hX.out
                  rw [hF.out] at h
                  have h2 := st_byte 2 _ _ X 0 h
                  rw [wrap_le1 j h0] at h2
                  exact h2
                obtain ⟨ok1, hok1, hokk⟩ : ∃ ok1 : Bool, (vN 1 X 0 == (j : Int)) = ok1 ∧ Hid (2 ≠ 2 → ok1 = true) := ⟨_, rfl, fun hk => by rw [hs1.out.2 hk]; simp⟩
                clear hblkF hst
                go_wp2_with (go_at_call 23; (with_reducible refine (rByte_any g D X 0 w4 R4).mono ?_); rintro en w5 ⟨rfl, R5, k5⟩; have B5' := below_gr B4 k5 GG; have X5 := X4.grown k5 hneF)
                clear R4 B4 X4 b4 G4 F4 hX
                go_loopw [11, 12] (fun okv i wq => ∃ jj : Nat, ∃ okb : Bool, ∃ l' e', jj ≤ j ∧ i = .int .i64 (jj : Nat) ∧ okv = .bool okb ∧ Hid (2 ≠ 2 → okb = true) ∧ Hid (St 2 (encI (zs.drop jj) ++ encS ss) l' e') ∧ Rd wq g D l' e' ∧ Below w.heap.size w wq ∧ IsB wq ao (M + 1) cap F) (fun _ i _ => j - (intOf i).toNat)
                case atStart => exact ⟨0, ok1, _, _, by omega, rfl, rfl, hokk, hs1.out.1, R5, B5', X5⟩
                case round =>
                  obtain ⟨jj, okb, l', e', hjj, rfl, rfl, hok, hst, R, BB, XX⟩ := hrel
                  clear hs1 hok1 hokk R5 B5' X5 k5
                  by_cases hlt : jj < j
                  · obtain ⟨v, hv⟩ : ∃ v, Hid (zs[jj]? = some v) := ⟨zs[jj]'(by rw [hzl.out]; exact hlt), List.getElem?_eq_getElem _⟩
                    obtain ⟨bz, off, rfl, hcell⟩ := hz.cell (by omega)
                    have hc := hcell jj v hv.out
                    have hblk := World.block_lt_of_cell? w _ hc
                    have hcr : wr.drew.cell? ⟨bz, off + jj, none⟩ = some (.int .i64 v) := by rw [BB.drew.cell hblk]; exact hc
                    have hvr := hz.rng v (List.mem_of_getElem? hv.out)
                    have hi2 : Hid (St 2 (encI (zs.drop (jj + 1)) ++ encS ss) (dN 8 l' e') (eN 8 l' e') ∧ (2 ≠ 2 → vN 8 l' e' = v)) := by
                      have h := hst.out
                      rw [encI_drop zs jj v hv.out, List.append_assoc] at h
                      exact st_int 2 v hvr _ _ _ h
                    have RD := R.below (Below.refl _ wr).drew
                    have j0 : (0 : Int) ≤ (jj : Int) := by omega
                    have j1 : (jj : Int) < (j : Int) := by omega
                    clear hcell
                    obtain ⟨x, hx, hxk⟩ : ∃ x : Bool, (vN 8 l' e' == v) = x ∧ Hid (2 ≠ 2 → x = true) := ⟨_, rfl, fun hk => by rw [hi2.out.2 hk]; simp⟩
                    cases x
                    · go_wp2_with fail
                      first | go_region_with (go_at_call 21; (with_reducible refine (rInt_any g D l' e' _ (by exact RD)).mono ?_); rintro en w6 ⟨rfl, R6, k6⟩; have B6' := below_gr BB.drew k6 GG; have X6 := (IsB.drew XX).grown k6 hneF; have hc6 : w6.cell? ⟨bz, off + jj, none⟩ = some (.int .i64 v) := (by rw [B6'.cell hblk]; exact hc)) | fail
                      all_goals
                        go_wp2_with fail
                        go_roundw
                        case rel => exact ⟨jj + 1, false, _, _, by omega, by go_num, rfl, fun hk => hxk.out hk, hi2.out.1, R6, B6', X6⟩
                        case measure => simp [intOf]; omega
                    · go_wp2_with fail
                      go_region_held3 (fun w' => w'.cell? ⟨bz, off + jj, none⟩ = some (.int .i64 v)) (first | exact hcr | exact hc6) (first
                        | (go_at_call 21; (with_reducible refine (rInt_any g D l' e' _ (by exact RD)).mono ?_); rintro en w6 ⟨rfl, R6, k6⟩; have B6' := below_gr BB.drew k6 GG; have X6 := (IsB.drew XX).grown k6 hneF; have hc6 : w6.cell? ⟨bz, off + jj, none⟩ = some (.int .i64 v) := (by rw [B6'.cell hblk]; exact hc)))
                      go_wp2_with fail
                      go_roundw
                      case rel => exact ⟨jj + 1, okb, _, _, by omega, by go_num, rfl, hok, hi2.out.1, R6, B6', X6⟩
                      case measure => simp [intOf]; omega
                  · have hst1 : Hid (St 2 (encS ss) l' e') := by
                      have h := hst.out
                      rwa [List.drop_eq_nil_of_le (by rw [hzl.out]; omega), encI, List.nil_append] at h
                    clear hst
                    go_wp2_with fail
                    go_loopw [11, 13] (fun okv i' wq => ∃ jj : Nat, ∃ okb : Bool, ∃ l' e', jj ≤ i ∧ i' = .int .i64 (jj : Nat) ∧ okv = .bool okb ∧ Hid (2 ≠ 2 → okb = true) ∧ Hid (St 2 (encS (ss.drop jj)) l' e') ∧ Rd wq g D l' e' ∧ Below w.heap.size w wq ∧ IsB wq ao (M + 1) cap F) (fun _ i' _ => i - (intOf i').toNat)
                    case atStart => exact ⟨0, okb, l', e', by omega, rfl, rfl, hok, hst1, R, BB, XX⟩
                    case round =>
                      obtain ⟨jj, okb, l', e', hjj, rfl, rfl, hok, hst, R, BB, XX⟩ := hrel
                      clear hst1
                      by_cases hlt : jj < i
                      · obtain ⟨v, hv⟩ : ∃ v, Hid (ss[jj]? = some v) := ⟨ss[jj]'(by rw [hsl.out]; exact hlt), List.getElem?_eq_getElem _⟩
                        obtain ⟨bz, off, rfl, hcell⟩ := hs.cell (by omega)
                        have hc := hcell jj v hv.out
                        have hblk := World.block_lt_of_cell? w _ hc
                        have hcr : wr.drew.cell? ⟨bz, off + jj, none⟩ = some (.string v) := by rw [BB.drew.cell hblk]; exact hc
                        have hi2 : Hid (St 2 (encS (ss.drop (jj + 1))) (dT l' e') (eT l' e') ∧ (2 ≠ 2 → (⟨(vT l' e').toArray⟩ : ByteArray) = v)) := by
                          have h := hst.out
                          rw [encS_drop ss jj v hv.out] at h
                          exact st_txt 2 v (hs200.out v (List.mem_of_getElem? hv.out)) _ _ _ h
                        have RD := R.below (Below.refl _ wr).drew
                        have j0 : (0 : Int) ≤ (jj : Int) := by omega
                        have j1 : (jj : Int) < (i : Int) := by omega
                        clear hcell
                        obtain ⟨tb, htb⟩ : ∃ tb : ByteArray, Hid (tb = ⟨(vT l' e').toArray⟩) := ⟨_, rfl⟩
                        have HC : Hid (∀ wx, Rd wx g D l' e' → Calls Try.prog 25 #[.pointer (some ⟨g, 0, none⟩)] wx fun en w' => en = .returned (.string tb) ∧ Rd w' g D (dT l' e') (eT l' e') ∧ wx.grownBy w' (some g)) := fun wx hR => by
                          rw [htb.out]; exact rText_any g D l' e' wx hR
                        obtain ⟨x, hx, hxk⟩ : ∃ x : Bool, (tb.toList == v.toList) = x ∧ Hid (2 ≠ 2 → x = true) := ⟨_, rfl, fun hk => by rw [htb.out, hi2.out.2 hk]; exact beq_self_eq_true _⟩
                        cases x
                        · go_wp2_with fail
                          first | go_region_with (go_at_call 25; (with_reducible refine (HC.out _ (by exact RD)).mono ?_); rintro en w6 ⟨rfl, R6, k6⟩; have B6' := below_gr BB.drew k6 GG; have X6 := (IsB.drew XX).grown k6 hneF; have hc6 : w6.cell? ⟨bz, off + jj, none⟩ = some (.string v) := (by rw [B6'.cell hblk]; exact hc)) | fail
                          all_goals
                            go_wp2_with fail
                            go_roundw
                            case rel => exact ⟨jj + 1, false, _, _, by omega, by go_num, rfl, fun hk => hxk.out hk, hi2.out.1, R6, B6', X6⟩
                            case measure => simp [intOf]; omega
                        · go_wp2_with fail
                          go_region_held3 (fun w' => w'.cell? ⟨bz, off + jj, none⟩ = some (.string v)) (first | exact hcr | exact hc6) (first
                            | (go_at_call 25; (with_reducible refine (HC.out _ (by exact RD)).mono ?_); rintro en w6 ⟨rfl, R6, k6⟩; have B6' := below_gr BB.drew k6 GG; have X6 := (IsB.drew XX).grown k6 hneF; have hc6 : w6.cell? ⟨bz, off + jj, none⟩ = some (.string v) := (by rw [B6'.cell hblk]; exact hc)))
                          go_wp2_with fail
                          go_roundw
                          case rel => exact ⟨jj + 1, okb, _, _, by omega, by go_num, rfl, hok, hi2.out.1, R6, B6', X6⟩
                          case measure => simp [intOf]; omega
                      · have hE : Hid (endE l' e' = 8) := by
                          have h := hst.out
                          rw [List.drop_eq_nil_of_le (by rw [hsl.out]; omega), encS] at h
                          have := st_end 2 l' e' h
                          unfold Hid
                          simpa using this
                        go_wp2_with (go_at_call 29; (with_reducible refine (rEnd_any g D l' e' wr R).mono ?_); rintro en w' ⟨rfl, rfl⟩; rw [hE.out])
                        go_roundw
                        case rel => exact ⟨3, by omega, rfl, BB, XX⟩
                        case measure => simp [intOf]
end Go.Proofs.Ythkfoebannpmdaa
