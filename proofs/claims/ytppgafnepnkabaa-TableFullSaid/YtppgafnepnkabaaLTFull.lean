/-
  TableFull, walked.
-/
import Derived.Test.YtppgafnepnkabaaLaw10
namespace Go.Proofs.Ytppgafnepnkabaa
open Go.RowKit
set_option linter.unusedSimpArgs false
/-- The key put in round i. -/
def fullY (b i : Nat) : Nat := i * 37 * b % 1009
def fullV (b i : Nat) : V := ⟨2, (fullY b i : Nat), ⟨#[]⟩⟩
theorem full_nodup : ∀ b ∈ [1, 2, 3, 4, 5, 6, 7], ((List.range 205).map (fullY b)).Nodup := by decide +kernel
theorem full_inj {b i j : Nat} (hb : 1 ≤ b ∧ b ≤ 7) (hi : i < 205) (hj : j < 205) (h : fullY b i = fullY b j) : i = j := by
  have hm : b ∈ [1, 2, 3, 4, 5, 6, 7] := by
    simp only [List.mem_cons, List.not_mem_nil, or_false]
    omega
  have hn := full_nodup b hm
  rw [List.Nodup, List.pairwise_iff_getElem] at hn
  rcases Nat.lt_trichotomy i j with h1 | h1 | h1
  · have := hn i j (by simpa using hi) (by simpa using hj) h1
    simp only [List.getElem_map, List.getElem_range] at this
    exact absurd h this
  · exact h1
  · have := hn j i (by simpa using hj) (by simpa using hi) h1
    simp only [List.getElem_map, List.getElem_range] at this
    exact absurd h.symm this
/-- What stands before round j. -/
structure FullR (b j : Nat) (rs : List (List V)) : Prop where
  srt : Srt 0 rs
  len : rs.length = min j 200
  mem : ∀ x ∈ rs, ∃ i, i < j ∧ x = [fullV b i]
theorem FullR.start (b : Nat) : FullR b 0 [] := ⟨Srt.nil 0, rfl, fun x hx => by cases hx⟩
theorem kOf_one (v : V) : kOf 0 [v] = v := rfl
theorem mem_put {key : Nat} {r x : List V} {rs : List (List V)} (h : x ∈ putN key r rs) : x = r ∨ x ∈ rs := by
  unfold putN at h
  rcases List.mem_append.1 h with h | h
  · exact .inr (List.mem_of_mem_take h)
  · rcases List.mem_cons.1 h with h | h
    · exact .inl h
    · exact .inr (List.mem_of_mem_drop h)
theorem FullR.no {b j : Nat} {rs : List (List V)} (h : FullR b j rs) (hb : 1 ≤ b ∧ b ≤ 7) (hj : j < 205) : hasN 0 (fullV b j) rs = false := by
  cases q : hasN 0 (fullV b j) rs with
  | false => rfl
  | true =>
    obtain ⟨x, hx, hk⟩ := (has_iff h.srt).1 q
    obtain ⟨i, hi, rfl⟩ := h.mem x hx
    rw [kOf_one] at hk
    have := congrArg V.n hk
    simp only [fullV, Int.natCast_inj] at this
    have := full_inj hb (by omega) hj this
    omega
theorem FullR.e {b j : Nat} {rs : List (List V)} (h : FullR b j rs) (hb : 1 ≤ b ∧ b ≤ 7) (hj : j < 205) : putE oneC 0 [fullV b j] rs = if j < 200 then 0 else 4 := by
  unfold putE
  have e0 : fitsE oneC [fullV b j] = 0 := fits_one _
  rw [if_pos e0, kOf_one, h.no hb hj, h.len]
  by_cases h2 : j < 200
  · rw [if_pos h2, if_neg (by simp), if_neg (by omega)]
  · rw [if_neg h2, if_neg (by simp), if_pos (by omega)]
theorem FullR.next {b j : Nat} {rs : List (List V)} (h : FullR b j rs) (hb : 1 ≤ b ∧ b ≤ 7) (hj : j < 205) : FullR b (j + 1) (putR oneC 0 [fullV b j] rs) := by
  unfold putR
  rw [h.e hb hj]
  by_cases h2 : j < 200
  · rw [if_pos h2, if_pos rfl]
    refine ⟨h.srt.put _ (by rw [kOf_one]; exact h.no hb hj), by rw [put_len, h.len]; omega, fun x hx => ?_⟩
    rcases mem_put hx with rfl | hx
    · exact ⟨j, by omega, rfl⟩
    · obtain ⟨i, hi, e⟩ := h.mem x hx
      exact ⟨i, by omega, e⟩
  · rw [if_neg h2, if_neg (by decide)]
    refine ⟨h.srt, by rw [h.len]; omega, fun x hx => ?_⟩
    obtain ⟨i, hi, e⟩ := h.mem x hx
    exact ⟨i, by omega, e⟩
theorem FullR.short {b j : Nat} {rs : List (List V)} (h : FullR b j rs) : ∀ x ∈ rs, x.length ≤ 100 := fun x hx => by
  obtain ⟨i, _, rfl⟩ := h.mem x hx
  exact Nat.le_of_ble_eq_true rfl
set_option maxRecDepth 100000 in
set_option maxHeartbeats 4000000 in
theorem tableFull_walk (n b : Int) (w : World) (_ : (Lit.int .i64 n).wf = true) (_ : (Lit.int .i64 b).wf = true) :
    Calls Try.prog 7 #[.int .i64 n, .int .i64 b] w (Told w true) := by
  rename_i q1 q2
  clear q1 q2
  obtain ⟨nn, hnn, hnl⟩ := wth_of n 10 (by omega)
  obtain ⟨bb, hbb, hbl⟩ := wth_of b 7 (by omega)
  have HW1 := fun w => within10_any n 10 w (by omega) (by omega)
  have HW2 := fun w => within10_any b 7 w (by omega) (by omega)
  rw [hnn] at HW1
  rw [hbb] at HW2
  obtain ⟨N, hN⟩ : ∃ N, 195 + nn = N := ⟨_, rfl⟩
  obtain ⟨c, hc⟩ : ∃ c, bb + 1 = c := ⟨_, rfl⟩
  have hN1 : (195 : Int) + (nn : Int) = (N : Int) := by omega
  have hc1 : (bb : Int) + 1 = (c : Int) := by omega
  have hN2 : 195 ≤ N ∧ N ≤ 204 := by omega
  have hc2 : 1 ≤ c ∧ c ≤ 7 := by omega
  clear hnn hbb hN hc
  go_enter Try.func7, Try.ntmps7
  go_upto_region 3 with (go_at_call 18; refine (known10 _).mono ?_; rintro e w1 ⟨rfl, b1⟩)
  go_upto_region 4 with (first
    | (go_at_call 23; (with_reducible refine (HW1 _).mono ?_); rintro e w' ⟨rfl, rfl⟩)
    | (go_at_call 23; (with_reducible refine (HW2 _).mono ?_); rintro e w' ⟨rfl, rfl⟩))
  have h1 := oneC_lit w1
  have B1 : Below w.heap.size w ((w1.alloc (.cells #[.string ⟨#[97]⟩, .int .i64 2, .bool false] 83)).alloc (.cells #[.string ⟨#[120]⟩, .slice (some ⟨w1.heap.size, 0, none⟩) 1 1, .int .i64 0, .bool false, .slice none 0 0] 47)) := (b1.alloc b1.size _).alloc (by have := b1.size; simp; omega) _
  have hT : Bk ((w1.alloc (.cells #[.string ⟨#[97]⟩, .int .i64 2, .bool false] 83)).alloc (.cells #[.string ⟨#[120]⟩, .slice (some ⟨w1.heap.size, 0, none⟩) 1 1, .int .i64 0, .bool false, .slice none 0 0] 47)) (w1.heap.size + 1) (tbC [120] (some ⟨w1.heap.size, 0, none⟩) 1 1 (0 : Nat) false none 0 0) 47 := by
    have := Bk.new (w1.alloc (.cells #[.string ⟨#[97]⟩, .int .i64 2, .bool false] 83)) #[.string ⟨#[120]⟩, .slice (some ⟨w1.heap.size, 0, none⟩) 1 1, .int .i64 0, .bool false, .slice none 0 0] 47
    rwa [World.size_alloc] at this
  have h2 := h1.alloc (.cells #[.string ⟨#[120]⟩, .slice (some ⟨w1.heap.size, 0, none⟩) 1 1, .int .i64 0, .bool false, .slice none 0 0] 47)
  go_upto_region 5 with fail
  generalize (w1.alloc (.cells #[.string ⟨#[97]⟩, .int .i64 2, .bool false] 83)).alloc (.cells #[.string ⟨#[120]⟩, .slice (some ⟨w1.heap.size, 0, none⟩) 1 1, .int .i64 0, .bool false, .slice none 0 0] 47) = W at B1 hT h2 ⊢
  have hw1 := b1.size
  obtain ⟨q, hq⟩ : ∃ q, w1.heap.size = q := ⟨_, rfl⟩
  obtain ⟨p, hp⟩ : ∃ p, q + 1 = p := ⟨_, rfl⟩
  simp only [hq, hp] at hT h2 hw1 ⊢
  have hwp : w.heap.size ≤ p := by omega
  have iT := oneT W _ _ h2
  clear hq hp h1 HW1 HW2 b1 h2
  go_wp2_with fail
  go_loopw [6] (fun i wr => ∃ (j : Nat) (co : Option Addr) (cc : Nat) (ro : Option Addr) (rn rc : Nat) (rs : List (List V)), j ≤ N ∧ i = .int .i64 (j : Nat) ∧ Bk wr p (tbC [120] co 1 cc (0 : Nat) false ro rn rc) 47 ∧ IsT wr 0 co 1 cc oneC ro rn rc rs ∧ FullR c j rs ∧ Below w.heap.size w wr) (fun i _ => N - (intOf i).toNat)
  case atStart => exact ⟨0, _, _, _, _, _, [], Nat.zero_le _, rfl, hT, iT, FullR.start c, B1⟩
  case round =>
    clear hT iT B1
    obtain ⟨j, co, cc, ro, rn, rc, rs, hj, rfl, hT, iT, hF, B⟩ := hrel
    have hln := hF.len
    have hrn := iT.rows.len
    obtain ⟨t0, t1, t2, t3, t4⟩ := tb_cells hT
    by_cases hlt : j < N
    · have hlti : (j : Int) < (N : Int) := by omega
      obtain ⟨Y, hY⟩ : ∃ Y, fullY c j = Y := ⟨_, rfl⟩
      obtain ⟨X, hX⟩ : ∃ X, j * 37 * c = X := ⟨_, rfl⟩
      have hX1 : (j : Int) * 37 * (c : Int) = (X : Int) := by rw [← hX]; simp
      have hX2 : X ≤ 60000 := by
        rw [← hX]
        calc j * 37 * c ≤ 204 * 37 * 7 := Nat.mul_le_mul (Nat.mul_le_mul (by omega) (Nat.le_refl _)) hc2.2
          _ ≤ 60000 := by decide
      have hXY : (X : Int).tmod 1009 = (Y : Int) := by
        rw [← hY, fullY, hX, Int.tmod_eq_emod_of_nonneg (by omega)]
        omega
      have hv : fullV c j = ⟨2, (Y : Int), ⟨#[]⟩⟩ := by unfold fullV; rw [hY]
      have hBL : Below w.heap.size w (wr.alloc (.cells #[.int .i64 2, .int .i64 (Y : Int), .string ⟨#[]⟩] 55)) := B.alloc B.size _
      have hT2 := hT.alloc (.cells #[.int .i64 2, .int .i64 (Y : Int), .string ⟨#[]⟩] 55)
      have iT2 := iT.past ((Below.refl wr.heap.size wr).alloc (Nat.le_refl _) (.cells #[.int .i64 2, .int .i64 (Y : Int), .string ⟨#[]⟩] 55))
      have HPt := put_any (wr.alloc (.cells #[.int .i64 2, .int .i64 (Y : Int), .string ⟨#[]⟩] 55)) [120] co 1 cc 0 false ro rn rc oneC (by decide) (by decide) 0 rs iT2 _ 1 1 _ (oneV_lit wr 2 (Y : Int) ⟨#[]⟩) hF.srt (by omega) hF.short (by decide)
      rw [← hv, hF.e hc2 (by omega)] at HPt
      have hnx := Lib.hid (hF.next hc2 (by omega))
      obtain ⟨rs2, hrs2⟩ : ∃ rs2, putR oneC 0 [fullV c j] rs = rs2 := ⟨_, rfl⟩
      rw [hrs2] at HPt hnx
      unfold tbV at HPt
      have HPh := Lib.hid HPt
      clear HPt hrs2 hv hY hX
      go_upto_region 9 with (go_at_call 24; refine HPh.out.mono ?_; rintro e w2 ⟨co2, cc2, ro2, rn2, rc2, rfl, i2, b2⟩; unfold tbV)
      have hrn2 := i2.rows.len
      have hbW := b2.size
      rw [World.size_alloc] at hbW
      have BW2 := hBL.trans (b2.mono hBL.size)
      have hTw := (hT2.past b2)
      have BW3 := BW2.alloc BW2.size (.cells #[.string (bsOf [120]), .slice co2 1 cc2, .int .i64 0, .bool false, .slice ro2 rn2 rc2] 47)
      have hT3 := hTw.alloc (.cells #[.string (bsOf [120]), .slice co2 1 cc2, .int .i64 0, .bool false, .slice ro2 rn2 rc2] 47)
      have hpr : p < wr.heap.size := hT.lt
      have i3 := i2.past ((Below.refl w2.heap.size w2).alloc (Nat.le_refl _) (.cells #[.string (bsOf [120]), .slice co2 1 cc2, .int .i64 0, .bool false, .slice ro2 rn2 rc2] 47))
      have hU : Bk (w2.alloc (.cells #[.string (bsOf [120]), .slice co2 1 cc2, .int .i64 0, .bool false, .slice ro2 rn2 rc2] 47)) w2.heap.size (tbC [120] co2 1 cc2 (0 : Nat) false ro2 rn2 rc2) 47 := Bk.new w2 _ _
      generalize w2.alloc (.cells #[.string (bsOf [120]), .slice co2 1 cc2, .int .i64 0, .bool false, .slice ro2 rn2 rc2] 47) = W3 at BW3 hT3 i3 hU ⊢
      obtain ⟨gu, hgu⟩ : ∃ gu, w2.heap.size = gu := ⟨_, rfl⟩
      rw [hgu] at hU hbW
      simp only [hgu]
      clear hgu i2 hT2 iT2 hT iT t0 t1 t2 t3 t4 BW2 hTw b2 hBL
      obtain ⟨y0, y1, y2, y3, y4⟩ := tb_cells hU
      have hT3h : Hid (W3.heap[p]? = some (.cells (tbC [120] co 1 cc (0 : Nat) false ro rn rc) 47 (0, 0))) := hT3
      have fin : ∀ W4, Hid (W4.heap[p]? = some (.cells (tbC [120] co2 1 cc2 (0 : Nat) false ro2 rn2 rc2) 47 (0, 0))) → W3.grownBy W4 (some p) → Bk W4 p (tbC [120] co2 1 cc2 (0 : Nat) false ro2 rn2 rc2) 47 ∧ IsT W4 0 co2 1 cc2 oneC ro2 rn2 rc2 rs2 ∧ Below w.heap.size w W4 := fun W4 h4 g4 =>
        ⟨h4.out, ((i3.grown g4 (by rw [World.size_alloc]; omega)).mono (Nat.zero_le _)), BW3.grown g4 BW3.size (fun z hz => by cases hz; exact hwp)⟩
      have FIN := Lib.hid fin
      clear fin
      by_cases h200 : j < 200
      · have h2i : (j : Int) < 200 := by omega
        simp only [if_pos h200]
        go_wp2_with ((with_reducible refine wpList_store_blk (o := ⟨none, _, _, _, _, _⟩) rfl 47 (.tmp 5) (.tmp 38) rfl p _ (tbC [120] co2 1 cc2 (0 : Nat) false ro2 rn2 rc2) ?_ ?_ _ hT3h 5 szTb (tbC_size ..) (tbC_size ..) (tbC_all ..) ?_); (rfl); (rfl); (intro W4 h4 g4))
        obtain ⟨f1, f2, f3⟩ := FIN.out W4 h4 g4
        go_roundw
        case rel => exact ⟨j + 1, co2, cc2, ro2, rn2, rc2, rs2, by omega, by go_num, f1, f2, hnx.out, f3⟩
        case measure => simp [intOf]; omega
      · have h2i : ¬ ((j : Int) < 200) := by omega
        simp only [if_neg h200]
        go_wp2_with ((with_reducible refine wpList_store_blk (o := ⟨none, _, _, _, _, _⟩) rfl 47 (.tmp 5) (.tmp 38) rfl p _ (tbC [120] co2 1 cc2 (0 : Nat) false ro2 rn2 rc2) ?_ ?_ _ hT3h 5 szTb (tbC_size ..) (tbC_size ..) (tbC_all ..) ?_); (rfl); (rfl); (intro W4 h4 g4))
        obtain ⟨f1, f2, f3⟩ := FIN.out W4 h4 g4
        go_roundw
        case rel => exact ⟨j + 1, co2, cc2, ro2, rn2, rc2, rs2, by omega, by go_num, f1, f2, hnx.out, f3⟩
        case measure => simp [intOf]; omega
    · have hlti : ¬ ((j : Int) < (N : Int)) := by omega
      obtain rfl : j = N := by omega
      have hrn2 : rn = min j 200 := by omega
      by_cases h200 : j ≤ 200
      · have h2i : (j : Int) ≤ 200 := by omega
        have h2j : ¬ ((200 : Int) < (j : Int)) := by omega
        obtain rfl : rn = j := by omega
        clear hrn2 hln hrn hF iT
        go_wp2_with fail
        go_ret
        exact ⟨by simp <;> omega, B⟩
      · have h2i : ¬ ((j : Int) ≤ 200) := by omega
        have h2j : (200 : Int) < (j : Int) := by omega
        obtain rfl : rn = 200 := by omega
        clear hrn2 hln hrn hF iT
        go_wp2_with fail
        go_ret
        exact ⟨by simp <;> omega, B⟩
end Go.Proofs.Ytppgafnepnkabaa
