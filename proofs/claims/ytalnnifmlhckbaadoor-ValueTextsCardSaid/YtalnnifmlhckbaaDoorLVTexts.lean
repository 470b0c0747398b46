/-
  ValueTexts, walked.
-/
import Derived.Test.YtalnnifmlhckbaaDoorText
import Derived.Test.YtalnnifmlhckbaaDoorKnow4
import Derived.Deep.QuietTactic
import Derived.BigQuiet
import Derived.OpenShut
namespace Go.Proofs.YtalnnifmlhckbaaDoor
open Go.RowKit
set_option linter.unusedSimpArgs false
theorem esc_app (a b : List UInt8) : esc (a ++ b) = esc a ++ esc b := by simp [esc]
theorem esc_one (x : UInt8) : esc [x] = if x = 39 then [39, 39] else [x] := by simp [esc]
/-- Where a sign stands in what is written. -/
theorem esc_at (l : List UInt8) (i : Nat) (x : UInt8) (h : l[i]? = some x) :
    (39 :: (esc l ++ [39]))[1 + (esc (l.take i)).length]? = some x ∧ (x = 39 → (39 :: (esc l ++ [39]))[1 + (esc (l.take i)).length + 1]? = some 39) ∧
      (esc (l.take (i + 1))).length = (esc (l.take i)).length + (if x = 39 then 2 else 1) ∧ (esc (l.take (i + 1))).length ≤ (esc l).length := by
  obtain ⟨hi, rfl⟩ := List.getElem?_eq_some_iff.1 h
  have e : l = l.take i ++ ([l[i]] ++ l.drop (i + 1)) := by
    rw [← List.append_assoc, ← List.take_succ_eq_append_getElem hi, List.take_append_drop]
  have e1 : esc l = esc (l.take i) ++ (esc [l[i]] ++ esc (l.drop (i + 1))) := by
    conv => lhs; rw [e]
    rw [esc_app, esc_app]
  have e2 : esc (l.take (i + 1)) = esc (l.take i) ++ esc [l[i]] := by rw [List.take_succ_eq_append_getElem hi, esc_app]
  generalize l[i] = y at *
  have e3 : ∀ j, (39 :: (esc l ++ [39]))[1 + (esc (l.take i)).length + j]? = (esc [y] ++ esc (l.drop (i + 1)) ++ [39])[j]? := fun j => by
    rw [show 1 + (esc (l.take i)).length + j = (esc (l.take i)).length + j + 1 by omega, List.getElem?_cons_succ, e1, List.append_assoc, List.getElem?_append_right (by omega), Nat.add_sub_cancel_left, List.append_assoc]
  have l1 : (esc [y]).length = if y = 39 then 2 else 1 := by rw [esc_one]; split <;> rfl
  refine ⟨?_, fun hy => ?_, by rw [e2, List.length_append, l1], by rw [e1, e2, List.length_append, List.length_append, List.length_append]; omega⟩
  · have := e3 0
    rw [Nat.add_zero] at this
    rw [this, esc_one]
    split
    · rename_i hy
      rw [hy]
      rfl
    · rfl
  · rw [e3 1, esc_one, if_pos hy]
    rfl
theorem str_at (T : ByteArray) (i : Nat) (x : UInt8) (h : T.toList[i]? = some x) (t : TypeId) (w : World) (ht : Tryd.prog.underlying t = some .string) : (Instr.index t (.string T) (.int .i64 (i : Int))).run Tryd.prog w = .ok (.int .u8 (x.toNat : Int)) w := by
  have hi : i < T.size := by
    rw [← toList_len]
    exact (List.getElem?_eq_some_iff.1 h).1
  obtain ⟨y, hy, hr⟩ := str_get T i hi
  obtain rfl : x = y := Option.some.inj (h.symm.trans hy)
  exact hr t w ht
theorem toList_mk (l : List UInt8) : (⟨l.toArray⟩ : ByteArray).toList = l := by rw [ByteArray.toList_eq]
set_option maxRecDepth 100000 in
set_option maxHeartbeats 2000000 in
theorem valueTexts_walk (s : ByteArray) (n : Int) (w : World) (tb : TB w) (_ : s.size ≤ maxLen) (wn : (Lit.int .i64 n).wf = true) :
    Calls Tryd.prog 5 #[.string s, .int .i64 n] w (Told w true) := by
  have hn : -9223372036854775808 ≤ n ∧ n ≤ 9223372036854775807 := by have := bounds_i64 wn; omega
  rename_i q
  clear q wn
  have us := Tryd.underlying9
  by_cases hs : 60 < s.size
  · have hs' : (60 : Int) < s.size := by omega
    go_enter Tryd.func5, Tryd.ntmps5
    go_wp2_with (go_at_call 13; (with_reducible refine (known4 _).mono ?_); rintro e w1 ⟨rfl, b1⟩)
    go_ret
    exact ⟨rfl, b1⟩
  · have hs' : ¬ (60 : Int) < s.size := by omega
    have HT := fun w h => text_any4 3 0 s w h (.text s (by omega)) (by omega)
    have hT2 : (⟨(txtV 3 0 s).toArray⟩ : ByteArray).toList = 39 :: (esc s.toList ++ [39]) := toList_mk _
    have HL := toList_len s
    have L2 := esc_len s.toList
    rw [HL] at L2
    generalize (⟨(txtV 3 0 s).toArray⟩ : ByteArray) = T at HT hT2
    have hsz : T.size = (esc s.toList).length + 2 := by rw [← toList_len, hT2]; simp
    have i0 : ∀ w, (Instr.index 9 (.string T) (.int .i64 0)).run Tryd.prog w = .ok (.int .u8 39) w := fun w => str_at T 0 39 (by rw [hT2]; rfl) 9 w us
    have i1 : ∀ w, (Instr.index 9 (.string T) (.int .i64 (((esc s.toList).length : Int) + 2 - 1))).run Tryd.prog w = .ok (.int .u8 39) w := fun w => by
      have := str_at T ((esc s.toList).length + 1) 39 (by rw [hT2]; simp) 9 w us
      rw [show (((esc s.toList).length + 1 : Nat) : Int) = ((esc s.toList).length : Int) + 2 - 1 by omega] at this
      exact this
    have HI : Hid (∀ (i : Nat) (x : UInt8), s.toList[i]? = some x → T.toList[1 + (esc (s.toList.take i)).length]? = some x ∧ (x = 39 → T.toList[1 + (esc (s.toList.take i)).length + 1]? = some 39) ∧ (esc (s.toList.take (i + 1))).length = (esc (s.toList.take i)).length + (if x = 39 then 2 else 1) ∧ (esc (s.toList.take (i + 1))).length ≤ (esc s.toList).length) := fun i x h => by
      rw [hT2]
      exact esc_at s.toList i x h
    have HE : Hid ((esc (s.toList.take s.size)).length = (esc s.toList).length) := by unfold Hid; rw [List.take_of_length_le (by omega)]
    clear hT2 HL
    generalize (esc s.toList).length = E at hsz i0 i1 HI HE L2
    have e2 : ¬ ((E : Int) + 2 < 2) := by omega
    go_enter Tryd.func5, Tryd.ntmps5
    go_wp2_with (first
      | (go_at_call 13; (with_reducible refine (known4 _).mono ?_); rintro e w1 ⟨rfl, b1⟩)
      | (go_at_call 20; (with_reducible refine (HT _ (tb.past b1)).mono ?_); rintro e w2 ⟨rfl, b2⟩; have B2 := b1.trans (b2.mono b1.size)))
    clear i0 i1
    go_loopw [6, 7] (fun k i wr => ∃ j : Nat, j ≤ s.size ∧ i = .int .i64 (j : Nat) ∧ k = .int .i64 ((1 + (esc (s.toList.take j)).length : Nat) : Int) ∧ Below w.heap.size w wr ∧ Hid ((esc (s.toList.take j)).length ≤ E)) (fun _ i _ => s.size - (intOf i).toNat)
    case atStart => exact ⟨0, by omega, rfl, rfl, B2, Nat.zero_le _⟩
    case round =>
      obtain ⟨j, hj, rfl, rfl, hB, hE⟩ := hrel
      have hE' := hE.out
      by_cases hlt : j < s.size
      · obtain ⟨x, hx, ix⟩ := str_get s j hlt
        have ixw := fun w => ix 9 w us
        obtain ⟨h1, h2, h3, h4⟩ := HI.out j x hx
        have H3 := Lib.hid h3
        have hk0 := fun w => str_at T _ x h1 9 w us
        clear h1 h3 ix hx
        generalize (esc (s.toList.take j)).length = P at hE' hk0 h2 H3
        obtain ⟨K, hK⟩ : ∃ K, K = 1 + P := ⟨_, rfl⟩
        rw [← hK] at hk0 h2 ⊢
        by_cases hx39 : x = 39
        · have hk1 : ∀ w, (Instr.index 9 (.string T) (.int .i64 ((K : Int) + 1))).run Tryd.prog w = .ok (.int .u8 39) w := fun w => str_at T (K + 1) 39 (h2 hx39) 9 w us
          have H4 : (esc (s.toList.take (j + 1))).length = K + 1 := by rw [H3.out, if_pos hx39, hK]; omega
          rw [H4] at h4
          have HH := Lib.hid H4
          clear H3 H4 h2 hK
          subst hx39
          have d1 : decide ((E : Int) + 2 - 1 ≤ (K : Int)) = false := by simp; omega
          have d2 : decide ((E : Int) + 2 - 1 ≤ (K : Int) + 1) = false := by simp; omega
          have hKb : (K : Int) ≤ 1000 := by omega
          go_wp2_with fail
          go_quiet (fail)
          go_wp2_with fail
          go_roundw
          case rel => exact ⟨j + 1, by omega, by go_num, congrArg (Value.int .i64) (by rw [HH.out]; omega), below_drewN hB _, by unfold Hid; rw [HH.out]; exact h4⟩
          case measure => simp [intOf]; omega
        · have H4 : (esc (s.toList.take (j + 1))).length = K := by rw [H3.out, if_neg hx39, hK]; omega
          rw [H4] at h4
          have HH := Lib.hid H4
          clear H3 H4 h2 hK
          have hx3 : ¬ x.toNat = 39 := fun e => hx39 (UInt8.toNat_inj.1 e)
          have hx2 : ((x.toNat : Int) == 39) = false := beq_eq_false_iff_ne.2 (by omega)
          have d1 : decide ((E : Int) + 2 - 1 ≤ (K : Int)) = false := by simp; omega
          have hKb : (K : Int) ≤ 1000 := by omega
          go_wp2_with fail
          go_quiet (fail)
          go_wp2_with fail
          go_roundw
          case rel => exact ⟨j + 1, by omega, by go_num, congrArg (Value.int .i64) (by rw [HH.out]; omega), below_drewN hB _, by unfold Hid; rw [HH.out]; exact h4⟩
          case measure => simp [intOf]; omega
      · obtain rfl : j = s.size := by omega
        rw [HE.out]
        have HD := fun w => rdigits_any n w hn
        have HX := fun w h => text_any4 2 n ByteArray.empty w h (.int n) hn
        have HN := fun w h => text_any4 0 0 ByteArray.empty w h .none (by omega)
        have eN : (⟨(txtV 0 0 ByteArray.empty).toArray⟩ : ByteArray) = ⟨#[110, 117, 108, 108]⟩ := rfl
        have eD : (⟨(txtV 2 n ByteArray.empty).toArray⟩ : ByteArray) = ⟨(Lib.itoa n).toArray⟩ := rfl
        rw [eN] at HN
        rw [eD] at HX
        generalize (⟨(Lib.itoa n).toArray⟩ : ByteArray) = X at HX HD
        replace HX : ∀ w, TB w → Calls Tryd.prog 20 #[vv 2 n ⟨#[]⟩] w fun e w' => e = .returned (.string X) ∧ Below w.heap.size w w' := HX
        replace HN : ∀ w, TB w → Calls Tryd.prog 20 #[vv 0 0 ⟨#[]⟩] w fun e w' => e = .returned (.string ⟨#[110, 117, 108, 108]⟩) ∧ Below w.heap.size w w' := HN
        clear HI HE HT hE hE' eN eD
        have tb' := tb.past hB
        go_wp2_with (first
          | (go_at_call 20; (with_reducible refine (HX _ tb').mono ?_); rintro e w3 ⟨rfl, b3⟩; have B3 := hB.trans (b3.mono hB.size))
          | (go_at_call 22; (with_reducible refine (HD _).mono ?_); rintro e w4 ⟨rfl, b4⟩; have B4 := B3.trans (b4.mono B3.size))
          | (go_at_call 20; (with_reducible refine (HN _ (tb.past B4)).mono ?_); rintro e w5 ⟨rfl, b5⟩; have B5 := B4.trans (b5.mono B4.size)))
        go_ret
        exact ⟨rfl, B5⟩
end Go.Proofs.YtalnnifmlhckbaaDoor
