/-
  Whether a name is free.
-/
import Derived.Test.YtpfhggalbdjjmaaDoorSWords
import Derived.Defers
import Derived.Laws.Pointers
import Derived.Laws.LoneSync
import Derived.RegionTactic
namespace Go.Proofs.YtpfhggalbdjjmaaDoor
open Go.RowKit Go.ChangeMaps Go.ChangeShapes Go.WideShapes Go.WideMaps Go.MapKept

set_option maxRecDepth 100000 in
set_option maxHeartbeats 1600000 in
theorem nslow_any (w : World) (g : Nat) (hN : NmB w g 0 0 none) (hW : WL w) (hg : 0 ≠ g) :
    Calls Tryd.prog 68 #[.pointer (some ⟨g, 0, none⟩), .func (.func 54) #[.pointer (some ⟨g, 0, none⟩)] #[]] w (WordsIs w g 1 0) := by
  have hN1 : NmB (w.setCell ⟨g, 1, none⟩ (.int .i32 1)) g 0 1 none := (heap_setCell_same (i := 1) hN).trans rfl
  have hW1 : WL (w.setCell ⟨g, 1, none⟩ (.int .i32 1)) := hW.kept (row := some g) (grown_setCell (World.grownBy.refl _ _)) (by simpa using hg)
  have HT := takeWords_any _ g 0 1 hN1 hW1 hg
  have c0 := hN.c0
  have c1 := hN.c1
  have f1 := hN.free 1
  have k0 := hN1.c0
  have hnot : ∀ (x : Bool) (w : World), (Op.unary .not (.bool x)).run Tryd.prog w = .ok (.bool (!x)) w := fun _ _ => rfl
  go_enter_defers Tryd.func68, Tryd.ntmps68
  go_wp2_with (first | (go_at_call 74; refine (lock_free ⟨g, 1, none⟩ _ (by go_simp) (by go_simp)).mono ?_; rintro e w' ⟨rfl, rfl⟩) | (go_at_call 67; refine (load_any ⟨g, 0, none⟩ 0 false rfl _ k0).mono ?_; rintro e w' ⟨rfl, rfl⟩) | (go_at_call 54; refine HT.mono ?_; rintro e w2 ⟨b, rfl, N2, S2, hb2, G2⟩))
  go_wp2
  refine leaves_cons (f := 76) (args := #[.pointer (some ⟨g, 0, none⟩), .bool true]) (by simp) (by simp [go_sem]) ?_
  refine (store_deferred ⟨g, 0, none⟩ (.int .u32 0) .returning _ N2.c0 (N2.free 0)).mono ?_
  rintro e u' w'' ⟨rfl, rfl, rfl⟩
  have N3 : NmB w2.drew g 0 1 (some b) := N2.kept (grown_drew (World.grownBy.refl _ none)) (by simp)
  have N4 : NmB (w2.drew.setCell ⟨g, 0, none⟩ (.int .u32 1)) g 1 1 (some b) := (heap_setCell_same (i := 0) N3).trans rfl
  refine leaves_cons (f := 75) (args := #[.pointer (some ⟨g, 1, none⟩)]) (by simp [settle]) (by simp [go_sem]) ?_
  refine (unlock_deferred ⟨g, 1, none⟩ _ _ N4.c1 (N4.free 1)).mono ?_
  rintro e u' w'' ⟨rfl, rfl, rfl⟩
  have N5 : NmB ((w2.drew.setCell ⟨g, 0, none⟩ (.int .u32 1)).setCell ⟨g, 1, none⟩ (.int .i32 0)) g 1 0 (some b) := (heap_setCell_same (i := 1) N4).trans rfl
  have G5 : w.grownBy ((w2.drew.setCell ⟨g, 0, none⟩ (.int .u32 1)).setCell ⟨g, 1, none⟩ (.int .i32 0)) (some g) := grown_setCell (grown_setCell (grown_drew (grown_trans (grown_setCell (World.grownBy.refl _ _)) G2)))
  have hgb : b ≠ g := fun e => by have := hN.lt; simp at hb2; omega
  have S5 : SetIs ((w2.drew.setCell ⟨g, 0, none⟩ (.int .u32 1)).setCell ⟨g, 1, none⟩ (.int .i32 0)) b 41 wordsB.reverse := S2.kept (row := some g) (grown_setCell (grown_setCell (grown_drew (World.grownBy.refl _ _)))) (by simpa using hgb)
  have hb : w.heap.size ≤ b := by simpa using hb2
  have HH : WordsIs w g 1 0 (.returned (.tuple #[])) ((w2.drew.setCell ⟨g, 0, none⟩ (.int .u32 1)).setCell ⟨g, 1, none⟩ (.int .i32 0)) := ⟨b, rfl, N5, S5, hb, G5⟩
  simpa [Leaves, settle, results, Tryd.results68] using HH
set_option maxRecDepth 100000 in
set_option maxHeartbeats 1600000 in
theorem ndo_first (w : World) (g : Nat) (hN : NmB w g 0 0 none) (hW : WL w) (hg : 0 ≠ g) :
    Calls Tryd.prog 53 #[.pointer (some ⟨g, 0, none⟩), .func (.func 54) #[.pointer (some ⟨g, 0, none⟩)] #[]] w (WordsIs w g 1 0) := by
  have hS := nslow_any w g hN hW hg
  have c0 := hN.c0
  have hnot : ∀ (x : Bool) (w : World), (Op.unary .not (.bool x)).run Tryd.prog w = .ok (.bool (!x)) w := fun _ _ => rfl
  go_enter Tryd.func53, Tryd.ntmps53
  go_wp2_with (first | (go_at_call 68; refine hS.mono ?_; rintro e w' ⟨b, rfl, N2, S2, hb2, G2⟩) | (go_at_call 67; refine (load_any ⟨g, 0, none⟩ 0 false rfl _ c0).mono ?_; rintro e w' ⟨rfl, rfl⟩))
  go_end0
  exact ⟨b, rfl, N2, S2, hb2, G2⟩
/-- Which signs a name is spelt of. -/
def isLow (u : UInt8) : Bool := 97 ≤ u.toNat && u.toNat ≤ 122
def isDig (u : UInt8) : Bool := 48 ≤ u.toNat && u.toNat ≤ 57
def spelt (l : List UInt8) : Bool := 1 ≤ l.length && l.length ≤ 12 && isLow (l.getD 0 0) && l.all fun u => isLow u || isDig u || u.toNat == 95
theorem letter_any (u : UInt8) (w : World) : Calls Tryd.prog 65 #[.int .u8 (u.toNat : Nat)] w fun e w' => e = .returned (.bool (isLow u)) ∧ w = w' := by
  unfold isLow
  generalize u.toNat = n
  by_cases h1 : 97 ≤ n
  · have h1i : (97 : Int) ≤ (n : Int) := by omega
    go_enter Tryd.func65, Tryd.ntmps65
    go_wp2_with fail
    go_ret
    exact ⟨by simp [h1]; omega, rfl⟩
  · have h1i : ¬ ((97 : Int) ≤ (n : Int)) := by omega
    go_enter Tryd.func65, Tryd.ntmps65
    go_wp2_with fail
    go_ret
    exact ⟨by simp, rfl⟩
theorem digit_any (u : UInt8) (w : World) : Calls Tryd.prog 66 #[.int .u8 (u.toNat : Nat)] w fun e w' => e = .returned (.bool (isDig u)) ∧ w = w' := by
  unfold isDig
  generalize u.toNat = n
  by_cases h1 : 48 ≤ n
  · have h1i : (48 : Int) ≤ (n : Int) := by omega
    go_enter Tryd.func66, Tryd.ntmps66
    go_wp2_with fail
    go_ret
    exact ⟨by simp [h1]; omega, rfl⟩
  · have h1i : ¬ ((48 : Int) ≤ (n : Int)) := by omega
    go_enter Tryd.func66, Tryd.ntmps66
    go_wp2_with fail
    go_ret
    exact ⟨by simp, rfl⟩
def sgn (u : UInt8) : Bool := isLow u || isDig u || u.toNat == 95
theorem spelt_eq (l : List UInt8) : spelt l = (decide (1 ≤ l.length) && decide (l.length ≤ 12) && isLow (l.getD 0 0) && l.all sgn) := rfl
theorem idx_str (l : List UInt8) (j : Nat) (hj : j < l.length) (w : World) : (Instr.index 9 (.string (bsOf l)) (.int .i64 (j : Nat))).run Tryd.prog w = .ok (.int .u8 ((l.getD j 0).toNat : Nat)) w := by
  have h1 : 0 ≤ (j : Int) := by omega
  have h2 : (j : Int) < ((bsOf l).size : Nat) := by rw [bsOf_size]; omega
  rw [run_index_string _ _ _ _ _ Tryd.underlying9, dif_pos ⟨h1, h2⟩]
  have hg : (bsOf l)[((j : Nat) : Int).toNat]'(by omega) = l.getD j 0 := by
    simp [bsOf, List.getD, hj, ByteArray.getElem_eq_getElem_data]
  rw [hg]
set_option maxRecDepth 100000 in
set_option maxHeartbeats 1000000 in
theorem isSpelt_any (l : List UInt8) (hl : l.length ≤ 1000000) (w : World) : Calls Tryd.prog 52 #[.string (bsOf l)] w fun e w' => e = .returned (.bool (spelt l)) ∧ w = w' := by
  have hsz := bsOf_size l
  have hsp := spelt_eq l
  have ix := idx_str l
  by_cases h0 : l.length < 1
  · have hs : spelt l = false := by rw [hsp]; simp; omega
    have h0i : ((bsOf l).size : Int) < 1 := by rw [hsz]; omega
    have HS := Lib.hid hs
    clear hs hsp ix hsz
    go_enter Tryd.func52, Tryd.ntmps52
    go_wp2_with fail
    go_ret
    exact ⟨by rw [HS.out]; rfl, rfl⟩
  have h0i : ¬ (((bsOf l).size : Int) < 1) := by rw [hsz]; omega
  by_cases h12 : 12 < l.length
  · have hs : spelt l = false := by rw [hsp]; simp; omega
    have h12i : (12 : Int) < ((bsOf l).size : Int) := by rw [hsz]; omega
    have HS := Lib.hid hs
    clear hs hsp ix hsz
    go_enter Tryd.func52, Tryd.ntmps52
    go_wp2_with fail
    go_ret
    exact ⟨by rw [HS.out]; rfl, rfl⟩
  have h12i : ¬ ((12 : Int) < ((bsOf l).size : Int)) := by rw [hsz]; omega
  have ix0 : ∀ w', (Instr.index 9 (.string (bsOf l)) (.int .i64 0)).run Tryd.prog w' = .ok (.int .u8 ((l.getD 0 0).toNat : Nat)) w' := fun w' => ix 0 (by omega) w'
  obtain ⟨b, hb⟩ : ∃ b, isLow (l.getD 0 0) = b := ⟨_, rfl⟩
  have HL := letter_any (l.getD 0 0)
  rw [hb] at HL hsp
  cases b with
  | false =>
    have hs : spelt l = false := by rw [hsp]; simp
    have HS := Lib.hid hs
    clear hs hsp ix hsz hb
    go_enter Tryd.func52, Tryd.ntmps52
    go_wp2_with (go_at_call 65; refine (HL _).mono ?_; rintro e w' ⟨rfl, rfl⟩)
    go_ret
    exact ⟨by rw [HS.out]; rfl, rfl⟩
  | true =>
    have hs : spelt l = l.all sgn := by
      rw [hsp, decide_eq_true (by omega), decide_eq_true (by omega)]
      simp
    have HS := Lib.hid hs
    clear hs hsp hb
    go_enter Tryd.func52, Tryd.ntmps52
    go_wp2_with (go_at_call 65; refine (HL _).mono ?_; rintro e w' ⟨rfl, rfl⟩)
    go_loopw [21] (fun i wr => ∃ j : Nat, j ≤ l.length ∧ i = .int .i64 (j : Nat) ∧ (l.take j).all sgn = true ∧ w = wr) (fun i _ => l.length - (intOf i).toNat)
    case atStart => exact ⟨0, by omega, rfl, by simp, rfl⟩
    case round =>
      obtain ⟨j, hj, rfl, hall, rfl⟩ := hrel
      have HALL := Lib.hid hall
      clear hall ix0 HL
      by_cases hlt : j < l.length
      · have hlti : (j : Int) < ((bsOf l).size : Int) := by rw [hsz]; omega
        have hx := ix j hlt
        have H1 := letter_any (l.getD j 0)
        have H2 := digit_any (l.getD j 0)
        have hsn : Hid (sgn (l.getD j 0) = (isLow (l.getD j 0) || isDig (l.getD j 0) || (l.getD j 0).toNat == 95)) := rfl
        have hmem : l.getD j 0 ∈ l := by rw [List.getD_eq_getElem?_getD, List.getElem?_eq_getElem hlt]; exact List.getElem_mem hlt
        have hnext : Hid (sgn (l.getD j 0) = true → (l.take (j + 1)).all sgn = true) := fun h => by
          rw [List.take_add_one, List.getElem?_eq_getElem hlt, List.all_append, HALL.out]
          rw [List.getD_eq_getElem?_getD, List.getElem?_eq_getElem hlt] at h
          simpa using h
        have hstop : Hid (sgn (l.getD j 0) = false → l.all sgn = false) := fun h => by
          rw [List.all_eq_false]
          refine ⟨_, hmem, ?_⟩
          rw [h]
          simp
        obtain ⟨b1, hb1⟩ : ∃ b, isLow (l.getD j 0) = b := ⟨_, rfl⟩
        obtain ⟨b2, hb2⟩ : ∃ b, isDig (l.getD j 0) = b := ⟨_, rfl⟩
        rw [hb1] at H1
        rw [hb2] at H2
        obtain ⟨b3, hb3⟩ : ∃ b, ((l.getD j 0).toNat == 95) = b := ⟨_, rfl⟩
        have hsn' : Hid (sgn (l.getD j 0) = (b1 || b2 || b3)) := by rw [← hb1, ← hb2, ← hb3]; exact hsn
        have hb3i : (((l.getD j 0).toNat : Int) == 95) = b3 := by rw [← hb3, Bool.eq_iff_iff]; simp; omega
        clear hsn hb1 hb2 hb3 hmem ix
        generalize (l.getD j 0).toNat = u at hx H1 H2 hb3i
        obtain ⟨b4, hb4⟩ : ∃ b, (b1 || b2 || b3) = b := ⟨_, rfl⟩
        rw [hb4] at hsn'
        cases b4 with
        | false =>
          obtain ⟨⟨rfl, rfl⟩, rfl⟩ : (b1 = false ∧ b2 = false) ∧ b3 = false := by simpa using hb4
          clear hb4
          go_wp2_with (first | (go_at_call 65; refine (H1 _).mono ?_; rintro e w' ⟨rfl, rfl⟩) | (go_at_call 66; refine (H2 _).mono ?_; rintro e w' ⟨rfl, rfl⟩))
          go_ret
          exact ⟨by rw [HS.out, hstop.out hsn'.out]; rfl, rfl⟩
        | true =>
          have HB := Lib.hid hb4
          clear hb4 hstop
          cases b1 <;> cases b2 <;> cases b3
          · exact absurd HB.out (by simp)
          all_goals
            clear HB
            go_wp2_with (first | (go_at_call 65; refine (H1 _).mono ?_; rintro e w' ⟨rfl, rfl⟩) | (go_at_call 66; refine (H2 _).mono ?_; rintro e w' ⟨rfl, rfl⟩))
            go_roundw
            case rel => exact ⟨j + 1, by omega, by go_num, hnext.out hsn'.out, trivial⟩
            case measure => simp [intOf]; omega
      · have hlti : ¬ ((j : Int) < ((bsOf l).size : Int)) := by rw [hsz]; omega
        obtain rfl : j = l.length := by omega
        go_wp2_with fail
        go_ret
        refine ⟨?_, rfl⟩
        have := HALL.out
        rw [List.take_length] at this
        rw [HS.out, this]
        rfl
end Go.Proofs.YtpfhggalbdjjmaaDoor
