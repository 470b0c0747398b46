/-
  What the statements of stage 4 share: a number below another one, a valid value.
  The statements' own Good, of a value: as a function.
  What the rows of this seat have in common: the round constants as they are laid; how arguments are opened.
  A struct of three fields that comes in.
  A slice of values that comes in (out of XOpenR).
  A slice of whatever that comes in: each element by its own reading.
-/
import Derived.Test.YtdmnjjknkcnkgaaGreatDoorMz0
import Derived.Test.YtdmnjjknkcnkgaaGreatDoorMz3
import Derived.Test.YtdmnjjknkcnkgaaGreatDoorRows
import Derived.Test.YtdmnjjknkcnkgaaGreatDoorMz1
import Derived.Test.YtdmnjjknkcnkgaaGreatDoorMz2
import Derived.ProofKit
import Derived.LaidMore
import Derived.OpenShut
import Derived.ShutString
import Derived.ChangeOld
import Derived.Stop.Joined
import Derived.Lib.LaidTab
import Derived.Deep.Matrix
import Derived.Test.YtdmnjjknkcnkgaaGreatDoorProg
import Derived.Lib.SmallJoins
import Derived.Deep.Slices
namespace Go.Proofs.YtdmnjjknkcnkgaaGreatDoor
open Go.RowKit

theorem within4_any (a n : Int) (w : World) (hn : 0 < n) (hn2 : n ≤ 1000000) :
    Calls Tryz.prog 91 #[.int .i64 a, .int .i64 n] w fun e w' => e = .returned (.int .i64 (wth a n)) ∧ w = w' := by
  have h1 := Int.lt_tmod_of_pos a hn
  have h2 := Int.tmod_lt_of_pos a hn
  have hz : (n == 0) = false := by simp; omega
  by_cases h3 : a.tmod n < 0
  · go_enter Tryz.func91, Tryz.ntmps91
    go_wp2_with fail
    go_ret
    exact ⟨ret_int (by unfold wth; rw [if_pos h3]), rfl⟩
  · go_enter Tryz.func91, Tryz.ntmps91
    go_wp2_with fail
    go_ret
    exact ⟨ret_int (by unfold wth; rw [if_neg (by omega)]), rfl⟩
set_option maxRecDepth 100000 in
theorem few_any (k n : Int) (s : ByteArray) (w : World) :
    Calls Tryz.prog 58 #[vv k n s] w fun e w' => e = .returned (.bool (decide ((s.size : Int) ≤ 80))) ∧ Below w.heap.size w w' := by
  have b0 : ∀ o, Below w.heap.size w (w.alloc o) := fun o => (Below.refl _ _).alloc (Nat.le_refl _) o
  go_enter Tryz.func58, Tryz.ntmps58
  go_wp2_with fail
  go_ret
  exact ⟨rfl, b0 _⟩
inductive Val : Int → Int → ByteArray → Prop
  | none : Val 0 0 ByteArray.empty
  | bool (n : Int) : 0 ≤ n → n ≤ 1 → Val 1 n ByteArray.empty
  | int (n : Int) : Val 2 n ByteArray.empty
  | text (s : ByteArray) : s.size ≤ 60 → Val 3 0 s

def gd (v : V) : V :=
  if wth v.k 4 = 1 then ⟨1, wth v.n 2, ByteArray.empty⟩ else if wth v.k 4 = 2 then ⟨2, v.n, ByteArray.empty⟩
  else if wth v.k 4 = 3 then ⟨3, 0, v.s.extract 0 (min v.s.size 60)⟩ else ⟨0, 0, ByteArray.empty⟩
set_option maxRecDepth 100000 in
set_option maxHeartbeats 1000000 in
theorem goodv_any (k n : Int) (s : ByteArray) (w : World) :
    Calls Tryz.prog 59 #[vv k n s] w fun e w' => e = .returned (gd ⟨k, n, s⟩).val ∧ Below w.heap.size w w' := by
  have l1 := wth_lo k 4 (by omega)
  have l2 := wth_hi k 4 (by omega)
  have c1 : ∀ w,Calls Tryz.prog 91 #[.int .i64 k,.int .i64 4] w fun e w' => e = .returned (.int .i64 (wth k 4)) ∧ w = w' := fun w => within4_any k 4 w (by omega) (by omega)
  have c2 : ∀ w,Calls Tryz.prog 91 #[.int .i64 n,.int .i64 2] w fun e w' => e = .returned (.int .i64 (wth n 2)) ∧ w = w' := fun w => within4_any n 2 w (by omega) (by omega)
  have G : Hid (gd ⟨k, n, s⟩ = if wth k 4 = 1 then ⟨1, wth n 2, ByteArray.empty⟩ else if wth k 4 = 2 then ⟨2, n, ByteArray.empty⟩
    else if wth k 4 = 3 then ⟨3, 0, s.extract 0 (min s.size 60)⟩ else ⟨0, 0, ByteArray.empty⟩) := rfl
  generalize wth k 4 = z at l1 l2 c1 G
  generalize wth n 2 = m at c2 G
  generalize gd ⟨k, n, s⟩ = V at G
  have b0 : ∀ o o', Below w.heap.size w ((w.alloc o).alloc o') := fun o o' => ((Below.refl _ _).alloc (Nat.le_refl _) o).alloc (by simp) o'
  by_cases h1 : z = 1
  · subst h1
    obtain rfl : V = ⟨1, m, ByteArray.empty⟩ := G.out
    clear G
    go_enter Tryz.func59, Tryz.ntmps59
    go_wp2_with (first | (go_at_call 91; (with_reducible refine (c1 _).mono ?_); rintro e w' ⟨rfl,rfl⟩) | (go_at_call 91; (with_reducible refine (c2 _).mono ?_); rintro e w' ⟨rfl,rfl⟩))
    refine bodyPost_ret (v := vv 1 m ByteArray.empty) (by simp [results, Tryz.results59, go_sem]; rfl) rfl ⟨rfl, b0 _ _⟩
  by_cases h2 : z = 2
  · subst h2
    obtain rfl : V = ⟨2, n, ByteArray.empty⟩ := G.out
    clear G
    go_enter Tryz.func59, Tryz.ntmps59
    go_wp2_with (first | (go_at_call 91; (with_reducible refine (c1 _).mono ?_); rintro e w' ⟨rfl,rfl⟩) | (go_at_call 91; (with_reducible refine (c2 _).mono ?_); rintro e w' ⟨rfl,rfl⟩))
    refine bodyPost_ret (v := vv 2 n ByteArray.empty) (by simp [results, Tryz.results59, go_sem]; rfl) rfl ⟨rfl, b0 _ _⟩
  by_cases h3 : z = 3
  · subst h3
    obtain rfl : V = ⟨3, 0, s.extract 0 (min s.size 60)⟩ := G.out
    clear G
    go_enter Tryz.func59, Tryz.ntmps59
    go_wp2_with (first | (go_at_call 91; (with_reducible refine (c1 _).mono ?_); rintro e w' ⟨rfl,rfl⟩) | (go_at_call 91; (with_reducible refine (c2 _).mono ?_); rintro e w' ⟨rfl,rfl⟩))
    refine bodyPost_ret (v := vv 3 0 (s.extract 0 (min s.size 60))) (by simp [results, Tryz.results59, go_sem]; rw [show (min (s.size : Int) 60).toNat = min s.size 60 by omega]) rfl ⟨rfl,b0 _ _⟩
  · obtain rfl : z = 0 := by omega
    obtain rfl : V = ⟨0, 0, ByteArray.empty⟩ := G.out
    clear G
    go_enter Tryz.func59, Tryz.ntmps59
    go_wp2_with (first | (go_at_call 91; (with_reducible refine (c1 _).mono ?_); rintro e w' ⟨rfl,rfl⟩) | (go_at_call 91; (with_reducible refine (c2 _).mono ?_); rintro e w' ⟨rfl,rfl⟩))
    refine bodyPost_ret (v := vv 0 0 ByteArray.empty) (by simp [results, Tryz.results59, go_sem]; rfl) rfl ⟨rfl, b0 _ _⟩
def fewB (l : List V) : Bool := l.all fun v => decide ((v.s.size : Int) ≤ 80)
theorem fewB_take (l : List V) (j : Nat) (v : V) (h : l[j]? = some v) : fewB (l.take (j + 1)) = (fewB (l.take j) && decide ((v.s.size : Int) ≤ 80)) := by
  obtain ⟨hj, rfl⟩ := List.getElem?_eq_some_iff.1 h
  unfold fewB
  rw [List.take_succ_eq_append_getElem hj, List.all_append]
  simp only [List.all_cons, List.all_nil, Bool.and_true]
theorem fewB_false (l : List V) (j : Nat) (v : V) (h : l[j]? = some v) (hv : decide ((v.s.size : Int) ≤ 80) = false) : fewB l = false := by
  unfold fewB
  rw [List.all_eq_false]
  exact ⟨v, List.mem_of_getElem? h, by rw [hv]; simp⟩
set_option maxRecDepth 100000 in
set_option maxHeartbeats 1000000 in
theorem few5_any (ao : Option Addr) (n cap : Nat) (l : List V) (w : World) (h : IsR EV w ao n cap l) :
    Calls Tryz.prog 28 #[.slice ao n cap] w fun e w' => e = .returned (.bool (fewB l && decide ((n : Int) ≤ 12))) ∧ Below w.heap.size w w' := by
  have hln := h.len
  have hmx := h.max
  have hle := h.le
  unfold maxLen at hmx
  go_enter Tryz.func28, Tryz.ntmps28
  go_wp2_with fail
  go_loopw [3] (fun i wr => ∃ j : Nat, j ≤ n ∧ i = .int .i64 (j : Nat) ∧ Below w.heap.size w wr ∧ Hid (fewB (l.take j) = true)) (fun i _ => n - (intOf i).toNat)
  case atStart => exact ⟨0, by omega, rfl, Below.refl _ _, rfl⟩
  case round =>
    obtain ⟨j, hj, rfl, hB, hf⟩ := hrel
    by_cases hlt : j < n
    · obtain ⟨v, hv⟩ : ∃ v, l[j]? = some v := ⟨l[j]'(by omega), List.getElem?_eq_getElem _⟩
      obtain ⟨b, off, rfl, hb, hc⟩ := h.open (by omega) (by decide)
      obtain ⟨c0, c1, c2⟩ := cells_v hc j v hv
      rw [← hB.cell hb] at c0 c1 c2
      have hfew := few_any v.k v.n v.s
      have HT := fewB_take l j v hv
      have HF := fewB_false l j v hv
      obtain ⟨k, m, s⟩ := v
      simp only at c0 c1 c2 hfew HT HF
      have HT' := Lib.hid HT
      have HF' := Lib.hid HF
      clear hc HT HF hv
      cases q : decide ((s.size : Int) ≤ 80) <;> rw [q] at hfew HT' HF'
      · go_wp2_with (go_at_call 58; (with_reducible refine (hfew _).mono ?_); rintro e w1 ⟨rfl, b1⟩)
        go_ret
        rw [HF'.out trivial]
        exact ⟨rfl, hB.trans (b1.mono hB.size)⟩
      · go_wp2_with (go_at_call 58; (with_reducible refine (hfew _).mono ?_); rintro e w1 ⟨rfl, b1⟩)
        go_roundw
        case rel => exact ⟨j + 1, by omega, by go_num, hB.trans (b1.mono hB.size), by unfold Hid; rw [HT'.out, hf.out]; rfl⟩
        case measure => simp [intOf]; omega
    · obtain rfl : j = n := by omega
      rw [List.take_of_length_le (by omega)] at hf
      go_wp2_with fail
      go_ret
      rw [hf.out]
      exact ⟨rfl, hB⟩
set_option maxRecDepth 100000 in
set_option maxHeartbeats 1000000 in
theorem good5_any (ao : Option Addr) (n cap : Nat) (l : List V) (w : World) (h : IsR EV w ao n cap l) (hn : n ≤ 300) :
    Calls Tryz.prog 29 #[.slice ao n cap] w fun e w' => ∃ ao' cap', e = .returned (.slice ao' n cap') ∧ Below w.heap.size w w' ∧
      ((n = 0 ∧ ao' = none ∧ cap' = 0) ∨ ∃ g, ao' = some ⟨g, 0, none⟩ ∧ OwnR EV w' 98 g n cap' (l.map gd) ∧ w.heap.size ≤ g) := by
  have hln := h.len
  go_enter Tryz.func29, Tryz.ntmps29
  go_wp2_with fail
  go_loopw [3,4] (fun r i wr => ∃ j : Nat,j ≤ n ∧ i = .int .i64 (j : Nat) ∧ Below w.heap.size w wr ∧ ((j = 0 ∧ r = .slice none 0 0) ∨ ∃ g c,0 < j ∧ r = .slice (some ⟨g,0,none⟩) j c ∧ OwnR EV wr 98 g j c ((l.take j).map gd) ∧ w.heap.size ≤ g)) (fun _ i _ => n - (intOf i).toNat)
  case atStart => exact ⟨0, by omega, rfl, Below.refl _ _, .inl ⟨rfl, rfl⟩⟩
  case round =>
    obtain ⟨j, hj, rfl, hB, hr⟩ := hrel
    by_cases hlt : j < n
    · obtain ⟨v, hv⟩ : ∃ v, l[j]? = some v := ⟨l[j]'(by omega), List.getElem?_eq_getElem _⟩
      obtain ⟨b, off, rfl, hb, hc⟩ := h.open (by omega) (by decide)
      obtain ⟨c0, c1, c2⟩ := cells_v hc j v hv
      rw [← hB.cell hb] at c0 c1 c2
      have HG := goodv_any v.k v.n v.s
      have HT : Hid ((l.take j).map gd ++ [gd v] = (l.take (j + 1)).map gd) := by
        obtain ⟨hj, rfl⟩ := List.getElem?_eq_some_iff.1 hv
        rw [List.take_succ_eq_append_getElem hj, List.map_append]
        exact rfl
      obtain ⟨k, m, s⟩ := v
      simp only at c0 c1 c2 HG
      generalize gd ⟨k, m, s⟩ = x at HG HT
      obtain ⟨k', m', s'⟩ := x
      simp only [V.val] at HG
      clear hc hv
      have one : ∀ w : World,IsR EV (w.alloc (.cells #[.int .i64 k',.int .i64 m',.string s'] 98)) (some ⟨w.heap.size,0,none⟩) 1 1 [⟨k',m',s'⟩] := fun w => (OwnR.ofBlk (E := EV) (l := [⟨k',m',s'⟩]) (n := 1) (heap_alloc_new w _) rfl rfl (by omega)).isR
      have one' := Lib.hid one
      clear one
      rcases hr with ⟨rfl, rfl⟩ | ⟨g, c, hp, rfl, ho, hg⟩
      · simp only [Nat.zero_mul, Nat.add_zero] at c0 c1 c2
        go_wp2_with (first
          | (go_at_call 59; (with_reducible refine (HG _).mono ?_); rintro e w1 ⟨rfl, b1⟩)
          | (at_builtin; refine wpList_append_nr rfl _ _ 35 35 rfl 98 rowTyV 0 rfl rfl _ rfl 1 [⟨k',m',s'⟩] ((one'.out w1).src rowTyV.ht) rfl (by omega) (by omega) ?_; intro g2 c2' w2 o2 b2 q2))
        have s1 := b1.size
        have s2 : w1.heap.size ≤ (w1.alloc (.cells #[.int .i64 k', .int .i64 m', .string s'] 98)).heap.size := by simp
        have B1 := (hB.trans (b1.mono hB.size)).alloc (Nat.le_trans hB.size s1) (.cells #[.int .i64 k', .int .i64 m', .string s'] 98)
        go_roundw
        case rel => exact ⟨1, by omega, by go_num, B1.trans (b2.mono B1.size), .inr ⟨g2, c2', by omega, rfl, by rw [← HT.out]; exact o2, by have := hB.size; omega⟩⟩
        case measure => simp [intOf]; omega
      · go_wp2_with (first
          | (go_at_call 59; (with_reducible refine (HG _).mono ?_); rintro e w1 ⟨rfl, b1⟩)
          | (at_builtin; refine wpList_append_or rfl _ _ 35 35 rfl 98 rowTyV g j c _ rfl ((ho.past b1).alloc _) _ rfl 1 [⟨k',m',s'⟩] ((one'.out w1).src rowTyV.ht) rfl (j + 1) rfl _ HT.out (by omega) ?_; intro g2 c2' w2 o2 p2 q2))
        have s1 := b1.size
        have s0 := hB.size
        have B1 := (hB.trans (b1.mono hB.size)).alloc (Nat.le_trans hB.size s1) (.cells #[.int .i64 k', .int .i64 m', .string s'] 98)
        simp only [World.size_alloc] at q2
        go_roundw
        case rel => exact ⟨j + 1, by omega, by go_num, B1.trans (p2.below hg B1.size), .inr ⟨g2, c2', by omega, rfl, o2, by omega⟩⟩
        case measure => simp [intOf]; omega
    · obtain rfl : j = n := by omega
      rw [List.take_of_length_le (by omega)] at hr
      rcases hr with ⟨rfl, rfl⟩ | ⟨g, c, hp, rfl, ho, hg⟩
      · go_wp2_with fail
        go_ret
        exact ⟨none, 0, rfl, hB, by simp⟩
      · go_wp2_with fail
        go_ret
        exact ⟨some ⟨g, 0, none⟩, c, rfl, hB, .inr ⟨g, rfl, ho, hg⟩⟩
open Go.ChangeShapes Go.WideShapes Go.ChangeAt Go.RowKit

abbrev laidL : List (String × DataW Unit) := [("ledgerline/sha.roundConstants", Rows.laid_ledgerline_sha_roundConstants)]
theorem own : ownKnob Tryz.prog.godebug = none := by kernel_rfl
theorem laidOut : laidOutB Tryz.prog = true := by kernel_rfl
theorem door_met (os : Os) (args : Array Value) : laidMetH Tryz.prog laidL ((World.doorLaid Tryz.prog 400 os).forCall (fun _ _ => 0) ⟨#[], args, []⟩).memory :=
  laidMetH_of_parts3 (fuel := 8) (laidMet_of_run' 8 (by kernel_rfl) (by kernel_rfl)) (by kernel_rfl) (by kernel_rfl)
theorem rc_of_laid {W : World} (h : laidMetH Tryz.prog laidL W) : RC W := by
  rw [MakeChecks.laidMetH_plain _ _ _ (by kernel_rfl)] at h
  have hT : Lib.TabIs Tryz.prog W "ledgerline/sha.roundConstants" .u32 (K64.map u) :=
    Lib.tabIs_of_head (g := 0) (t := 135) (e := 105) (n := 64) (rest := []) (by kernel_rfl) (by kernel_rfl) Tryz.underlying135 Tryz.underlying105 (by kernel_rfl) (by kernel_rfl) h
  intro i hi
  have hc := hT.cell (g := 0) (by kernel_rfl) i (by simp [K64_length]; exact hi)
  rw [hc]
  have hl : i < K64.length := by rw [K64_length]; exact hi
  simp [kk, List.getD, hl]

section
variable {H : Type} {enc : TypeId × Value → H} {W : World}
end
open Go.ChangeShapes Go.WideShapes Go.ChangeAt Go.RowKit Go.Joins Go.Deep
section
variable {H : Type} {enc : TypeId × Value → H} {W : World} {P : Program} {base : Nat} {sp : Nat → Bool} {held : Bool}
theorem trod3 {t : TypeId} {f0 f1 f2 : Field} {fuel : Nat} {cs : List Value} {x : DataW H × List MemPlace} (hs : P.underlying t = some (.struct #[f0,f1,f2])) (hone : oneCellFields P #[f0,f1,f2] = true) (hC : P.cellsOf t = 3)
    (h : DataW.trod enc P W base sp held fuel t cs = some x) :
    ∃ (c0 c1 c2 : Value) (y0 y1 y2 : DataW H × List MemPlace) (n : Nat),cs = [c0,c1,c2] ∧ DataW.trod enc P W base sp held n f0.type [c0] = some y0 ∧ DataW.trod enc P W base sp held n f1.type [c1] = some y1 ∧ DataW.trod enc P W base sp held n f2.type [c2] = some y2 := by
  obtain ⟨y0, y1, y2, n, _, hl, h0, h1, h2⟩ := trod_struct3 hs h
  rw [hC] at hl
  match cs, hl with
  | [c0, c1, c2], _ =>
    obtain ⟨o0, k0⟩ := hone_of hone 0 f0 rfl
    obtain ⟨o1, k1⟩ := hone_of hone 1 f1 rfl
    obtain ⟨o2, k2⟩ := hone_of hone 2 f2 rfl
    exact ⟨c0, c1, c2, y0, y1, y2, n, rfl, by simpa [o0, k0] using h0, by simpa [o1, k1] using h1, by simpa [o2, k2] using h2⟩
end
section
variable {H : Type} {enc : TypeId × Value → H} {W : World} {P : Program} {base : Nat} {sp : Nat → Bool} {held : Bool}
theorem val_cells {n : Nat} {cs : List Value} {x : DataW H × List MemPlace} (h : DataW.trod enc Tryz.prog W 0 sp held n 98 cs = some x) : ∃ v : V,cs = EV.f v ∧ (Lit.int .i64 v.k).wf = true ∧ (Lit.int .i64 v.n).wf = true := by
  obtain ⟨c0, c1, c2, y0, y1, y2, m, rfl, h0, h1, h2⟩ := trod3 Tryz.underlying98 (by kernel_rfl) (by kernel_rfl) h
  obtain ⟨k, hk, _, wk⟩ := DataW.trod_int Tryz.underlying3 h0
  obtain ⟨n, hn, _, wn⟩ := DataW.trod_int Tryz.underlying3 h1
  obtain ⟨s, hs, _, ws⟩ := DataW.trod_string Tryz.underlying9 h2
  obtain rfl : c0 = .int .i64 k := by simpa using hk
  obtain rfl : c1 = .int .i64 n := by simpa using hn
  obtain rfl : c2 = .string s := by simpa using hs
  exact ⟨⟨k, n, s⟩, rfl, wk, wn⟩
instance : Inhabited V := ⟨V0⟩
theorem open_vals_b {ao : Option Addr} {n c : Nat} {d : DataW H} {p : List MemPlace} (h : DataW.Trod enc Tryz.prog W 0 (fun _ => true) held 35 (.slice ao n c) d p) :
    ∃ l : List V, IsR EV W ao n c l ∧ ∀ v ∈ l, (Lit.int .i64 v.k).wf = true ∧ (Lit.int .i64 v.n).wf = true := by
  obtain ⟨fuel, hf⟩ := h
  have ce : Tryz.prog.cellsOf 98 = 3 := by kernel_rfl
  rcases open_slice Tryz.underlying35 hf with ⟨hcs, _⟩ | ⟨a, len, cap, m, k, D, Pl, hcs, _, hl, hm, hmm, _, hx⟩
  · simp [Value.cells] at hcs
    obtain ⟨rfl, rfl, rfl⟩ := hcs
    exact ⟨[], IsR.nilR W, by simp⟩
  · simp [Value.cells] at hcs
    obtain ⟨rfl, rfl, rfl⟩ := hcs
    simp only [if_true] at hmm
    have each : ∀ i, i < n → ∃ v : V, ((Lit.int .i64 v.k).wf = true ∧ (Lit.int .i64 v.n).wf = true) ∧ ∀ j u, (EV.f v)[j]? = some u → W.cell? (a.add (i * 3 + j)) = some u := fun i hi => by
      obtain ⟨cs', h1, h2⟩ := hx i (by omega)
      rw [ce] at h1
      obtain ⟨_, hlen, hcell⟩ := World.cells?_some h1
      obtain ⟨v, rfl, w1, w2⟩ := val_cells h2
      refine ⟨v, ⟨w1, w2⟩, fun j u hu => ?_⟩
      have hj : j < (EV.f v).length := (List.getElem?_eq_some_iff.1 hu).1
      have := hcell j (by omega)
      rw [Addr.add_add] at this
      rw [this, hu]
    obtain ⟨f, hf⟩ := choose_lt each
    have hg : ∀ j, j < n → ((List.range n).map f)[j]? = some (f j) := fun j hj => by simp [hj]
    refine ⟨(List.range n).map f, ⟨by simp, hl, hm, (fun h => by cases h), fun a' ha' q u hu => ?_⟩, fun v hv => ?_⟩
    · obtain rfl := Option.some.inj ha'
      have hq : q < n * 3 := by
        have := (List.getElem?_eq_some_iff.1 hu).1
        rw [EV.all_length, List.length_map, List.length_range] at this
        exact this
      have g := EV.all_get ((List.range n).map f) (q / 3) (q % 3) (f (q / 3)) (hg _ (by omega)) (Nat.mod_lt _ (by decide))
      have e : q / 3 * EV.sz + q % 3 = q := Nat.div_add_mod' q 3
      rw [e, hu] at g
      have := (hf (q / 3) (by omega)).2 (q % 3) u g.symm
      rwa [Nat.div_add_mod' q 3] at this
    · obtain ⟨j, hj, rfl⟩ := List.mem_map.1 hv
      exact (hf j (List.mem_range.1 hj)).1
end
section
variable {H : Type} {enc : TypeId × Value → H} {W : World} {P : Program} {base : Nat} {sp : Nat → Bool} {held : Bool}
theorem trod4 {t : TypeId} {f0 f1 f2 f3 : Field} {fuel : Nat} {cs : List Value} {x : DataW H × List MemPlace} (hs : P.underlying t = some (.struct #[f0,f1,f2,f3])) (hone : oneCellFields P #[f0,f1,f2,f3] = true) (hC : P.cellsOf t = 4)
    (h : DataW.trod enc P W base sp held fuel t cs = some x) :
    ∃ (c0 c1 c2 c3 : Value) (y0 y1 y2 y3 : DataW H × List MemPlace) (n : Nat),cs = [c0,c1,c2,c3] ∧ DataW.trod enc P W base sp held n f0.type [c0] = some y0 ∧ DataW.trod enc P W base sp held n f1.type [c1] = some y1 ∧ DataW.trod enc P W base sp held n f2.type [c2] = some y2 ∧ DataW.trod enc P W base sp held n f3.type [c3] = some y3 := by
  obtain ⟨y0, y1, y2, y3, n, _, hl, h0, h1, h2, h3⟩ := trod_struct4 hs h
  rw [hC] at hl
  match cs, hl with
  | [c0, c1, c2, c3], _ =>
    obtain ⟨o0, k0⟩ := hone_of hone 0 f0 rfl
    obtain ⟨o1, k1⟩ := hone_of hone 1 f1 rfl
    obtain ⟨o2, k2⟩ := hone_of hone 2 f2 rfl
    obtain ⟨o3, k3⟩ := hone_of hone 3 f3 rfl
    exact ⟨c0, c1, c2, c3, y0, y1, y2, y3, n, rfl, by simpa [o0, k0] using h0, by simpa [o1, k1] using h1, by simpa [o2, k2] using h2, by simpa [o3, k3] using h3⟩
theorem open_rows_g {α : Type} [Inhabited α] (E : Enc α) {t e : TypeId} (ht : P.underlying t = some (.slice e)) (ce : P.cellsOf e = E.sz) (hz : 0 < E.sz) (Pr : α → Prop)
    (hel : ∀ m cs x,DataW.trod enc P W 0 (fun _ => true) held m e cs = some x → ∃ v,cs = E.f v ∧ Pr v) {ao : Option Addr} {n c m : Nat} {d : DataW H × List MemPlace} (hf : DataW.trod enc P W 0 (fun _ => true) held m t [.slice ao n c] = some d) :
    ∃ l : List α, IsR E W ao n c l ∧ ∀ v ∈ l, Pr v := by
  rcases open_slice ht hf with ⟨hcs, _⟩ | ⟨a, len, cap, m, k, D, Pl, hcs, _, hl, hm, hmm, _, hx⟩
  · simp at hcs
    obtain ⟨rfl, rfl, rfl⟩ := hcs
    exact ⟨[], IsR.nilR W, by simp⟩
  · simp at hcs
    obtain ⟨rfl, rfl, rfl⟩ := hcs
    simp only [if_true] at hmm
    have each : ∀ i, i < n → ∃ v : α, Pr v ∧ ∀ j u, (E.f v)[j]? = some u → W.cell? (a.add (i * E.sz + j)) = some u := fun i hi => by
      obtain ⟨cs', h1, h2⟩ := hx i (by omega)
      rw [ce] at h1
      obtain ⟨_, hlen, hcell⟩ := World.cells?_some h1
      obtain ⟨v, rfl, hp⟩ := hel _ _ _ h2
      refine ⟨v, hp, fun j u hu => ?_⟩
      have hj : j < (E.f v).length := (List.getElem?_eq_some_iff.1 hu).1
      have := hcell j (by omega)
      rw [Addr.add_add] at this
      rw [this, hu]
    obtain ⟨f, hf⟩ := choose_lt each
    have hg : ∀ j, j < n → ((List.range n).map f)[j]? = some (f j) := fun j hj => by simp [hj]
    refine ⟨(List.range n).map f, ⟨by simp, hl, hm, (fun h => by cases h), fun a' ha' q u hu => ?_⟩, fun v hv => ?_⟩
    · obtain rfl := Option.some.inj ha'
      have hq : q < n * E.sz := by
        have := (List.getElem?_eq_some_iff.1 hu).1
        rw [E.all_length, List.length_map, List.length_range] at this
        exact this
      have hqd : q / E.sz < n := (Nat.div_lt_iff_lt_mul hz).2 hq
      have g := E.all_get ((List.range n).map f) (q / E.sz) (q % E.sz) (f (q / E.sz)) (hg _ hqd) (Nat.mod_lt _ hz)
      have e : q / E.sz * E.sz + q % E.sz = q := Nat.div_add_mod' q E.sz
      rw [e, hu] at g
      have := (hf (q / E.sz) hqd).2 (q % E.sz) u g.symm
      rwa [e] at this
    · obtain ⟨j, hj, rfl⟩ := List.mem_map.1 hv
      exact (hf j (List.mem_range.1 hj)).1
end
end Go.Proofs.YtdmnjjknkcnkgaaGreatDoor
