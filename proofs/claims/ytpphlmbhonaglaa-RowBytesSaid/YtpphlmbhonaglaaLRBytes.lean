/-
  RowBytes, walked (by gen_rbytes.py).
-/
import Derived.Test.YtpphlmbhonaglaaLaw5
import Derived.Test.YtpphlmbhonaglaaRowC
import Derived.Test.YtpphlmbhonaglaaIsP
import Derived.Test.YtpphlmbhonaglaaSame
import Derived.Test.YtpphlmbhonaglaaRefB5
import Derived.Test.YtpphlmbhonaglaaOpenR
import Derived.Test.YtpphlmbhonaglaaInv
import Derived.Deep.QuietTactic
import Derived.BigQuiet
import Derived.StillTailTactics
import Derived.LoopN
import Derived.Deep.CutRange
import Derived.Deep.CutBlock
namespace Go.Proofs.Ytpphlmbhonaglaa
open Go.RowKit
set_option linter.unusedSimpArgs false
theorem bcs_set (l : List UInt8) (j : Nat) (u : UInt8) : bcs (l.set j u) = (bcs l).set j (bc u) := by simp [bcs, List.map_set]
theorem cell_on {w w' : World} {p : Addr} {v : Value} (h : w.cell? p = some v) (b : Below w.heap.size w w') : w'.cell? p = some v := by
  rw [b.cell (World.block_lt_of_cell? w _ h)]
  exact h
/-- A store into a row of the call's own. -/
theorem own_stored {w : World} {e : TypeId} {g n cap : Nat} {l : List UInt8} (h : OwnB w e g n cap l) (j : Nat) (u : UInt8) : OwnB (w.setCell ⟨g, j, none⟩ (bc u)) e g n cap (l.set j u) := by
  obtain ⟨cur, hg, hs, ht⟩ := h.row
  refine ⟨by rw [List.length_set]; exact h.len, h.le, h.max, cur.setIfInBounds j (bc u), ?_, by simp [hs], ?_⟩
  · rw [setCell_eq_setRow w g j cur e (0, 0) _ hg]
    exact setRow_heap w g cur _ e _ hg
  · rw [bcs_set, ← ht, Array.toList_setIfInBounds, List.take_set]
/-- What stands while the region's operations come up: which have (b), what their slots hold (x), what the world holds. -/
inductive RBytes7 (ao3 : Option Addr) (c3 : Nat) (n : Nat) (g4 : Nat) (c4 : Nat) (m : Nat) (RA : List UInt8) (a0 : Act) (w0 : World) (L : Array Bool) (a : Act) (w : World) : Prop
  | mk (b0 b1 b2 b3 b4 b5 : Bool) (x35 x36 x37 x38 x39 x40 : Value) (g5 : Nat) (c5 : Nat) (hL : L = #[b0, b1, b2, b3, b4, b5]) (ha : a = ⟨((((((a0.tmps.setIfInBounds 35 x35).setIfInBounds 36 x36).setIfInBounds 37 x37).setIfInBounds 38 x38).setIfInBounds 39 x39).setIfInBounds 40 x40), a0.defers⟩) (hb : Below w0.heap.size w0 w) (cd0 : Hid (b0 = true → x35 = .slice (some ⟨g4, 0, none⟩) m c4)) (cd1 : Hid (b1 = true → x36 = .string ⟨RA.toArray⟩)) (cd2 : Hid (b2 = true → x37 = .slice ao3 n c3)) (cd3 : Hid (b3 = true → x38 = .slice (some ⟨g5, 0, none⟩) m c5)) (cd4 : Hid (b4 = true → x39 = .string ⟨RA.toArray⟩)) (cd5 : Hid (b5 = true → x40 = .bool false)) (wf3 : Hid (b3 = true → IsB w (some ⟨g5, 0, none⟩) m c5 RA)) : RBytes7 ao3 c3 n g4 c4 m RA a0 w0 L a w

/-- What stands while the region's operations come up: which have (b), what their slots hold (x), what the world holds. -/
inductive RBytes24 (gP : Nat) (j : Nat) (ao1 : Option Addr) (n1 : Nat) (cap1 : Nat) (bo : Option Addr) (bn : Nat) (bc : Nat) (B : List UInt8) (a0 : Act) (w0 : World) (L : Array Bool) (a : Act) (w : World) : Prop
  | mk (b0 b1 b2 b3 b4 b5 b6 b7 b8 b9 b10 b11 b12 : Bool) (x139 x140 x141 x142 x143 x144 x145 x146 x147 x148 x149 x150 x151 : Value) (g5 : Nat) (c5 : Nat) (hL : L = #[b0, b1, b2, b3, b4, b5, b6, b7, b8, b9, b10, b11, b12]) (ha : a = ⟨(((((((((((((a0.tmps.setIfInBounds 139 x139).setIfInBounds 140 x140).setIfInBounds 141 x141).setIfInBounds 142 x142).setIfInBounds 143 x143).setIfInBounds 144 x144).setIfInBounds 145 x145).setIfInBounds 146 x146).setIfInBounds 147 x147).setIfInBounds 148 x148).setIfInBounds 149 x149).setIfInBounds 150 x150).setIfInBounds 151 x151), a0.defers⟩) (hb : Below w0.heap.size w0 w) (cd0 : Hid (b0 = true → x139 = .int .i64 0)) (cd1 : Hid (b1 = true → x140 = .bool true)) (cd2 : Hid (b2 = true → x141 = .bool true)) (cd3 : Hid (b3 = true → x142 = .slice ao1 n1 cap1)) (cd4 : Hid (b4 = true → x143 = .slice (some ⟨g5, 0, none⟩) bn c5)) (cd5 : Hid (b5 = true → x144 = .string ⟨B.toArray⟩)) (cd6 : Hid (b6 = true → x145 = .slice (some ⟨gP, 0, none⟩) 4 4)) (cd7 : Hid (b7 = true → x146 = .int .i64 (j : Nat))) (cd8 : Hid (b8 = true → x147 = .pointer (some ⟨gP, j, none⟩))) (cd9 : Hid (b9 = true → x148 = .slice bo bn bc)) (cd10 : Hid (b10 = true → x149 = .string ⟨B.toArray⟩)) (cd11 : Hid (b11 = true → x150 = .bool false)) (cd12 : Hid (b12 = true → x151 = .bool false)) (wf4 : Hid (b4 = true → IsB w (some ⟨g5, 0, none⟩) bn c5 B)) : RBytes24 gP j ao1 n1 cap1 bo bn bc B a0 w0 L a w
/-- What stands while the region's operations come up: which have (b), what their slots hold (x), what the world holds. -/
inductive RBytes24a (gP : Nat) (ao1 : Option Addr) (n1 : Nat) (cap1 : Nat) (bo : Option Addr) (bn : Nat) (bc : Nat) (B : List UInt8) (a0 : Act) (w0 : World) (L : Array Bool) (a : Act) (w : World) : Prop
  | mk (b0 b1 b2 b3 b4 b5 b6 b7 b8 b9 b10 b11 b12 : Bool) (x139 x140 x141 x142 x143 x144 x145 x146 x147 x148 x149 x150 x151 : Value) (g5 : Nat) (c5 : Nat) (hL : L = #[b0, b1, b2, b3, b4, b5, b6, b7, b8, b9, b10, b11, b12]) (ha : a = ⟨(((((((((((((a0.tmps.setIfInBounds 139 x139).setIfInBounds 140 x140).setIfInBounds 141 x141).setIfInBounds 142 x142).setIfInBounds 143 x143).setIfInBounds 144 x144).setIfInBounds 145 x145).setIfInBounds 146 x146).setIfInBounds 147 x147).setIfInBounds 148 x148).setIfInBounds 149 x149).setIfInBounds 150 x150).setIfInBounds 151 x151), a0.defers⟩) (hb : Below w0.heap.size w0 w) (cd0 : Hid (b0 = true → x139 = .int .i64 0)) (cd1 : Hid (b1 = true → x140 = .bool true)) (cd2 : Hid (b2 = true → x141 = .bool true)) (cd3 : Hid (b3 = true → x142 = .slice ao1 n1 cap1)) (cd4 : Hid (b4 = true → x143 = .slice (some ⟨g5, 0, none⟩) bn c5)) (cd5 : Hid (b5 = true → x144 = .string ⟨B.toArray⟩)) (cd6 : Hid (b6 = true → x145 = .slice (some ⟨gP, 0, none⟩) 4 4)) (cd7 : Hid (b7 = true → x146 = .int .i64 0)) (cd8 : Hid (b8 = true → x147 = .pointer (some ⟨gP, 0, none⟩))) (cd9 : Hid (b9 = true → x148 = .slice bo bn bc)) (cd10 : Hid (b10 = true → x149 = .string ⟨B.toArray⟩)) (cd11 : Hid (b11 = true → x150 = .bool false)) (cd12 : Hid (b12 = true → x151 = .bool false)) (wf4 : Hid (b4 = true → IsB w (some ⟨g5, 0, none⟩) bn c5 B)) : RBytes24a gP ao1 n1 cap1 bo bn bc B a0 w0 L a w

set_option maxRecDepth 100000 in
set_option maxHeartbeats 1000000 in
theorem rowBytes_walk (ao : Option Addr) (n cap : Nat) (l : List V) (aoA : Option Addr) (nA capA : Nat) (lA : List Int) (aoY : Option Addr) (nY capY : Nat) (lY : List UInt8) (cut : Int) (aoR : Option Addr) (nR capR : Nat) (raw : List UInt8) (W : World)
    (h : IsR EV W ao n cap l) (hwf : ∀ v ∈ l, (Lit.int .i64 v.k).wf = true ∧ (Lit.int .i64 v.n).wf = true) (hA : IsR EI W aoA nA capA lA) (hY : IsB W aoY nY capY lY) (hcw : (Lit.int .i64 cut).wf = true) (hR : IsB W aoR nR capR raw) :
    Calls Try.prog 3 #[.slice ao n cap, .slice aoA nA capA, .slice aoY nY capY, .int .i64 cut, .slice aoR nR capR] W (Told W true) := by
  have hln := h.len
  have HF := fun (w' : World) (hb : Below W.heap.size W w') => few5_any ao n cap l w' (h.past hb)
  cases q : (fewB l && decide ((n : Int) ≤ 12)) <;> rw [q] at HF
  · go_enter Try.func3, Try.ntmps3
    go_wp2_with (first
      | (go_at_call 8; (with_reducible refine (known5 _).mono ?_); rintro e w1 ⟨rfl, b1⟩)
      | (go_at_call 9; (with_reducible refine (HF _ b1).mono ?_); rintro e w2 ⟨rfl, b2⟩))
    go_ret
    exact ⟨rfl, b1.trans (b2.mono b1.size)⟩
  · have hn : n ≤ 12 := by
      simp only [Bool.and_eq_true, decide_eq_true_eq] at q
      omega
    clear q
    by_cases hraw : nR ≤ 200
    · have hraw' : (nR : Int) ≤ 200 := by omega
      have HG := fun (w' : World) (hb : Below W.heap.size W w') => good5_any ao n cap l w' (h.past hb) (by omega)
      have okA : Hid (∀ v ∈ l.map gd, Vok v) := fun v hv => by
        obtain ⟨y, hy, rfl⟩ := List.mem_map.1 hv
        exact gd_ok y (hwf y hy).2
      have hlA : Hid ((l.map gd).length = n) := by unfold Hid; rw [List.length_map, hln]
      have szA : Hid (∀ v ∈ l.map gd, v.s.size ≤ 60000) := fun v hv => by
        have := okA.out v hv
        cases this with
        | none => exact Nat.zero_le _
        | bool n hn => exact Nat.zero_le _
        | int n hn => exact Nat.zero_le _
        | text s hs => exact Nat.le_trans hs (by omega)
      clear hwf
      generalize l.map gd = LA at HG okA hlA szA
      have isG : ∀ {w' : World} {ao' : Option Addr} {c' B : Nat}, ((n = 0 ∧ ao' = none ∧ c' = 0) ∨ ∃ g, ao' = some ⟨g, 0, none⟩ ∧ OwnR EV w' 39 g n c' LA ∧ B ≤ g) → IsR EV w' ao' n c' LA := fun h => by
        rcases h with ⟨h0, rfl, rfl⟩ | ⟨g, rfl, o, _⟩
        · have e0 : LA = [] := List.eq_nil_of_length_eq_zero (hlA.out.trans h0)
          subst h0 e0
          exact IsR.nilR _
        · exact o.isR
      have HB := fun (ao' : Option Addr) (c' : Nat) (w' : World) (h' : IsR EV w' ao' n c' LA) => bytes_any ao' n c' LA w' h' (by omega)
      have HRB := fun (ao' : Option Addr) (c' : Nat) (w' : World) (h' : IsR EV w' ao' n c' LA) => rbytes_any ao' n c' LA w' h' (by omega) szA.out
      obtain ⟨RA, hRA⟩ : ∃ RA, RA = encR LA := ⟨_, rfl⟩
      obtain ⟨m, hm⟩ : ∃ m, m = RA.length := ⟨_, rfl⟩
      rw [← hRA, ← hm] at HB HRB
      have hRA' := Lib.hid hRA
      have hm' := Lib.hid hm
      clear hRA hm
      go_enter Try.func3, Try.ntmps3
      go_wp2_with (first
        | (go_at_call 8; (with_reducible refine (known5 _).mono ?_); rintro e w1 ⟨rfl, b1⟩)
        | (go_at_call 9; (with_reducible refine (HF _ b1).mono ?_); rintro e w2 ⟨rfl, b2⟩; have B2 := b1.trans (b2.mono b1.size))
        | (go_at_call 10; (with_reducible refine (HG w2 B2).mono ?_); rintro e w3 ⟨ao3, c3, rfl, b3, hr3⟩; have i3 := isG hr3; have B3 := B2.trans (b3.mono B2.size))
        | (go_at_call 11; (with_reducible refine (HB ao3 c3 w3 i3).mono ?_); rintro e w4 ⟨g4, c4, rfl, o4, b4, q4⟩; have B4 := B3.trans (b4.mono B3.size); have i4 := i3.past b4))
      have hO : IsB w4.drew (some ⟨g4, 0, none⟩) m c4 RA := o4.isB.past (Below.refl _ _).drew
      have hL : IsR EV w4.drew ao3 n c3 LA := i4.drew
      have hm6 : m ≤ 900000 := by
        have e1 := encVs_length LA
        have e2 : m = 1 + (encVs LA).length := by rw [hm'.out, hRA'.out]; unfold encR; rw [List.length_append, le_length]
        have e3 := hlA.out
        omega
      have hm1 : 1 ≤ m := by
        rw [hm'.out, hRA'.out]; unfold encR; rw [List.length_append, le_length]; omega
      refine region_inv (RBytes7 ao3 c3 n g4 c4 m RA) (by kernel_rfl) (by kernel_rfl) ?_ ?_ ?_
      · exact ⟨false, false, false, false, false, false, undef, undef, undef, undef, undef, undef, 0, 0, rfl, (by simp only [Act.put, List.setIfInBounds_toArray, List.set_cons_zero, List.set_cons_succ]), Below.refl _ _, (fun h => by cases h), (fun h => by cases h), (fun h => by cases h), (fun h => by cases h), (fun h => by cases h), (fun h => by cases h), (fun h => by cases h)⟩
      · refine ⟨?_, ?_, ?_, ?_, ?_, ?_, trivial⟩
        · rintro L a w ⟨b0, b1, b2, b3, b4, b5, x35, x36, x37, x38, x39, x40, g5, c5, rfl, rfl, hb, cd0, cd1, cd2, cd3, cd4, cd5, wf3⟩ hf hd
          have hf' : b0 = false := hf
          subst hf'
          clear hf hd
          try simp only [List.setIfInBounds_toArray, List.set_cons_zero, List.set_cons_succ]
          intro K hK
          rw [if_pos (by rfl)]
          go_simp
          exact hK.out _ _ ⟨true, b1, b2, b3, b4, b5, (.slice (some ⟨g4, 0, none⟩) m c4), x36, x37, x38, x39, x40, g5, c5, (by simp only [Act.put, List.setIfInBounds_toArray, List.set_cons_zero, List.set_cons_succ]), (by simp only [Act.put, List.setIfInBounds_toArray, List.set_cons_zero, List.set_cons_succ]), hb, (fun _ => rfl), cd1, cd2, cd3, cd4, cd5, wf3⟩
        · rintro L a w ⟨b0, b1, b2, b3, b4, b5, x35, x36, x37, x38, x39, x40, g5, c5, rfl, rfl, hb, cd0, cd1, cd2, cd3, cd4, cd5, wf3⟩ hf hd
          have hf' : b1 = false := hf
          subst hf'
          have d0 : b0 = true := hd ⟨0, .data⟩ (by simp) rfl
          subst d0
          obtain rfl := cd0.out rfl
          clear hf hd
          try simp only [List.setIfInBounds_toArray, List.set_cons_zero, List.set_cons_succ]
          have cv := (hO.past hb).conv byteTy Try.underlying9
          intro K hK
          rw [if_pos (by rfl)]
          go_simp
          exact hK.out _ _ ⟨true, true, b2, b3, b4, b5, .slice (some ⟨g4, 0, none⟩) m c4, (.string ⟨RA.toArray⟩), x37, x38, x39, x40, g5, c5, (by simp only [Act.put, List.setIfInBounds_toArray, List.set_cons_zero, List.set_cons_succ]), (by simp only [Act.put, List.setIfInBounds_toArray, List.set_cons_zero, List.set_cons_succ]), hb, (fun _ => rfl), (fun _ => rfl), cd2, cd3, cd4, cd5, wf3⟩
        · rintro L a w ⟨b0, b1, b2, b3, b4, b5, x35, x36, x37, x38, x39, x40, g5, c5, rfl, rfl, hb, cd0, cd1, cd2, cd3, cd4, cd5, wf3⟩ hf hd
          have hf' : b2 = false := hf
          subst hf'
          clear hf hd
          try simp only [List.setIfInBounds_toArray, List.set_cons_zero, List.set_cons_succ]
          intro K hK
          rw [if_pos (by rfl)]
          go_simp
          exact hK.out _ _ ⟨b0, b1, true, b3, b4, b5, x35, x36, (.slice ao3 n c3), x38, x39, x40, g5, c5, (by simp only [Act.put, List.setIfInBounds_toArray, List.set_cons_zero, List.set_cons_succ]), (by simp only [Act.put, List.setIfInBounds_toArray, List.set_cons_zero, List.set_cons_succ]), hb, cd0, cd1, (fun _ => rfl), cd3, cd4, cd5, wf3⟩
        · rintro L a w ⟨b0, b1, b2, b3, b4, b5, x35, x36, x37, x38, x39, x40, g5, c5, rfl, rfl, hb, cd0, cd1, cd2, cd3, cd4, cd5, wf3⟩ hf hd
          have hf' : b3 = false := hf
          subst hf'
          have d2 : b2 = true := hd ⟨2, .data⟩ (by simp) rfl
          subst d2
          obtain rfl := cd2.out rfl
          clear hf hd
          try simp only [List.setIfInBounds_toArray, List.set_cons_zero, List.set_cons_succ]
          intro K hK
          rw [if_pos (by rfl)]
          go_simp
          go_at_call 12
          refine (HRB _ _ _ (hL.past hb)).mono ?_
          rintro e w2 ⟨g', c', rfl, o2, bx, q2⟩
          exact hK.out _ _ ⟨b0, b1, true, true, b4, b5, x35, x36, .slice ao3 n c3, (.slice (some ⟨(g'), 0, none⟩) m (c')), x39, x40, g', c', (by simp only [Act.put, List.setIfInBounds_toArray, List.set_cons_zero, List.set_cons_succ]), (by simp only [Act.put, List.setIfInBounds_toArray, List.set_cons_zero, List.set_cons_succ]), hb.trans (bx.mono hb.size), cd0, cd1, (fun _ => rfl), (fun _ => rfl), cd4, cd5, (fun _ => o2.isB)⟩
        · rintro L a w ⟨b0, b1, b2, b3, b4, b5, x35, x36, x37, x38, x39, x40, g5, c5, rfl, rfl, hb, cd0, cd1, cd2, cd3, cd4, cd5, wf3⟩ hf hd
          have hf' : b4 = false := hf
          subst hf'
          have d3 : b3 = true := hd ⟨3, .data⟩ (by simp) rfl
          subst d3
          obtain rfl := cd3.out rfl
          clear hf hd
          have W3 := wf3.out rfl
          try simp only [List.setIfInBounds_toArray, List.set_cons_zero, List.set_cons_succ]
          have cv := W3.conv byteTy Try.underlying9
          intro K hK
          rw [if_pos (by rfl)]
          go_simp
          exact hK.out _ _ ⟨b0, b1, b2, true, true, b5, x35, x36, x37, .slice (some ⟨g5, 0, none⟩) m c5, (.string ⟨RA.toArray⟩), x40, g5, c5, (by simp only [Act.put, List.setIfInBounds_toArray, List.set_cons_zero, List.set_cons_succ]), (by simp only [Act.put, List.setIfInBounds_toArray, List.set_cons_zero, List.set_cons_succ]), hb, cd0, cd1, cd2, (fun _ => rfl), (fun _ => rfl), cd5, wf3⟩
        · rintro L a w ⟨b0, b1, b2, b3, b4, b5, x35, x36, x37, x38, x39, x40, g5, c5, rfl, rfl, hb, cd0, cd1, cd2, cd3, cd4, cd5, wf3⟩ hf hd
          have hf' : b5 = false := hf
          subst hf'
          have d1 : b1 = true := hd ⟨1, .data⟩ (by simp) rfl
          subst d1
          have d4 : b4 = true := hd ⟨4, .data⟩ (by simp) rfl
          subst d4
          obtain rfl := cd1.out rfl
          obtain rfl := cd4.out rfl
          clear hf hd
          try simp only [List.setIfInBounds_toArray, List.set_cons_zero, List.set_cons_succ]
          intro K hK
          rw [if_pos (by rfl)]
          go_simp
          exact hK.out _ _ ⟨b0, true, b2, b3, true, true, x35, .string ⟨RA.toArray⟩, x37, x38, .string ⟨RA.toArray⟩, (.bool false), g5, c5, (by simp only [Act.put, List.setIfInBounds_toArray, List.set_cons_zero, List.set_cons_succ]), (by simp only [Act.put, List.setIfInBounds_toArray, List.set_cons_zero, List.set_cons_succ]), hb, cd0, (fun _ => rfl), cd2, cd3, (fun _ => rfl), (fun _ => rfl), wf3⟩
      · rintro a w ⟨b0, b1, b2, b3, b4, b5, x35, x36, x37, x38, x39, x40, g5, c5, hL, rfl, hb, cd0, cd1, cd2, cd3, cd4, cd5, wf3⟩
        have hL' : [true, true, true, true, true, true] = [b0, b1, b2, b3, b4, b5] := congrArg Array.toList hL
        simp only [List.cons.injEq, and_true] at hL'
        obtain ⟨rfl, rfl, rfl, rfl, rfl, rfl⟩ := hL'
        obtain rfl := cd0.out rfl
        obtain rfl := cd1.out rfl
        obtain rfl := cd2.out rfl
        obtain rfl := cd3.out rfl
        obtain rfl := cd4.out rfl
        obtain rfl := cd5.out rfl
        have W3 := wf3.out rfl
        clear hL
        simp only [List.setIfInBounds_toArray, List.set_cons_zero, List.set_cons_succ]
        have B5 := B4.drew.trans (hb.mono B4.drew.size)
        have o5 := (o4.below (Below.refl w4.heap.size w4).drew o4.lt).below hb (by exact o4.lt)
        go_upto_block 0 with (at_builtin; refine wpList_append_ob rfl _ _ 24 24 rfl 5 byteTy _ 0 0 [] rfl (own_empty _) _ rfl m RA ((o5.isB.alloc _).src byteTy.ht) m (Nat.zero_add _) RA rfl (by omega) ?_; intro g6 c6 w6 o6 p6 q6; have B6 := B5.trans ((below_puts (Below.refl _ w) p6 (Nat.le_refl _)).mono B5.size))
        have i6 := o5.isB.past (below_puts (Below.refl _ w) p6 (Nat.le_refl _))
        have hne : g4 ≠ g6 := (by have := o5.lt; have := ge_new q6; omega)
        have G6 : W.heap.size ≤ g6 := Nat.le_trans B5.size (ge_new q6)
        clear o5 p6 q6 B5 o4 i4 hO hL b4 b3 b2 b1 B2 B3 B4 hr3 i3
        go_cut [13] from 44 to 75 (fun v wx => ∃ D : List UInt8, v = .slice (some ⟨g6, 0, none⟩) m c6 ∧ OwnB wx 5 g6 m c6 D ∧ IsB wx (some ⟨g4, 0, none⟩) m c4 RA ∧ Below W.heap.size W wx)
        case first =>
          go_wp2_with fail
          go_loopw [14] (fun i wr => ∃ (j : Nat) (D : List UInt8), j ≤ 3 ∧ i = .int .i64 (j : Nat) ∧ OwnB wr 5 g6 m c6 D ∧ IsB wr (some ⟨g4, 0, none⟩) m c4 RA ∧ Below W.heap.size W wr) (fun i _ => 3 - (intOf i).toNat)
          case atStart => exact ⟨0, RA, by omega, rfl, o6, i6, B6⟩
          case round =>
            obtain ⟨j, D, hj, rfl, hD, hG, hB⟩ := hrel
            clear o6 i6 B6
            by_cases hlt : j < nA ∧ j < nY ∧ j < 3
            · obtain ⟨l1, l2, l3⟩ := hlt
              have j1 : (j : Int) < nA := by omega
              have j2 : (j : Int) < nY := by omega
              have j3 : (j : Int) < 3 := by omega
              obtain ⟨bA, offA, rfl, hbA, hcA⟩ := (hA.past hB).open (by omega) (by decide)
              obtain ⟨x, hx⟩ : ∃ x, lA[j]? = some x := ⟨lA[j]'(by rw [hA.len]; exact l1), List.getElem?_eq_getElem _⟩
              have cA := hcA j (.int .i64 x) (by rw [EI_all, List.getElem?_map, hx]; rfl)
              obtain ⟨bY, offY, rfl, hcY⟩ := IsB_open (hY.past hB) (by omega)
              have cY := hcY j l2
              generalize (lY.getD j 0).toNat = y at cY
              obtain ⟨k, hk, hk2⟩ : ∃ k : Nat, wth x (m : Int) = k ∧ k < m := ⟨(wth x (m : Int)).toNat, by have := wth_lo x (m : Int) (by omega); omega, by have := wth_hi x (m : Int) (by omega); have := wth_lo x (m : Int) (by omega); omega⟩
              have HW : ∀ w, Calls Try.prog 13 #[.int .i64 x, .int .i64 (m : Int)] w fun e w' => e = .returned (.int .i64 (k : Int)) ∧ w' = w := fun w => by
                have := within5_any x (m : Int) w (by omega) (by omega)
                rw [hk] at this
                exact this.mono fun _ _ ⟨a, b⟩ => ⟨a, b.symm⟩
              have hf : wr.frozen? ⟨g6, k, none⟩ = false := by
                obtain ⟨cur, hcur, _⟩ := hD.row
                exact free_blk hcur
              obtain ⟨u, hu⟩ : ∃ u, D[k]? = some u := ⟨D[k]'(by rw [hD.len]; exact hk2), List.getElem?_eq_getElem _⟩
              have cD := hD.cell k u hu
              unfold bc at cD
              clear hcA hcY hx hu
              go_wp2_with fail
              go_still_tail 16, (by kernel_rfl)
              still_call (HW _)
              repeat still_step
              refine wpStill_nil ?_
              change wpList _ _ _ _ _ wr.drew
              go_wp2_with fail
              go_roundw
              case rel =>
                refine ⟨j + 1, D.set k (UInt8.ofNat ((u.toNat + y) % 256)), by omega, by go_num, ?_, ?_, ?_⟩
                · have ev : bc (UInt8.ofNat ((u.toNat + y) % 256)) = .int .u8 (((u.toNat : Int) + (y : Int)) % 256) := by
                    unfold bc
                    rw [UInt8.toNat_ofNat']
                    congr 1
                    omega
                  have e := own_stored hD k (UInt8.ofNat ((u.toNat + y) % 256))
                  rw [ev] at e
                  exact e.below (Below.refl _ _).drew e.lt
                · exact (hG.grown (grown_setCell (i := k) (v := .int .u8 (((u.toNat : Int) + (y : Int)) % 256)) (World.grownBy.refl _ _)) (fun a ha => by cases ha; simpa using hne)).past (Below.refl _ _).drew
                · exact (hB.setCell (p := ⟨g6, k, none⟩) G6 _).drew
              case measure => simp [intOf]; omega
            · have leave : ¬ (j : Int) < nA ∨ ((j : Int) < nA ∧ ¬ (j : Int) < nY) ∨ ((j : Int) < nA ∧ (j : Int) < nY ∧ ¬ (j : Int) < 3) := by omega
              rcases leave with j1 | ⟨j1, j2⟩ | ⟨j1, j2, j3⟩ <;>
              · go_wp2_with fail
                go_meet
                exact ⟨D, rfl, hD, hG, hB⟩
        case rest =>
          obtain ⟨D, rfl, hD, hG, hB⟩ := hcut
          have wr2 := wf_range hcw
          have hc2 : wrap64 (cut.tdiv 2) = cut.tdiv 2 := by
            have t1 : (cut.tdiv 2).natAbs = cut.natAbs / 2 := Int.natAbs_tdiv cut 2
            exact IntWalk.wrap64_in _ (by omega)
          have HW := fun w => within5_any (cut.tdiv 2) ((m : Int) + 1) w (by omega) (by omega)
          obtain ⟨k, hk, hk2⟩ : ∃ k : Nat, wth (cut.tdiv 2) ((m : Int) + 1) = k ∧ k ≤ m := ⟨(wth (cut.tdiv 2) ((m : Int) + 1)).toNat, by have := wth_lo (cut.tdiv 2) ((m : Int) + 1) (by omega); omega, by have := wth_hi (cut.tdiv 2) ((m : Int) + 1) (by omega); have := wth_lo (cut.tdiv 2) ((m : Int) + 1) (by omega); omega⟩
          rw [hk] at HW
          clear hk wr2
          have hle6 := hD.le
          have hkc : (k : Int) ≤ c6 := by omega
          have hD2 := hD.isB
          clear hD
          go_upto_if 78 with fail
          go_cut [13] from 76 to 86 (fun v wx => ∃ (m2 : Nat) (D2 : List UInt8), v = .slice (some ⟨g6, 0, none⟩) m2 c6 ∧ m2 ≤ m ∧ IsB wx (some ⟨g6, 0, none⟩) m2 c6 D2 ∧ IsB wx (some ⟨g4, 0, none⟩) m c4 RA ∧ Below W.heap.size W wx)
          case first =>
            go_wp2_with (go_at_call 13; rw [hc2]; (with_reducible refine (HW _).mono ?_); rintro e w' ⟨rfl, rfl⟩)
            · go_meet
              exact ⟨k, D.take k, rfl, hk2, IsB_take hD2 hk2, hG, hB⟩
            · go_meet
              exact ⟨m, D, rfl, Nat.le_refl _, hD2, hG, hB⟩
          case rest =>
            obtain ⟨m2, D2, rfl, hm2, hD2, hG, hB⟩ := hcut
            clear hc2 HW hk2 hkc hle6
            go_wp2_with (first
              | (at_builtin; refine wpList_append_ob rfl _ _ 24 24 rfl 5 byteTy _ 0 0 [] rfl (own_empty _) _ rfl m RA ((hG.alloc _).src byteTy.ht) m (Nat.zero_add _) RA rfl (by omega) ?_; intro g7 c7 w7 o7 p7 q7; have B7 := below_puts (Below.refl _ wc) p7 (Nat.le_refl _); have C7 := hB.trans (B7.mono hB.size); have R7 := hR.past C7)
              | (at_builtin; refine wpList_append_ob rfl _ _ 24 24 rfl 5 byteTy g7 m c7 RA rfl o7 _ rfl nR raw (R7.src byteTy.ht) (m + nR) rfl _ rfl (by omega) ?_; intro g8 c8 w8 o8 p8 q8))
            have B8 := B7.trans (p8.below (ge_new q7) B7.size)
            have C8 := hB.trans (B8.mono hB.size)
            have R8 := hR.past C8
            have G8 := hG.past B8
            have D8 := hD2.past B8
            have hP := isP_lit w8 24 #[.slice (some ⟨g4, 0, none⟩) m c4, .slice (some ⟨g6, 0, none⟩) m2 c6, .slice (some ⟨g8, 0, none⟩) (m + nR) c8, .slice aoR nR capR] [RA, D2, RA ++ raw, raw] 4 rfl (fun j hj => by
              have hc : j = 0 ∨ j = 1 ∨ j = 2 ∨ j = 3 := by omega
              rcases hc with rfl | rfl | rfl | rfl
              · exact ⟨_, _, _, rfl, G8⟩
              · exact ⟨_, _, _, rfl, D8⟩
              · exact ⟨_, _, _, rfl, o8.isB⟩
              · exact ⟨_, _, _, rfl, R8⟩)
            have CP := C8.alloc (by exact C8.size) (.cells #[.slice (some ⟨g4, 0, none⟩) m c4, .slice (some ⟨g6, 0, none⟩) m2 c6, .slice (some ⟨g8, 0, none⟩) (m + nR) c8, .slice aoR nR capR] 24)
            have hps : Hid (∀ j, j < 4 → ([RA, D2, RA ++ raw, raw].getD j []).length ≤ 1000000) := fun j hj => by
              have l1 := G8.len
              have l2 := D8.len
              have l3 := R8.len
              have hc : j = 0 ∨ j = 1 ∨ j = 2 ∨ j = 3 := by omega
              rcases hc with rfl | rfl | rfl | rfl <;> simp [List.getD] <;> omega
            have hp0 : Hid (parE ([RA, D2, RA ++ raw, raw].getD 0 []) = 0 ↔ n ≤ 6) := by
              have := enc_par LA okA.out (by rw [hlA.out]; exact hn)
              rw [hlA.out, ← hRA'.out] at this
              exact this
            generalize [RA, D2, RA ++ raw, raw] = ps at hP hps hp0
            generalize w8.alloc (.cells #[.slice (some ⟨g4, 0, none⟩) m c4, .slice (some ⟨g6, 0, none⟩) m2 c6, .slice (some ⟨g8, 0, none⟩) (m + nR) c8, .slice aoR nR capR] 24) = wP at hP CP ⊢
            generalize w8.heap.size = gP at hP ⊢
            clear B8 C8 R8 G8 D8 o7 o8 p7 p8 q7 q8 B7 C7 R7 hD2 hG hB
            go_loopw [16] (fun i wr => ∃ j : Nat, j ≤ 4 ∧ i = .int .i64 (j : Nat) ∧ IsP wr (some ⟨gP, 0, none⟩) 4 ps ∧ Below W.heap.size W wr) (fun i _ => 4 - (intOf i).toNat)
            case atStart => exact ⟨0, by omega, rfl, hP, CP⟩
            case round =>
              obtain ⟨j, hj, rfl, hQ, hB⟩ := hrel
              clear hP CP
              by_cases hlt : j < 4
              · have j1 : (j : Int) < 4 := by omega
                obtain ⟨bo, bn, bc, hcl, hb⟩ := hQ.cell _ rfl j hlt
                rw [Addr.add_lit, Nat.zero_add] at hcl
                have hlen := hps.out j hlt
                have hz : Hid (j = 0 → (parE (ps.getD j []) = 0 ↔ n ≤ 6)) := fun e => by subst e; exact hp0.out
                have hpe := par_enc (ps.getD j [])
                rw [hb.len] at hlen
                have hPA := fun (g c : Nat) (w : World) (h : IsB w (some ⟨g, 0, none⟩) bn c (ps.getD j [])) => parse_any _ _ _ _ w h hlen
                have hRP := fun (w : World) (h : IsB w bo bn bc (ps.getD j [])) => rparse_any _ _ _ _ w h hlen
                generalize parE (ps.getD j []) = E at hz hpe hPA hRP
                generalize parV (ps.getD j []) = VS at hpe hPA hRP
                generalize ps.getD j [] = B at hb hpe hPA hRP
                have hca := cell_on hcl ((Below.refl wr.heap.size wr).alloc (Nat.le_refl _) (.cells #[] 5))
                have hES : eqVs VS VS = true := (eqVs_iff VS VS).2 rfl
                by_cases hE0 : E = 0
                · subst hE0
                  obtain ⟨heq, hv6⟩ := hpe rfl
                  have HBY := fun (ao' : Option Addr) (n' c' : Nat) (w' : World) (h' : IsR EV w' ao' n' c' VS) => bytes_any ao' n' c' VS w' h' (by have := h'.len; omega)
                  rw [heq, hb.len] at HBY
                  clear heq hpe
                  by_cases j0 : j = 0
                  · subst j0
                    have n6 : (n : Int) ≤ 6 := by have := hz.out rfl; omega
                    go_wp2_with (first
                      | (at_builtin; refine wpList_append_ob rfl _ _ 24 24 rfl 5 byteTy _ 0 0 [] rfl (own_empty _) _ rfl bn B ((hb.alloc _).src byteTy.ht) bn (Nat.zero_add _) B rfl (by omega) ?_; intro g9 c9 w9 o9 p9 q9; have b9 := below_puts (Below.refl _ wr) p9 (Nat.le_refl _))
                      | (go_at_call 14; (with_reducible refine (hPA _ _ w9 o9.isB).mono ?_); rintro e w10 ⟨ao1, n1, cap1, rfl, x1, b10, -⟩; have B10 := b9.trans (b10.mono b9.size); have hc10 := cell_on hcl B10; have hb10 := hb.past B10)
                      | (go_at_call 15; (with_reducible refine (hRP w10 hb10).mono ?_); rintro e w11 ⟨ao2, n2, cap2, rfl, x2, b11, -⟩; have x3 := x1.past b11; have B11 := B10.trans (b11.mono B10.size))
                      | (go_at_call 16; (with_reducible refine (same_any _ _ _ _ _ _ _ _ _ x3 x2).mono ?_); rw [hES]; rintro e w12 ⟨rfl, b12⟩; have B12 := B11.trans (b12.mono B11.size); have x4 := x3.past b12))
                    have hcx : w12.drew.cell? ⟨gP, 0, none⟩ = some (.slice bo bn bc) := cell_on hcl B12.drew
                    have x5 := x4.drew
                    have hb5 : IsB w12.drew bo bn bc B := hb.past B12.drew
                    refine region_inv (RBytes24a gP ao1 n1 cap1 bo bn bc B) (by kernel_rfl) (by kernel_rfl) ?_ ?_ ?_
                    · exact ⟨false, false, false, false, false, false, false, false, false, false, false, false, false, u139, u140, u141, u142, u143, u144, u145, u146, u147, u148, u149, u150, u151, 0, 0, rfl, (by simp only [Act.put, List.setIfInBounds_toArray, List.set_cons_zero, List.set_cons_succ]), Below.refl _ _, (fun h => by cases h), (fun h => by cases h), (fun h => by cases h), (fun h => by cases h), (fun h => by cases h), (fun h => by cases h), (fun h => by cases h), (fun h => by cases h), (fun h => by cases h), (fun h => by cases h), (fun h => by cases h), (fun h => by cases h), (fun h => by cases h), (fun h => by cases h)⟩
                    · refine ⟨?_, ?_, ?_, ?_, ?_, ?_, ?_, ?_, ?_, ?_, ?_, ?_, ?_, trivial⟩
                      · rintro L a w ⟨b0, b1, b2, b3, b4, b5, b6, b7, b8, b9, b10, b11, b12, x139, x140, x141, x142, x143, x144, x145, x146, x147, x148, x149, x150, x151, g5, c5, rfl, rfl, hb, cd0, cd1, cd2, cd3, cd4, cd5, cd6, cd7, cd8, cd9, cd10, cd11, cd12, wf4⟩ hf hd
                        have hf' : b0 = false := hf
                        subst hf'
                        clear hf hd
                        try simp only [List.setIfInBounds_toArray, List.set_cons_zero, List.set_cons_succ]
                        intro K hK
                        rw [if_pos (by rfl)]
                        go_simp
                        exact hK.out _ _ ⟨true, b1, b2, b3, b4, b5, b6, b7, b8, b9, b10, b11, b12, (.int .i64 0), x140, x141, x142, x143, x144, x145, x146, x147, x148, x149, x150, x151, g5, c5, (by simp only [Act.put, List.setIfInBounds_toArray, List.set_cons_zero, List.set_cons_succ]), (by simp only [Act.put, List.setIfInBounds_toArray, List.set_cons_zero, List.set_cons_succ]), hb, (fun _ => rfl), cd1, cd2, cd3, cd4, cd5, cd6, cd7, cd8, cd9, cd10, cd11, cd12, wf4⟩
                      · rintro L a w ⟨b0, b1, b2, b3, b4, b5, b6, b7, b8, b9, b10, b11, b12, x139, x140, x141, x142, x143, x144, x145, x146, x147, x148, x149, x150, x151, g5, c5, rfl, rfl, hb, cd0, cd1, cd2, cd3, cd4, cd5, cd6, cd7, cd8, cd9, cd10, cd11, cd12, wf4⟩ hf hd
                        have hf' : b1 = false := hf
                        subst hf'
                        have d0 : b0 = true := hd ⟨0, .data⟩ (by simp) rfl
                        subst d0
                        obtain rfl := cd0.out rfl
                        clear hf hd
                        try simp only [List.setIfInBounds_toArray, List.set_cons_zero, List.set_cons_succ]
                        intro K hK
                        rw [if_pos (by rfl)]
                        go_simp
                        exact hK.out _ _ ⟨true, true, b2, b3, b4, b5, b6, b7, b8, b9, b10, b11, b12, .int .i64 0, (.bool true), x141, x142, x143, x144, x145, x146, x147, x148, x149, x150, x151, g5, c5, (by simp only [Act.put, List.setIfInBounds_toArray, List.set_cons_zero, List.set_cons_succ]), (by simp only [Act.put, List.setIfInBounds_toArray, List.set_cons_zero, List.set_cons_succ]), hb, (fun _ => rfl), (fun _ => rfl), cd2, cd3, cd4, cd5, cd6, cd7, cd8, cd9, cd10, cd11, cd12, wf4⟩
                      · rintro L a w ⟨b0, b1, b2, b3, b4, b5, b6, b7, b8, b9, b10, b11, b12, x139, x140, x141, x142, x143, x144, x145, x146, x147, x148, x149, x150, x151, g5, c5, rfl, rfl, hb, cd0, cd1, cd2, cd3, cd4, cd5, cd6, cd7, cd8, cd9, cd10, cd11, cd12, wf4⟩ hf hd
                        have hf' : b2 = false := hf
                        subst hf'
                        have d1 : b1 = true := hd ⟨1, .data⟩ (by simp) rfl
                        subst d1
                        obtain rfl := cd1.out rfl
                        clear hf hd
                        try simp only [List.setIfInBounds_toArray, List.set_cons_zero, List.set_cons_succ]
                        intro K hK
                        rw [if_pos (by rfl)]
                        go_simp
                        exact hK.out _ _ ⟨b0, true, true, b3, b4, b5, b6, b7, b8, b9, b10, b11, b12, x139, .bool true, (.bool true), x142, x143, x144, x145, x146, x147, x148, x149, x150, x151, g5, c5, (by simp only [Act.put, List.setIfInBounds_toArray, List.set_cons_zero, List.set_cons_succ]), (by simp only [Act.put, List.setIfInBounds_toArray, List.set_cons_zero, List.set_cons_succ]), hb, cd0, (fun _ => rfl), (fun _ => rfl), cd3, cd4, cd5, cd6, cd7, cd8, cd9, cd10, cd11, cd12, wf4⟩
                      · rintro L a w ⟨b0, b1, b2, b3, b4, b5, b6, b7, b8, b9, b10, b11, b12, x139, x140, x141, x142, x143, x144, x145, x146, x147, x148, x149, x150, x151, g5, c5, rfl, rfl, hb, cd0, cd1, cd2, cd3, cd4, cd5, cd6, cd7, cd8, cd9, cd10, cd11, cd12, wf4⟩ hf hd
                        have hf' : b3 = false := hf
                        subst hf'
                        have d2 : b2 = true := hd ⟨2, .guard⟩ (by simp) rfl
                        subst d2
                        obtain rfl := cd2.out rfl
                        clear hf hd
                        try simp only [List.setIfInBounds_toArray, List.set_cons_zero, List.set_cons_succ]
                        intro K hK
                        rw [if_pos (by rfl)]
                        go_simp
                        exact hK.out _ _ ⟨b0, b1, true, true, b4, b5, b6, b7, b8, b9, b10, b11, b12, x139, x140, .bool true, (.slice ao1 n1 cap1), x143, x144, x145, x146, x147, x148, x149, x150, x151, g5, c5, (by simp only [Act.put, List.setIfInBounds_toArray, List.set_cons_zero, List.set_cons_succ]), (by simp only [Act.put, List.setIfInBounds_toArray, List.set_cons_zero, List.set_cons_succ]), hb, cd0, cd1, (fun _ => rfl), (fun _ => rfl), cd4, cd5, cd6, cd7, cd8, cd9, cd10, cd11, cd12, wf4⟩
                      · rintro L a w ⟨b0, b1, b2, b3, b4, b5, b6, b7, b8, b9, b10, b11, b12, x139, x140, x141, x142, x143, x144, x145, x146, x147, x148, x149, x150, x151, g5, c5, rfl, rfl, hb, cd0, cd1, cd2, cd3, cd4, cd5, cd6, cd7, cd8, cd9, cd10, cd11, cd12, wf4⟩ hf hd
                        have hf' : b4 = false := hf
                        subst hf'
                        have d3 : b3 = true := hd ⟨3, .data⟩ (by simp) rfl
                        subst d3
                        have d2 : b2 = true := hd ⟨2, .chain⟩ (by simp) rfl
                        subst d2
                        obtain rfl := cd3.out rfl
                        obtain rfl := cd2.out rfl
                        clear hf hd
                        try simp only [List.setIfInBounds_toArray, List.set_cons_zero, List.set_cons_succ]
                        intro K hK
                        rw [if_pos (by rfl)]
                        go_simp
                        go_at_call 11
                        refine (HBY _ _ _ _ (x5.past hb)).mono ?_
                        rintro e w2 ⟨g', c', rfl, o2, bx, q2⟩
                        exact hK.out _ _ ⟨b0, b1, true, true, true, b5, b6, b7, b8, b9, b10, b11, b12, x139, x140, .bool true, .slice ao1 n1 cap1, (.slice (some ⟨(g'), 0, none⟩) bn (c')), x144, x145, x146, x147, x148, x149, x150, x151, g', c', (by simp only [Act.put, List.setIfInBounds_toArray, List.set_cons_zero, List.set_cons_succ]), (by simp only [Act.put, List.setIfInBounds_toArray, List.set_cons_zero, List.set_cons_succ]), hb.trans (bx.mono hb.size), cd0, cd1, (fun _ => rfl), (fun _ => rfl), (fun _ => rfl), cd5, cd6, cd7, cd8, cd9, cd10, cd11, cd12, (fun _ => o2.isB)⟩
                      · rintro L a w ⟨b0, b1, b2, b3, b4, b5, b6, b7, b8, b9, b10, b11, b12, x139, x140, x141, x142, x143, x144, x145, x146, x147, x148, x149, x150, x151, g5, c5, rfl, rfl, hb, cd0, cd1, cd2, cd3, cd4, cd5, cd6, cd7, cd8, cd9, cd10, cd11, cd12, wf4⟩ hf hd
                        have hf' : b5 = false := hf
                        subst hf'
                        have d4 : b4 = true := hd ⟨4, .data⟩ (by simp) rfl
                        subst d4
                        have d2 : b2 = true := hd ⟨2, .guard⟩ (by simp) rfl
                        subst d2
                        obtain rfl := cd4.out rfl
                        obtain rfl := cd2.out rfl
                        clear hf hd
                        have W4 := wf4.out rfl
                        try simp only [List.setIfInBounds_toArray, List.set_cons_zero, List.set_cons_succ]
                        have cv := W4.conv byteTy Try.underlying9
                        intro K hK
                        rw [if_pos (by rfl)]
                        go_simp
                        exact hK.out _ _ ⟨b0, b1, true, b3, true, true, b6, b7, b8, b9, b10, b11, b12, x139, x140, .bool true, x142, .slice (some ⟨g5, 0, none⟩) bn c5, (.string ⟨B.toArray⟩), x145, x146, x147, x148, x149, x150, x151, g5, c5, (by simp only [Act.put, List.setIfInBounds_toArray, List.set_cons_zero, List.set_cons_succ]), (by simp only [Act.put, List.setIfInBounds_toArray, List.set_cons_zero, List.set_cons_succ]), hb, cd0, cd1, (fun _ => rfl), cd3, (fun _ => rfl), (fun _ => rfl), cd6, cd7, cd8, cd9, cd10, cd11, cd12, wf4⟩
                      · rintro L a w ⟨b0, b1, b2, b3, b4, b5, b6, b7, b8, b9, b10, b11, b12, x139, x140, x141, x142, x143, x144, x145, x146, x147, x148, x149, x150, x151, g5, c5, rfl, rfl, hb, cd0, cd1, cd2, cd3, cd4, cd5, cd6, cd7, cd8, cd9, cd10, cd11, cd12, wf4⟩ hf hd
                        have hf' : b6 = false := hf
                        subst hf'
                        have d2 : b2 = true := hd ⟨2, .guard⟩ (by simp) rfl
                        subst d2
                        obtain rfl := cd2.out rfl
                        clear hf hd
                        try simp only [List.setIfInBounds_toArray, List.set_cons_zero, List.set_cons_succ]
                        intro K hK
                        rw [if_pos (by rfl)]
                        go_simp
                        exact hK.out _ _ ⟨b0, b1, true, b3, b4, b5, true, b7, b8, b9, b10, b11, b12, x139, x140, .bool true, x142, x143, x144, (.slice (some ⟨gP, 0, none⟩) 4 4), x146, x147, x148, x149, x150, x151, g5, c5, (by simp only [Act.put, List.setIfInBounds_toArray, List.set_cons_zero, List.set_cons_succ]), (by simp only [Act.put, List.setIfInBounds_toArray, List.set_cons_zero, List.set_cons_succ]), hb, cd0, cd1, (fun _ => rfl), cd3, cd4, cd5, (fun _ => rfl), cd7, cd8, cd9, cd10, cd11, cd12, wf4⟩
                      · rintro L a w ⟨b0, b1, b2, b3, b4, b5, b6, b7, b8, b9, b10, b11, b12, x139, x140, x141, x142, x143, x144, x145, x146, x147, x148, x149, x150, x151, g5, c5, rfl, rfl, hb, cd0, cd1, cd2, cd3, cd4, cd5, cd6, cd7, cd8, cd9, cd10, cd11, cd12, wf4⟩ hf hd
                        have hf' : b7 = false := hf
                        subst hf'
                        have d2 : b2 = true := hd ⟨2, .guard⟩ (by simp) rfl
                        subst d2
                        obtain rfl := cd2.out rfl
                        clear hf hd
                        try simp only [List.setIfInBounds_toArray, List.set_cons_zero, List.set_cons_succ]
                        intro K hK
                        rw [if_pos (by rfl)]
                        go_simp
                        exact hK.out _ _ ⟨b0, b1, true, b3, b4, b5, b6, true, b8, b9, b10, b11, b12, x139, x140, .bool true, x142, x143, x144, x145, (.int .i64 0), x147, x148, x149, x150, x151, g5, c5, (by simp only [Act.put, List.setIfInBounds_toArray, List.set_cons_zero, List.set_cons_succ]), (by simp only [Act.put, List.setIfInBounds_toArray, List.set_cons_zero, List.set_cons_succ]), hb, cd0, cd1, (fun _ => rfl), cd3, cd4, cd5, cd6, (fun _ => rfl), cd8, cd9, cd10, cd11, cd12, wf4⟩
                      · rintro L a w ⟨b0, b1, b2, b3, b4, b5, b6, b7, b8, b9, b10, b11, b12, x139, x140, x141, x142, x143, x144, x145, x146, x147, x148, x149, x150, x151, g5, c5, rfl, rfl, hb, cd0, cd1, cd2, cd3, cd4, cd5, cd6, cd7, cd8, cd9, cd10, cd11, cd12, wf4⟩ hf hd
                        have hf' : b8 = false := hf
                        subst hf'
                        have d6 : b6 = true := hd ⟨6, .data⟩ (by simp) rfl
                        subst d6
                        have d7 : b7 = true := hd ⟨7, .data⟩ (by simp) rfl
                        subst d7
                        have d2 : b2 = true := hd ⟨2, .guard⟩ (by simp) rfl
                        subst d2
                        obtain rfl := cd6.out rfl
                        obtain rfl := cd7.out rfl
                        obtain rfl := cd2.out rfl
                        clear hf hd
                        try simp only [List.setIfInBounds_toArray, List.set_cons_zero, List.set_cons_succ]
                        intro K hK
                        rw [if_pos (by rfl)]
                        go_simp
                        exact hK.out _ _ ⟨b0, b1, true, b3, b4, b5, true, true, true, b9, b10, b11, b12, x139, x140, .bool true, x142, x143, x144, .slice (some ⟨gP, 0, none⟩) 4 4, .int .i64 0, (.pointer (some ⟨gP, 0, none⟩)), x148, x149, x150, x151, g5, c5, (by simp only [Act.put, List.setIfInBounds_toArray, List.set_cons_zero, List.set_cons_succ]), (by simp only [Act.put, List.setIfInBounds_toArray, List.set_cons_zero, List.set_cons_succ]), hb, cd0, cd1, (fun _ => rfl), cd3, cd4, cd5, (fun _ => rfl), (fun _ => rfl), (fun _ => rfl), cd9, cd10, cd11, cd12, wf4⟩
                      · rintro L a w ⟨b0, b1, b2, b3, b4, b5, b6, b7, b8, b9, b10, b11, b12, x139, x140, x141, x142, x143, x144, x145, x146, x147, x148, x149, x150, x151, g5, c5, rfl, rfl, hb, cd0, cd1, cd2, cd3, cd4, cd5, cd6, cd7, cd8, cd9, cd10, cd11, cd12, wf4⟩ hf hd
                        have hf' : b9 = false := hf
                        subst hf'
                        have d8 : b8 = true := hd ⟨8, .data⟩ (by simp) rfl
                        subst d8
                        have d2 : b2 = true := hd ⟨2, .guard⟩ (by simp) rfl
                        subst d2
                        obtain rfl := cd8.out rfl
                        obtain rfl := cd2.out rfl
                        clear hf hd
                        try simp only [List.setIfInBounds_toArray, List.set_cons_zero, List.set_cons_succ]
                        have z := cell_on hcx hb
                        intro K hK
                        rw [if_pos (by rfl)]
                        go_simp
                        exact hK.out _ _ ⟨b0, b1, true, b3, b4, b5, b6, b7, true, true, b10, b11, b12, x139, x140, .bool true, x142, x143, x144, x145, x146, .pointer (some ⟨gP, 0, none⟩), (.slice bo bn bc), x149, x150, x151, g5, c5, (by simp only [Act.put, List.setIfInBounds_toArray, List.set_cons_zero, List.set_cons_succ]), (by simp only [Act.put, List.setIfInBounds_toArray, List.set_cons_zero, List.set_cons_succ]), hb, cd0, cd1, (fun _ => rfl), cd3, cd4, cd5, cd6, cd7, (fun _ => rfl), (fun _ => rfl), cd10, cd11, cd12, wf4⟩
                      · rintro L a w ⟨b0, b1, b2, b3, b4, b5, b6, b7, b8, b9, b10, b11, b12, x139, x140, x141, x142, x143, x144, x145, x146, x147, x148, x149, x150, x151, g5, c5, rfl, rfl, hb, cd0, cd1, cd2, cd3, cd4, cd5, cd6, cd7, cd8, cd9, cd10, cd11, cd12, wf4⟩ hf hd
                        have hf' : b10 = false := hf
                        subst hf'
                        have d9 : b9 = true := hd ⟨9, .data⟩ (by simp) rfl
                        subst d9
                        have d2 : b2 = true := hd ⟨2, .guard⟩ (by simp) rfl
                        subst d2
                        obtain rfl := cd9.out rfl
                        obtain rfl := cd2.out rfl
                        clear hf hd
                        try simp only [List.setIfInBounds_toArray, List.set_cons_zero, List.set_cons_succ]
                        have cv := (hb5.past hb).conv byteTy Try.underlying9
                        intro K hK
                        rw [if_pos (by rfl)]
                        go_simp
                        exact hK.out _ _ ⟨b0, b1, true, b3, b4, b5, b6, b7, b8, true, true, b11, b12, x139, x140, .bool true, x142, x143, x144, x145, x146, x147, .slice bo bn bc, (.string ⟨B.toArray⟩), x150, x151, g5, c5, (by simp only [Act.put, List.setIfInBounds_toArray, List.set_cons_zero, List.set_cons_succ]), (by simp only [Act.put, List.setIfInBounds_toArray, List.set_cons_zero, List.set_cons_succ]), hb, cd0, cd1, (fun _ => rfl), cd3, cd4, cd5, cd6, cd7, cd8, (fun _ => rfl), (fun _ => rfl), cd11, cd12, wf4⟩
                      · rintro L a w ⟨b0, b1, b2, b3, b4, b5, b6, b7, b8, b9, b10, b11, b12, x139, x140, x141, x142, x143, x144, x145, x146, x147, x148, x149, x150, x151, g5, c5, rfl, rfl, hb, cd0, cd1, cd2, cd3, cd4, cd5, cd6, cd7, cd8, cd9, cd10, cd11, cd12, wf4⟩ hf hd
                        have hf' : b11 = false := hf
                        subst hf'
                        have d5 : b5 = true := hd ⟨5, .data⟩ (by simp) rfl
                        subst d5
                        have d10 : b10 = true := hd ⟨10, .data⟩ (by simp) rfl
                        subst d10
                        have d2 : b2 = true := hd ⟨2, .guard⟩ (by simp) rfl
                        subst d2
                        obtain rfl := cd5.out rfl
                        obtain rfl := cd10.out rfl
                        obtain rfl := cd2.out rfl
                        clear hf hd
                        try simp only [List.setIfInBounds_toArray, List.set_cons_zero, List.set_cons_succ]
                        intro K hK
                        rw [if_pos (by rfl)]
                        go_simp
                        exact hK.out _ _ ⟨b0, b1, true, b3, b4, true, b6, b7, b8, b9, true, true, b12, x139, x140, .bool true, x142, x143, .string ⟨B.toArray⟩, x145, x146, x147, x148, .string ⟨B.toArray⟩, (.bool false), x151, g5, c5, (by simp only [Act.put, List.setIfInBounds_toArray, List.set_cons_zero, List.set_cons_succ]), (by simp only [Act.put, List.setIfInBounds_toArray, List.set_cons_zero, List.set_cons_succ]), hb, cd0, cd1, (fun _ => rfl), cd3, cd4, (fun _ => rfl), cd6, cd7, cd8, cd9, (fun _ => rfl), (fun _ => rfl), cd12, wf4⟩
                      · rintro L a w ⟨b0, b1, b2, b3, b4, b5, b6, b7, b8, b9, b10, b11, b12, x139, x140, x141, x142, x143, x144, x145, x146, x147, x148, x149, x150, x151, g5, c5, rfl, rfl, hb, cd0, cd1, cd2, cd3, cd4, cd5, cd6, cd7, cd8, cd9, cd10, cd11, cd12, wf4⟩ hf hd
                        have hf' : b12 = false := hf
                        subst hf'
                        have d2 : b2 = true := hd ⟨2, .data⟩ (by simp) rfl
                        subst d2
                        have d11 : b11 = true := hd ⟨11, .data⟩ (by simp) rfl
                        subst d11
                        obtain rfl := cd2.out rfl
                        obtain rfl := cd11.out rfl
                        clear hf hd
                        try simp only [List.setIfInBounds_toArray, List.set_cons_zero, List.set_cons_succ]
                        intro K hK
                        rw [if_pos (by rfl)]
                        go_simp
                        exact hK.out _ _ ⟨b0, b1, true, b3, b4, b5, b6, b7, b8, b9, b10, true, true, x139, x140, .bool true, x142, x143, x144, x145, x146, x147, x148, x149, .bool false, (.bool false), g5, c5, (by simp only [Act.put, List.setIfInBounds_toArray, List.set_cons_zero, List.set_cons_succ]), (by simp only [Act.put, List.setIfInBounds_toArray, List.set_cons_zero, List.set_cons_succ]), hb, cd0, cd1, (fun _ => rfl), cd3, cd4, cd5, cd6, cd7, cd8, cd9, cd10, (fun _ => rfl), (fun _ => rfl), wf4⟩
                    · rintro a w ⟨b0, b1, b2, b3, b4, b5, b6, b7, b8, b9, b10, b11, b12, x139, x140, x141, x142, x143, x144, x145, x146, x147, x148, x149, x150, x151, g5, c5, hL, rfl, hb, cd0, cd1, cd2, cd3, cd4, cd5, cd6, cd7, cd8, cd9, cd10, cd11, cd12, wf4⟩
                      have hL' : [true, true, true, true, true, true, true, true, true, true, true, true, true] = [b0, b1, b2, b3, b4, b5, b6, b7, b8, b9, b10, b11, b12] := congrArg Array.toList hL
                      simp only [List.cons.injEq, and_true] at hL'
                      obtain ⟨rfl, rfl, rfl, rfl, rfl, rfl, rfl, rfl, rfl, rfl, rfl, rfl, rfl⟩ := hL'
                      obtain rfl := cd0.out rfl
                      obtain rfl := cd1.out rfl
                      obtain rfl := cd2.out rfl
                      obtain rfl := cd3.out rfl
                      obtain rfl := cd4.out rfl
                      obtain rfl := cd5.out rfl
                      obtain rfl := cd6.out rfl
                      obtain rfl := cd7.out rfl
                      obtain rfl := cd8.out rfl
                      obtain rfl := cd9.out rfl
                      obtain rfl := cd10.out rfl
                      obtain rfl := cd11.out rfl
                      obtain rfl := cd12.out rfl
                      have W4 := wf4.out rfl
                      clear hL
                      simp only [List.setIfInBounds_toArray, List.set_cons_zero, List.set_cons_succ]
                      have BE := B12.drew.trans (hb.mono B12.drew.size)
                      go_wp2_with fail
                      go_roundw
                      case rel => exact ⟨0 + 1, by omega, by go_num, hQ.past BE, hB.trans (BE.mono hB.size)⟩
                      case measure => simp [intOf]
                  · have j0' : ¬ ((j : Int) = 0) := by omega
                    go_wp2_with (first
                      | (at_builtin; refine wpList_append_ob rfl _ _ 24 24 rfl 5 byteTy _ 0 0 [] rfl (own_empty _) _ rfl bn B ((hb.alloc _).src byteTy.ht) bn (Nat.zero_add _) B rfl (by omega) ?_; intro g9 c9 w9 o9 p9 q9; have b9 := below_puts (Below.refl _ wr) p9 (Nat.le_refl _))
                      | (go_at_call 14; (with_reducible refine (hPA _ _ w9 o9.isB).mono ?_); rintro e w10 ⟨ao1, n1, cap1, rfl, x1, b10, -⟩; have B10 := b9.trans (b10.mono b9.size); have hc10 := cell_on hcl B10; have hb10 := hb.past B10)
                      | (go_at_call 15; (with_reducible refine (hRP w10 hb10).mono ?_); rintro e w11 ⟨ao2, n2, cap2, rfl, x2, b11, -⟩; have x3 := x1.past b11; have B11 := B10.trans (b11.mono B10.size))
                      | (go_at_call 16; (with_reducible refine (same_any _ _ _ _ _ _ _ _ _ x3 x2).mono ?_); rw [hES]; rintro e w12 ⟨rfl, b12⟩; have B12 := B11.trans (b12.mono B11.size); have x4 := x3.past b12))
                    have hcx : w12.drew.cell? ⟨gP, j, none⟩ = some (.slice bo bn bc) := cell_on hcl B12.drew
                    have x5 := x4.drew
                    have hb5 : IsB w12.drew bo bn bc B := hb.past B12.drew
                    refine region_inv (RBytes24 gP j ao1 n1 cap1 bo bn bc B) (by kernel_rfl) (by kernel_rfl) ?_ ?_ ?_
                    · exact ⟨false, false, false, false, false, false, false, false, false, false, false, false, false, u139, u140, u141, u142, u143, u144, u145, u146, u147, u148, u149, u150, u151, 0, 0, rfl, (by simp only [Act.put, List.setIfInBounds_toArray, List.set_cons_zero, List.set_cons_succ]), Below.refl _ _, (fun h => by cases h), (fun h => by cases h), (fun h => by cases h), (fun h => by cases h), (fun h => by cases h), (fun h => by cases h), (fun h => by cases h), (fun h => by cases h), (fun h => by cases h), (fun h => by cases h), (fun h => by cases h), (fun h => by cases h), (fun h => by cases h), (fun h => by cases h)⟩
                    · refine ⟨?_, ?_, ?_, ?_, ?_, ?_, ?_, ?_, ?_, ?_, ?_, ?_, ?_, trivial⟩
                      · rintro L a w ⟨b0, b1, b2, b3, b4, b5, b6, b7, b8, b9, b10, b11, b12, x139, x140, x141, x142, x143, x144, x145, x146, x147, x148, x149, x150, x151, g5, c5, rfl, rfl, hb, cd0, cd1, cd2, cd3, cd4, cd5, cd6, cd7, cd8, cd9, cd10, cd11, cd12, wf4⟩ hf hd
                        have hf' : b0 = false := hf
                        subst hf'
                        clear hf hd
                        try simp only [List.setIfInBounds_toArray, List.set_cons_zero, List.set_cons_succ]
                        intro K hK
                        rw [if_pos (by rfl)]
                        go_simp
                        exact hK.out _ _ ⟨true, b1, b2, b3, b4, b5, b6, b7, b8, b9, b10, b11, b12, (.int .i64 0), x140, x141, x142, x143, x144, x145, x146, x147, x148, x149, x150, x151, g5, c5, (by simp only [Act.put, List.setIfInBounds_toArray, List.set_cons_zero, List.set_cons_succ]), (by simp only [Act.put, List.setIfInBounds_toArray, List.set_cons_zero, List.set_cons_succ]), hb, (fun _ => rfl), cd1, cd2, cd3, cd4, cd5, cd6, cd7, cd8, cd9, cd10, cd11, cd12, wf4⟩
                      · rintro L a w ⟨b0, b1, b2, b3, b4, b5, b6, b7, b8, b9, b10, b11, b12, x139, x140, x141, x142, x143, x144, x145, x146, x147, x148, x149, x150, x151, g5, c5, rfl, rfl, hb, cd0, cd1, cd2, cd3, cd4, cd5, cd6, cd7, cd8, cd9, cd10, cd11, cd12, wf4⟩ hf hd
                        have hf' : b1 = false := hf
                        subst hf'
                        have d0 : b0 = true := hd ⟨0, .data⟩ (by simp) rfl
                        subst d0
                        obtain rfl := cd0.out rfl
                        clear hf hd
                        try simp only [List.setIfInBounds_toArray, List.set_cons_zero, List.set_cons_succ]
                        intro K hK
                        rw [if_pos (by rfl)]
                        go_simp
                        exact hK.out _ _ ⟨true, true, b2, b3, b4, b5, b6, b7, b8, b9, b10, b11, b12, .int .i64 0, (.bool true), x141, x142, x143, x144, x145, x146, x147, x148, x149, x150, x151, g5, c5, (by simp only [Act.put, List.setIfInBounds_toArray, List.set_cons_zero, List.set_cons_succ]), (by simp only [Act.put, List.setIfInBounds_toArray, List.set_cons_zero, List.set_cons_succ]), hb, (fun _ => rfl), (fun _ => rfl), cd2, cd3, cd4, cd5, cd6, cd7, cd8, cd9, cd10, cd11, cd12, wf4⟩
                      · rintro L a w ⟨b0, b1, b2, b3, b4, b5, b6, b7, b8, b9, b10, b11, b12, x139, x140, x141, x142, x143, x144, x145, x146, x147, x148, x149, x150, x151, g5, c5, rfl, rfl, hb, cd0, cd1, cd2, cd3, cd4, cd5, cd6, cd7, cd8, cd9, cd10, cd11, cd12, wf4⟩ hf hd
                        have hf' : b2 = false := hf
                        subst hf'
                        have d1 : b1 = true := hd ⟨1, .data⟩ (by simp) rfl
                        subst d1
                        obtain rfl := cd1.out rfl
                        clear hf hd
                        try simp only [List.setIfInBounds_toArray, List.set_cons_zero, List.set_cons_succ]
                        intro K hK
                        rw [if_pos (by rfl)]
                        go_simp
                        exact hK.out _ _ ⟨b0, true, true, b3, b4, b5, b6, b7, b8, b9, b10, b11, b12, x139, .bool true, (.bool true), x142, x143, x144, x145, x146, x147, x148, x149, x150, x151, g5, c5, (by simp only [Act.put, List.setIfInBounds_toArray, List.set_cons_zero, List.set_cons_succ]), (by simp only [Act.put, List.setIfInBounds_toArray, List.set_cons_zero, List.set_cons_succ]), hb, cd0, (fun _ => rfl), (fun _ => rfl), cd3, cd4, cd5, cd6, cd7, cd8, cd9, cd10, cd11, cd12, wf4⟩
                      · rintro L a w ⟨b0, b1, b2, b3, b4, b5, b6, b7, b8, b9, b10, b11, b12, x139, x140, x141, x142, x143, x144, x145, x146, x147, x148, x149, x150, x151, g5, c5, rfl, rfl, hb, cd0, cd1, cd2, cd3, cd4, cd5, cd6, cd7, cd8, cd9, cd10, cd11, cd12, wf4⟩ hf hd
                        have hf' : b3 = false := hf
                        subst hf'
                        have d2 : b2 = true := hd ⟨2, .guard⟩ (by simp) rfl
                        subst d2
                        obtain rfl := cd2.out rfl
                        clear hf hd
                        try simp only [List.setIfInBounds_toArray, List.set_cons_zero, List.set_cons_succ]
                        intro K hK
                        rw [if_pos (by rfl)]
                        go_simp
                        exact hK.out _ _ ⟨b0, b1, true, true, b4, b5, b6, b7, b8, b9, b10, b11, b12, x139, x140, .bool true, (.slice ao1 n1 cap1), x143, x144, x145, x146, x147, x148, x149, x150, x151, g5, c5, (by simp only [Act.put, List.setIfInBounds_toArray, List.set_cons_zero, List.set_cons_succ]), (by simp only [Act.put, List.setIfInBounds_toArray, List.set_cons_zero, List.set_cons_succ]), hb, cd0, cd1, (fun _ => rfl), (fun _ => rfl), cd4, cd5, cd6, cd7, cd8, cd9, cd10, cd11, cd12, wf4⟩
                      · rintro L a w ⟨b0, b1, b2, b3, b4, b5, b6, b7, b8, b9, b10, b11, b12, x139, x140, x141, x142, x143, x144, x145, x146, x147, x148, x149, x150, x151, g5, c5, rfl, rfl, hb, cd0, cd1, cd2, cd3, cd4, cd5, cd6, cd7, cd8, cd9, cd10, cd11, cd12, wf4⟩ hf hd
                        have hf' : b4 = false := hf
                        subst hf'
                        have d3 : b3 = true := hd ⟨3, .data⟩ (by simp) rfl
                        subst d3
                        have d2 : b2 = true := hd ⟨2, .chain⟩ (by simp) rfl
                        subst d2
                        obtain rfl := cd3.out rfl
                        obtain rfl := cd2.out rfl
                        clear hf hd
                        try simp only [List.setIfInBounds_toArray, List.set_cons_zero, List.set_cons_succ]
                        intro K hK
                        rw [if_pos (by rfl)]
                        go_simp
                        go_at_call 11
                        refine (HBY _ _ _ _ (x5.past hb)).mono ?_
                        rintro e w2 ⟨g', c', rfl, o2, bx, q2⟩
                        exact hK.out _ _ ⟨b0, b1, true, true, true, b5, b6, b7, b8, b9, b10, b11, b12, x139, x140, .bool true, .slice ao1 n1 cap1, (.slice (some ⟨(g'), 0, none⟩) bn (c')), x144, x145, x146, x147, x148, x149, x150, x151, g', c', (by simp only [Act.put, List.setIfInBounds_toArray, List.set_cons_zero, List.set_cons_succ]), (by simp only [Act.put, List.setIfInBounds_toArray, List.set_cons_zero, List.set_cons_succ]), hb.trans (bx.mono hb.size), cd0, cd1, (fun _ => rfl), (fun _ => rfl), (fun _ => rfl), cd5, cd6, cd7, cd8, cd9, cd10, cd11, cd12, (fun _ => o2.isB)⟩
                      · rintro L a w ⟨b0, b1, b2, b3, b4, b5, b6, b7, b8, b9, b10, b11, b12, x139, x140, x141, x142, x143, x144, x145, x146, x147, x148, x149, x150, x151, g5, c5, rfl, rfl, hb, cd0, cd1, cd2, cd3, cd4, cd5, cd6, cd7, cd8, cd9, cd10, cd11, cd12, wf4⟩ hf hd
                        have hf' : b5 = false := hf
                        subst hf'
                        have d4 : b4 = true := hd ⟨4, .data⟩ (by simp) rfl
                        subst d4
                        have d2 : b2 = true := hd ⟨2, .guard⟩ (by simp) rfl
                        subst d2
                        obtain rfl := cd4.out rfl
                        obtain rfl := cd2.out rfl
                        clear hf hd
                        have W4 := wf4.out rfl
                        try simp only [List.setIfInBounds_toArray, List.set_cons_zero, List.set_cons_succ]
                        have cv := W4.conv byteTy Try.underlying9
                        intro K hK
                        rw [if_pos (by rfl)]
                        go_simp
                        exact hK.out _ _ ⟨b0, b1, true, b3, true, true, b6, b7, b8, b9, b10, b11, b12, x139, x140, .bool true, x142, .slice (some ⟨g5, 0, none⟩) bn c5, (.string ⟨B.toArray⟩), x145, x146, x147, x148, x149, x150, x151, g5, c5, (by simp only [Act.put, List.setIfInBounds_toArray, List.set_cons_zero, List.set_cons_succ]), (by simp only [Act.put, List.setIfInBounds_toArray, List.set_cons_zero, List.set_cons_succ]), hb, cd0, cd1, (fun _ => rfl), cd3, (fun _ => rfl), (fun _ => rfl), cd6, cd7, cd8, cd9, cd10, cd11, cd12, wf4⟩
                      · rintro L a w ⟨b0, b1, b2, b3, b4, b5, b6, b7, b8, b9, b10, b11, b12, x139, x140, x141, x142, x143, x144, x145, x146, x147, x148, x149, x150, x151, g5, c5, rfl, rfl, hb, cd0, cd1, cd2, cd3, cd4, cd5, cd6, cd7, cd8, cd9, cd10, cd11, cd12, wf4⟩ hf hd
                        have hf' : b6 = false := hf
                        subst hf'
                        have d2 : b2 = true := hd ⟨2, .guard⟩ (by simp) rfl
                        subst d2
                        obtain rfl := cd2.out rfl
                        clear hf hd
                        try simp only [List.setIfInBounds_toArray, List.set_cons_zero, List.set_cons_succ]
                        intro K hK
                        rw [if_pos (by rfl)]
                        go_simp
                        exact hK.out _ _ ⟨b0, b1, true, b3, b4, b5, true, b7, b8, b9, b10, b11, b12, x139, x140, .bool true, x142, x143, x144, (.slice (some ⟨gP, 0, none⟩) 4 4), x146, x147, x148, x149, x150, x151, g5, c5, (by simp only [Act.put, List.setIfInBounds_toArray, List.set_cons_zero, List.set_cons_succ]), (by simp only [Act.put, List.setIfInBounds_toArray, List.set_cons_zero, List.set_cons_succ]), hb, cd0, cd1, (fun _ => rfl), cd3, cd4, cd5, (fun _ => rfl), cd7, cd8, cd9, cd10, cd11, cd12, wf4⟩
                      · rintro L a w ⟨b0, b1, b2, b3, b4, b5, b6, b7, b8, b9, b10, b11, b12, x139, x140, x141, x142, x143, x144, x145, x146, x147, x148, x149, x150, x151, g5, c5, rfl, rfl, hb, cd0, cd1, cd2, cd3, cd4, cd5, cd6, cd7, cd8, cd9, cd10, cd11, cd12, wf4⟩ hf hd
                        have hf' : b7 = false := hf
                        subst hf'
                        have d2 : b2 = true := hd ⟨2, .guard⟩ (by simp) rfl
                        subst d2
                        obtain rfl := cd2.out rfl
                        clear hf hd
                        try simp only [List.setIfInBounds_toArray, List.set_cons_zero, List.set_cons_succ]
                        intro K hK
                        rw [if_pos (by rfl)]
                        go_simp
                        exact hK.out _ _ ⟨b0, b1, true, b3, b4, b5, b6, true, b8, b9, b10, b11, b12, x139, x140, .bool true, x142, x143, x144, x145, (.int .i64 (j : Nat)), x147, x148, x149, x150, x151, g5, c5, (by simp only [Act.put, List.setIfInBounds_toArray, List.set_cons_zero, List.set_cons_succ]), (by simp only [Act.put, List.setIfInBounds_toArray, List.set_cons_zero, List.set_cons_succ]), hb, cd0, cd1, (fun _ => rfl), cd3, cd4, cd5, cd6, (fun _ => rfl), cd8, cd9, cd10, cd11, cd12, wf4⟩
                      · rintro L a w ⟨b0, b1, b2, b3, b4, b5, b6, b7, b8, b9, b10, b11, b12, x139, x140, x141, x142, x143, x144, x145, x146, x147, x148, x149, x150, x151, g5, c5, rfl, rfl, hb, cd0, cd1, cd2, cd3, cd4, cd5, cd6, cd7, cd8, cd9, cd10, cd11, cd12, wf4⟩ hf hd
                        have hf' : b8 = false := hf
                        subst hf'
                        have d6 : b6 = true := hd ⟨6, .data⟩ (by simp) rfl
                        subst d6
                        have d7 : b7 = true := hd ⟨7, .data⟩ (by simp) rfl
                        subst d7
                        have d2 : b2 = true := hd ⟨2, .guard⟩ (by simp) rfl
                        subst d2
                        obtain rfl := cd6.out rfl
                        obtain rfl := cd7.out rfl
                        obtain rfl := cd2.out rfl
                        clear hf hd
                        try simp only [List.setIfInBounds_toArray, List.set_cons_zero, List.set_cons_succ]
                        intro K hK
                        rw [if_pos (by rfl)]
                        go_simp
                        exact hK.out _ _ ⟨b0, b1, true, b3, b4, b5, true, true, true, b9, b10, b11, b12, x139, x140, .bool true, x142, x143, x144, .slice (some ⟨gP, 0, none⟩) 4 4, .int .i64 (j : Nat), (.pointer (some ⟨gP, j, none⟩)), x148, x149, x150, x151, g5, c5, (by simp only [Act.put, List.setIfInBounds_toArray, List.set_cons_zero, List.set_cons_succ]), (by simp only [Act.put, List.setIfInBounds_toArray, List.set_cons_zero, List.set_cons_succ]), hb, cd0, cd1, (fun _ => rfl), cd3, cd4, cd5, (fun _ => rfl), (fun _ => rfl), (fun _ => rfl), cd9, cd10, cd11, cd12, wf4⟩
                      · rintro L a w ⟨b0, b1, b2, b3, b4, b5, b6, b7, b8, b9, b10, b11, b12, x139, x140, x141, x142, x143, x144, x145, x146, x147, x148, x149, x150, x151, g5, c5, rfl, rfl, hb, cd0, cd1, cd2, cd3, cd4, cd5, cd6, cd7, cd8, cd9, cd10, cd11, cd12, wf4⟩ hf hd
                        have hf' : b9 = false := hf
                        subst hf'
                        have d8 : b8 = true := hd ⟨8, .data⟩ (by simp) rfl
                        subst d8
                        have d2 : b2 = true := hd ⟨2, .guard⟩ (by simp) rfl
                        subst d2
                        obtain rfl := cd8.out rfl
                        obtain rfl := cd2.out rfl
                        clear hf hd
                        try simp only [List.setIfInBounds_toArray, List.set_cons_zero, List.set_cons_succ]
                        have z := cell_on hcx hb
                        intro K hK
                        rw [if_pos (by rfl)]
                        go_simp
                        exact hK.out _ _ ⟨b0, b1, true, b3, b4, b5, b6, b7, true, true, b10, b11, b12, x139, x140, .bool true, x142, x143, x144, x145, x146, .pointer (some ⟨gP, j, none⟩), (.slice bo bn bc), x149, x150, x151, g5, c5, (by simp only [Act.put, List.setIfInBounds_toArray, List.set_cons_zero, List.set_cons_succ]), (by simp only [Act.put, List.setIfInBounds_toArray, List.set_cons_zero, List.set_cons_succ]), hb, cd0, cd1, (fun _ => rfl), cd3, cd4, cd5, cd6, cd7, (fun _ => rfl), (fun _ => rfl), cd10, cd11, cd12, wf4⟩
                      · rintro L a w ⟨b0, b1, b2, b3, b4, b5, b6, b7, b8, b9, b10, b11, b12, x139, x140, x141, x142, x143, x144, x145, x146, x147, x148, x149, x150, x151, g5, c5, rfl, rfl, hb, cd0, cd1, cd2, cd3, cd4, cd5, cd6, cd7, cd8, cd9, cd10, cd11, cd12, wf4⟩ hf hd
                        have hf' : b10 = false := hf
                        subst hf'
                        have d9 : b9 = true := hd ⟨9, .data⟩ (by simp) rfl
                        subst d9
                        have d2 : b2 = true := hd ⟨2, .guard⟩ (by simp) rfl
                        subst d2
                        obtain rfl := cd9.out rfl
                        obtain rfl := cd2.out rfl
                        clear hf hd
                        try simp only [List.setIfInBounds_toArray, List.set_cons_zero, List.set_cons_succ]
                        have cv := (hb5.past hb).conv byteTy Try.underlying9
                        intro K hK
                        rw [if_pos (by rfl)]
                        go_simp
                        exact hK.out _ _ ⟨b0, b1, true, b3, b4, b5, b6, b7, b8, true, true, b11, b12, x139, x140, .bool true, x142, x143, x144, x145, x146, x147, .slice bo bn bc, (.string ⟨B.toArray⟩), x150, x151, g5, c5, (by simp only [Act.put, List.setIfInBounds_toArray, List.set_cons_zero, List.set_cons_succ]), (by simp only [Act.put, List.setIfInBounds_toArray, List.set_cons_zero, List.set_cons_succ]), hb, cd0, cd1, (fun _ => rfl), cd3, cd4, cd5, cd6, cd7, cd8, (fun _ => rfl), (fun _ => rfl), cd11, cd12, wf4⟩
                      · rintro L a w ⟨b0, b1, b2, b3, b4, b5, b6, b7, b8, b9, b10, b11, b12, x139, x140, x141, x142, x143, x144, x145, x146, x147, x148, x149, x150, x151, g5, c5, rfl, rfl, hb, cd0, cd1, cd2, cd3, cd4, cd5, cd6, cd7, cd8, cd9, cd10, cd11, cd12, wf4⟩ hf hd
                        have hf' : b11 = false := hf
                        subst hf'
                        have d5 : b5 = true := hd ⟨5, .data⟩ (by simp) rfl
                        subst d5
                        have d10 : b10 = true := hd ⟨10, .data⟩ (by simp) rfl
                        subst d10
                        have d2 : b2 = true := hd ⟨2, .guard⟩ (by simp) rfl
                        subst d2
                        obtain rfl := cd5.out rfl
                        obtain rfl := cd10.out rfl
                        obtain rfl := cd2.out rfl
                        clear hf hd
                        try simp only [List.setIfInBounds_toArray, List.set_cons_zero, List.set_cons_succ]
                        intro K hK
                        rw [if_pos (by rfl)]
                        go_simp
                        exact hK.out _ _ ⟨b0, b1, true, b3, b4, true, b6, b7, b8, b9, true, true, b12, x139, x140, .bool true, x142, x143, .string ⟨B.toArray⟩, x145, x146, x147, x148, .string ⟨B.toArray⟩, (.bool false), x151, g5, c5, (by simp only [Act.put, List.setIfInBounds_toArray, List.set_cons_zero, List.set_cons_succ]), (by simp only [Act.put, List.setIfInBounds_toArray, List.set_cons_zero, List.set_cons_succ]), hb, cd0, cd1, (fun _ => rfl), cd3, cd4, (fun _ => rfl), cd6, cd7, cd8, cd9, (fun _ => rfl), (fun _ => rfl), cd12, wf4⟩
                      · rintro L a w ⟨b0, b1, b2, b3, b4, b5, b6, b7, b8, b9, b10, b11, b12, x139, x140, x141, x142, x143, x144, x145, x146, x147, x148, x149, x150, x151, g5, c5, rfl, rfl, hb, cd0, cd1, cd2, cd3, cd4, cd5, cd6, cd7, cd8, cd9, cd10, cd11, cd12, wf4⟩ hf hd
                        have hf' : b12 = false := hf
                        subst hf'
                        have d2 : b2 = true := hd ⟨2, .data⟩ (by simp) rfl
                        subst d2
                        have d11 : b11 = true := hd ⟨11, .data⟩ (by simp) rfl
                        subst d11
                        obtain rfl := cd2.out rfl
                        obtain rfl := cd11.out rfl
                        clear hf hd
                        try simp only [List.setIfInBounds_toArray, List.set_cons_zero, List.set_cons_succ]
                        intro K hK
                        rw [if_pos (by rfl)]
                        go_simp
                        exact hK.out _ _ ⟨b0, b1, true, b3, b4, b5, b6, b7, b8, b9, b10, true, true, x139, x140, .bool true, x142, x143, x144, x145, x146, x147, x148, x149, .bool false, (.bool false), g5, c5, (by simp only [Act.put, List.setIfInBounds_toArray, List.set_cons_zero, List.set_cons_succ]), (by simp only [Act.put, List.setIfInBounds_toArray, List.set_cons_zero, List.set_cons_succ]), hb, cd0, cd1, (fun _ => rfl), cd3, cd4, cd5, cd6, cd7, cd8, cd9, cd10, (fun _ => rfl), (fun _ => rfl), wf4⟩
                    · rintro a w ⟨b0, b1, b2, b3, b4, b5, b6, b7, b8, b9, b10, b11, b12, x139, x140, x141, x142, x143, x144, x145, x146, x147, x148, x149, x150, x151, g5, c5, hL, rfl, hb, cd0, cd1, cd2, cd3, cd4, cd5, cd6, cd7, cd8, cd9, cd10, cd11, cd12, wf4⟩
                      have hL' : [true, true, true, true, true, true, true, true, true, true, true, true, true] = [b0, b1, b2, b3, b4, b5, b6, b7, b8, b9, b10, b11, b12] := congrArg Array.toList hL
                      simp only [List.cons.injEq, and_true] at hL'
                      obtain ⟨rfl, rfl, rfl, rfl, rfl, rfl, rfl, rfl, rfl, rfl, rfl, rfl, rfl⟩ := hL'
                      obtain rfl := cd0.out rfl
                      obtain rfl := cd1.out rfl
                      obtain rfl := cd2.out rfl
                      obtain rfl := cd3.out rfl
                      obtain rfl := cd4.out rfl
                      obtain rfl := cd5.out rfl
                      obtain rfl := cd6.out rfl
                      obtain rfl := cd7.out rfl
                      obtain rfl := cd8.out rfl
                      obtain rfl := cd9.out rfl
                      obtain rfl := cd10.out rfl
                      obtain rfl := cd11.out rfl
                      obtain rfl := cd12.out rfl
                      have W4 := wf4.out rfl
                      clear hL
                      simp only [List.setIfInBounds_toArray, List.set_cons_zero, List.set_cons_succ]
                      have BE := B12.drew.trans (hb.mono B12.drew.size)
                      go_wp2_with fail
                      go_roundw
                      case rel => exact ⟨j + 1, by omega, by go_num, hQ.past BE, hB.trans (BE.mono hB.size)⟩
                      case measure => simp [intOf]; omega
                · clear hpe
                  have e1 : (E == 0) = false := by simp [hE0]
                  have e2 : decide (E = 0) = false := decide_eq_false hE0
                  by_cases j0 : j = 0
                  · subst j0
                    have n6 : ¬ ((n : Int) ≤ 6) := by have := hz.out rfl; omega
                    go_wp2_with (first
                      | (at_builtin; refine wpList_append_ob rfl _ _ 24 24 rfl 5 byteTy _ 0 0 [] rfl (own_empty _) _ rfl bn B ((hb.alloc _).src byteTy.ht) bn (Nat.zero_add _) B rfl (by omega) ?_; intro g9 c9 w9 o9 p9 q9; have b9 := below_puts (Below.refl _ wr) p9 (Nat.le_refl _))
                      | (go_at_call 14; (with_reducible refine (hPA _ _ w9 o9.isB).mono ?_); rintro e w10 ⟨ao1, n1, cap1, rfl, x1, b10, -⟩; have B10 := b9.trans (b10.mono b9.size); have hc10 := cell_on hcl B10; have hb10 := hb.past B10)
                      | (go_at_call 15; (with_reducible refine (hRP w10 hb10).mono ?_); rintro e w11 ⟨ao2, n2, cap2, rfl, x2, b11, -⟩; have x3 := x1.past b11; have B11 := B10.trans (b11.mono B10.size))
                      | (go_at_call 16; (with_reducible refine (same_any _ _ _ _ _ _ _ _ _ x3 x2).mono ?_); rw [hES]; rintro e w12 ⟨rfl, b12⟩; have B12 := B11.trans (b12.mono B11.size); have x4 := x3.past b12))
                    go_quiet (fail)
                    go_wp2_with fail
                    go_roundw
                    case rel => first | exact ⟨0 + 1, by omega, by go_num, hQ.past B12, hB.trans (B12.mono hB.size)⟩ | exact ⟨0 + 1, by omega, by go_num, hQ.past (below_drewN B12 _), hB.trans ((below_drewN B12 _).mono hB.size)⟩
                    case measure => simp [intOf]
                  · have j0' : ¬ ((j : Int) = 0) := by omega
                    go_wp2_with (first
                      | (at_builtin; refine wpList_append_ob rfl _ _ 24 24 rfl 5 byteTy _ 0 0 [] rfl (own_empty _) _ rfl bn B ((hb.alloc _).src byteTy.ht) bn (Nat.zero_add _) B rfl (by omega) ?_; intro g9 c9 w9 o9 p9 q9; have b9 := below_puts (Below.refl _ wr) p9 (Nat.le_refl _))
                      | (go_at_call 14; (with_reducible refine (hPA _ _ w9 o9.isB).mono ?_); rintro e w10 ⟨ao1, n1, cap1, rfl, x1, b10, -⟩; have B10 := b9.trans (b10.mono b9.size); have hc10 := cell_on hcl B10; have hb10 := hb.past B10)
                      | (go_at_call 15; (with_reducible refine (hRP w10 hb10).mono ?_); rintro e w11 ⟨ao2, n2, cap2, rfl, x2, b11, -⟩; have x3 := x1.past b11; have B11 := B10.trans (b11.mono B10.size))
                      | (go_at_call 16; (with_reducible refine (same_any _ _ _ _ _ _ _ _ _ x3 x2).mono ?_); rw [hES]; rintro e w12 ⟨rfl, b12⟩; have B12 := B11.trans (b12.mono B11.size); have x4 := x3.past b12))
                    go_quiet (fail)
                    go_wp2_with fail
                    go_roundw
                    case rel => first | exact ⟨j + 1, by omega, by go_num, hQ.past B12, hB.trans (B12.mono hB.size)⟩ | exact ⟨j + 1, by omega, by go_num, hQ.past (below_drewN B12 _), hB.trans ((below_drewN B12 _).mono hB.size)⟩
                    case measure => simp [intOf]; omega
              · obtain rfl : j = 4 := by omega
                go_wp2_with fail
                go_ret
                exact ⟨rfl, hB⟩

    · have hraw' : ¬ (nR : Int) ≤ 200 := by omega
      go_enter Try.func3, Try.ntmps3
      go_wp2_with (first
        | (go_at_call 8; (with_reducible refine (known5 _).mono ?_); rintro e w1 ⟨rfl, b1⟩)
        | (go_at_call 9; (with_reducible refine (HF _ b1).mono ?_); rintro e w2 ⟨rfl, b2⟩))
      go_ret
      exact ⟨rfl, b1.trans (b2.mono b1.size)⟩
end Go.Proofs.Ytpphlmbhonaglaa
