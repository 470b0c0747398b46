/-
  SchemaRows, walked (by gen_srows.py).
-/
import Derived.Test.YtpfhggalbdjjmaaDoorLaw9
import Derived.Deep.CutRange
namespace Go.Proofs.YtpfhggalbdjjmaaDoor
open Go.RowKit

theorem ScB.lt {w : World} {p : Nat} {l : List UInt8} {ao : Option Addr} {n c : Nat} {key : Int} {only : Bool} (h : ScB w p l ao n c key only) : p < w.heap.size := (Array.getElem?_eq_some_iff.1 h).1
theorem ScB.past {w w' : World} {p : Nat} {l : List UInt8} {ao : Option Addr} {n c : Nat} {key : Int} {only : Bool} (h : ScB w p l ao n c key only) (b : Below w.heap.size w w') : ScB w' p l ao n c key only := (b.block p h.lt).trans h
theorem letter_conv (w : World) (x : Int) (u : UInt8) (h : x = (u.toNat : Int)) : (convert 30 9 (.slice (some ⟨w.heap.size, 0, none⟩) 1 1)).run Tryd.prog (w.alloc (.cells #[.int .u8 x] 5)) = .ok (.string (bsOf [u])) (w.alloc (.cells #[.int .u8 x] 5)) := by
  subst h
  have i1 := isB_lit w #[.int .u8 (u.toNat : Int)] 5 [u] 1 rfl rfl (by omega)
  exact i1.conv byteTy Tryd.underlying9
theorem col_info : (Tryd.prog.info? 35).map (fun i => (i.zero, i.size, i.bytes)) = some (some (.agg #[.string ⟨#[]⟩, .int .i64 0, .bool false]), 3, 32) := by kernel_rfl
theorem rowTyC : RowTy encCo Tryd.prog 22 35 ⟨[], 0, false⟩ := by
  obtain ⟨i, h1, h2, h3, h4⟩ := info_parts col_info
  exact ⟨Tryd.underlying22, i, _, h1, h2, h3, rfl, by rw [h4]; decide⟩
/-- The columns of the case with many. -/
def lsA (j : Nat) : List Co := [⟨[97], 2, false⟩, ⟨[98], 3, false⟩] ++ (List.range (j - 2)).map fun i => ⟨[UInt8.ofNat (99 + i)], 1, false⟩
theorem lsA_next (j : Nat) (h : 2 ≤ j) : lsA j ++ [⟨[UInt8.ofNat (97 + j)], 1, false⟩] = lsA (j + 1) := by
  unfold lsA
  rw [show j + 1 - 2 = j - 2 + 1 by omega, List.range_succ, List.map_append, List.append_assoc]
  simp only [List.map_cons, List.map_nil]
  rw [show 99 + (j - 2) = 97 + j by omega]
theorem chk_two (w1 : World) (hW : WL w1) (R SC : Array Value) (l : List UInt8) (cs : List Co) (n : Nat) (key : Int) (x : Value) (E : Int) (hR : R.toList = encCo.all cs) (hn : cs.length = n) (hn2 : n ≤ 100) (hx : x = .string (bsOf l)) (hE : scE l cs key = E) (hl : l.length ≤ 1000000) (hcs : ∀ x ∈ cs, x.name.length ≤ 1000000) :
    Calls Tryd.prog 12 #[.agg #[x, .slice (some ⟨w1.heap.size, 0, none⟩) n n, .int .i64 key, .bool false]] ((w1.alloc (.cells R 35)).alloc (.cells SC 24)) fun e w' => e = .returned (.int .i64 E) ∧ Below w1.heap.size w1 w' := by
  subst hx
  have B1 : Below w1.heap.size w1 ((w1.alloc (.cells R 35)).alloc (.cells SC 24)) := ((Below.refl _ _).alloc (Nat.le_refl _) _).alloc (by simp) _
  have hb : ((w1.alloc (.cells R 35)).alloc (.cells SC 24)).heap[w1.heap.size]? = some (.cells R 35 (0, 0)) := (Below.heap_alloc _ _ w1.heap.size (by simp)).trans (heap_alloc_new w1 _)
  have hI : IsR encCo ((w1.alloc (.cells R 35)).alloc (.cells SC 24)) (some ⟨w1.heap.size, 0, none⟩) n n cs :=
    ⟨hn, Nat.le_refl _, (by unfold maxLen; omega), (fun h => by cases h), fun a ha j u hu => by
      obtain rfl := Option.some.inj ha
      rw [Addr.add_lit, Nat.zero_add, cell_of_row _ _ _ _ 35 (0, 0) hb, ← Array.getElem?_toList, hR]
      exact hu⟩
  have h := check_any _ l (some ⟨w1.heap.size, 0, none⟩) n n cs key false hI hl hcs (hW.past B1)
  rw [hE] at h
  refine h.mono ?_
  rintro e w' ⟨rfl, b⟩
  exact ⟨rfl, B1.trans (b.mono B1.size)⟩
set_option maxRecDepth 100000 in
set_option maxHeartbeats 4000000 in
theorem schemaRows_walk (which : Int) (above : Bool) (w : World) (hW : WL w) (_h : (Lit.int .i64 which).wf = true) : Calls Tryd.prog 7 #[.int .i64 which, .bool above] w (Told w true) := by
  have hq7 : wth which 7 = 0 ∨ wth which 7 = 1 ∨ wth which 7 = 2 ∨ wth which 7 = 3 ∨ wth which 7 = 4 ∨ wth which 7 = 5 ∨ wth which 7 = 6 := by have := wth_lo which 7 (by omega); have := wth_hi which 7 (by omega); omega
  rcases hq7 with hq | hq | hq | hq | hq | hq | hq
  · cases above
    · have HQ := Lib.hid hq
      clear hq
      go_enter Tryd.func7, Tryd.ntmps7
      go_wp2_with (first
        | (go_at_call 10; refine (known9 w hW).mono ?_; rintro e w1 ⟨rfl, b1⟩)
        | (go_at_call 17; refine (within9_any which 7 _ (by omega) (by omega)).mono ?_; rintro e w' ⟨rfl, rfl⟩; rw [HQ.out]))
      refine (chk_two w1 (hW.past b1) _ _ [97, 98, 99, 100, 101, 102, 103, 104, 105, 106, 107, 108] [⟨[97], 2, false⟩, ⟨[98], 3, false⟩] 2 0 _ 0 rfl rfl (by omega) rfl (by decide +kernel) (by decide) (by decide)).mono ?_
      rintro e w2 ⟨rfl, b2⟩
      go_wp2_with fail
      go_ret
      exact ⟨rfl, b1.trans (b2.mono b1.size)⟩
    · have HQ := Lib.hid hq
      clear hq
      go_enter Tryd.func7, Tryd.ntmps7
      go_wp2_with (first
        | (go_at_call 10; refine (known9 w hW).mono ?_; rintro e w1 ⟨rfl, b1⟩)
        | (go_at_call 17; refine (within9_any which 7 _ (by omega) (by omega)).mono ?_; rintro e w' ⟨rfl, rfl⟩; rw [HQ.out]))
      refine (chk_two w1 (hW.past b1) _ _ [97, 98, 99, 100, 101, 102, 103, 104, 105, 106, 107, 108, 109] [⟨[97], 2, false⟩, ⟨[98], 3, false⟩] 2 0 _ 12 rfl rfl (by omega) rfl (by decide +kernel) (by decide) (by decide)).mono ?_
      rintro e w2 ⟨rfl, b2⟩
      go_wp2_with fail
      go_ret
      exact ⟨rfl, b1.trans (b2.mono b1.size)⟩
  · cases above
    · have HQ := Lib.hid hq
      clear hq
      go_enter Tryd.func7, Tryd.ntmps7
      go_wp2_with (first
        | (go_at_call 10; refine (known9 w hW).mono ?_; rintro e w1 ⟨rfl, b1⟩)
        | (go_at_call 17; refine (within9_any which 7 _ (by omega) (by omega)).mono ?_; rintro e w' ⟨rfl, rfl⟩; rw [HQ.out]))
      have hs1 : w1.heap.size ≤ (w1.alloc (.cells #[.string ⟨#[97]⟩, .int .i64 2, .bool false, .string ⟨#[98]⟩, .int .i64 3, .bool false] 35)).heap.size := by simp
      have O2 : OwnR encCo ((w1.alloc (.cells #[.string ⟨#[97]⟩, .int .i64 2, .bool false, .string ⟨#[98]⟩, .int .i64 3, .bool false] 35)).alloc (.cells #[.string ⟨#[97, 98, 99]⟩, .slice (some ⟨w1.heap.size, 0, none⟩) 2 2, .int .i64 0, .bool false] 24)) 35 w1.heap.size 2 2 (lsA 2) :=
        (OwnR.ofBlk (E := encCo) (l := lsA 2) (n := 2) (heap_alloc_new w1 _) rfl rfl (by omega)).alloc _
      have X2 : ScB ((w1.alloc (.cells #[.string ⟨#[97]⟩, .int .i64 2, .bool false, .string ⟨#[98]⟩, .int .i64 3, .bool false] 35)).alloc (.cells #[.string ⟨#[97, 98, 99]⟩, .slice (some ⟨w1.heap.size, 0, none⟩) 2 2, .int .i64 0, .bool false] 24)) (w1.heap.size + 1) [97, 98, 99] (some ⟨w1.heap.size, 0, none⟩) 2 2 0 false := by
        have h := heap_alloc_new (w1.alloc (.cells #[.string ⟨#[97]⟩, .int .i64 2, .bool false, .string ⟨#[98]⟩, .int .i64 3, .bool false] 35)) (.cells #[.string ⟨#[97, 98, 99]⟩, .slice (some ⟨w1.heap.size, 0, none⟩) 2 2, .int .i64 0, .bool false] 24)
        rw [World.size_alloc] at h
        exact h
      have B2 : Below w1.heap.size w1 ((w1.alloc (.cells #[.string ⟨#[97]⟩, .int .i64 2, .bool false, .string ⟨#[98]⟩, .int .i64 3, .bool false] 35)).alloc (.cells #[.string ⟨#[97, 98, 99]⟩, .slice (some ⟨w1.heap.size, 0, none⟩) 2 2, .int .i64 0, .bool false] 24)) := ((Below.refl _ _).alloc (Nat.le_refl _) _).alloc hs1 _
      generalize (w1.alloc (.cells #[.string ⟨#[97]⟩, .int .i64 2, .bool false, .string ⟨#[98]⟩, .int .i64 3, .bool false] 35)).alloc (.cells #[.string ⟨#[97, 98, 99]⟩, .slice (some ⟨w1.heap.size, 0, none⟩) 2 2, .int .i64 0, .bool false] 24) = w2 at O2 X2 B2 ⊢
      have hp0 : w1.heap.size ≤ w1.heap.size + 1 := by omega
      obtain ⟨p, hp⟩ : ∃ p, w1.heap.size + 1 = p := ⟨_, rfl⟩
      obtain ⟨g, hg⟩ : ∃ g, w1.heap.size = g := ⟨_, rfl⟩
      have hgp : g ≠ p := by omega
      rw [hp] at X2 hp0
      simp only [hp]
      rw [hg] at O2 X2
      have hB := b1.trans (B2.mono b1.size)
      have hW2 := (hW.past b1).past B2
      have hpw : w.heap.size ≤ p := by have := b1.size; omega
      have hgw : w.heap.size ≤ g := by have := b1.size; omega
      have hW0 := hW
      clear hs1 B2 hp0 b1 hW
      simp only [hg]
      clear hp hg
      go_loopw [] (fun wr => ∃ (j g' c' : Nat), 2 ≤ j ∧ j ≤ 6 ∧ OwnR encCo wr 35 g' j c' (lsA j) ∧ ScB wr p [97, 98, 99] (some ⟨g', 0, none⟩) j c' 0 false ∧ g' ≠ p ∧ w.heap.size ≤ g' ∧ Below w.heap.size w wr ∧ WL wr) (fun wr => match wr.cell? ⟨p, 1, none⟩ with | some (.slice _ n _) => 9 - n | _ => 0)
      case atStart => exact ⟨2, g, 2, by omega, by omega, O2, X2, hgp, hgw, hB, hW2⟩
      case round =>
        clear O2 X2 hgp hgw hB hW2
        obtain ⟨j, g', c', hj2, hj6, O, X, hgp, hgw, hB, hWr⟩ := hrel
        have y1 : wr.cell? ⟨p, 1, none⟩ = some (.slice (some ⟨g', 0, none⟩) j c') := cell_blk X rfl
        by_cases hlt : j < 6
        · have hlti : (j : Int) < 6 := by omega
          have cv := letter_conv wr (97 + (j : Int)) (UInt8.ofNat (97 + j)) (by rw [UInt8.toNat_ofNat']; omega)
          have hlit : ∀ W : World, IsR encCo (W.alloc (.cells #[.string (bsOf [UInt8.ofNat (97 + j)]), .int .i64 1, .bool false] 35)) (some ⟨W.heap.size, 0, none⟩) 1 1 [⟨[UInt8.ofNat (97 + j)], 1, false⟩] := fun W => (OwnR.ofBlk (E := encCo) (l := [⟨[UInt8.ofNat (97 + j)], 1, false⟩]) (n := 1) (heap_alloc_new W _) rfl rfl (by omega)).isR
          have hl1 := hlit (wr.alloc (.cells #[.int .u8 (97 + (j : Int))] 5))
          rw [World.size_alloc] at hl1
          have HLIT := Lib.hid hl1
          clear hl1
          have HNX := Lib.hid (lsA_next j hj2)
          clear hlit
          generalize UInt8.ofNat (97 + j) = u at cv HLIT HNX
          go_wp2_with (at_builtin; go_loud (refine wpList_append_or rfl _ _ 22 22 rfl 35 rowTyC g' j c' _ rfl ((O.alloc _).alloc _) _ rfl 1 [⟨[u], 1, false⟩] (HLIT.out.src rowTyC.ht) rfl (j + 1) rfl _ HNX.out (by omega) ?_); intro g2 c2 w5 o5 p5 q5; have X5 := (p5.block p (by have := X.lt; simp; omega) (fun e => hgp e.symm)).trans ((X.past (((Below.refl _ _).alloc (Nat.le_refl _) (.cells #[.int .u8 (97 + (j : Int))] 5)).alloc (by simp) (.cells #[.string (bsOf [u]), .int .i64 1, .bool false] 35)))); have e1 := cell_blk (i := 1) X5 rfl; have f1 := free_blk (i := 1) X5)
          simp only [World.size_alloc] at q5
          have hsr := hB.size
          have B5 : Below w.heap.size w w5 := ((hB.alloc hB.size (.cells #[.int .u8 (97 + (j : Int))] 5)).alloc (by simp; omega) (.cells #[.string (bsOf [u]), .int .i64 1, .bool false] 35)).trans (p5.below hgw (by simp; omega))
          have X6 : ScB (w5.setCell ⟨p, 1, none⟩ (.slice (some ⟨g2, 0, none⟩) (j + 1) c2)) p [97, 98, 99] (some ⟨g2, 0, none⟩) (j + 1) c2 0 false := (heap_setCell_same (i := 1) X5).trans rfl
          have hpw5 := X5
          have hg2p : g2 ≠ p := by
            have := X.lt
            rcases q5 with h | h <;> omega
          have o6 := o5.kept (w' := w5.setCell ⟨p, 1, none⟩ (.slice (some ⟨g2, 0, none⟩) (j + 1) c2)) (heap_setCell_other _ _ g2 _ (by simpa using hg2p))
          have B6 : Below w.heap.size w (w5.setCell ⟨p, 1, none⟩ (.slice (some ⟨g2, 0, none⟩) (j + 1) c2)) := B5.setCell (p := ⟨p, 1, none⟩) hpw _
          have W6 : WL (w5.setCell ⟨p, 1, none⟩ (.slice (some ⟨g2, 0, none⟩) (j + 1) c2)) := hW0.past B6
          have m6 := cell_blk (i := 1) X6 rfl
          go_roundw
          case rel => exact ⟨j + 1, g2, c2, by omega, by omega, o6, X6, hg2p, by omega, B6, W6⟩
          case measure => rw [m6, y1]; simp; omega
        · have hlti : ¬ ((j : Int) < 6) := by omega
          have hj : j = 6 := by omega
          have hE : scE [97, 98, 99] (lsA j) 0 = 0 := by rw [hj]; decide +kernel
          have hcl : ∀ x ∈ lsA j, x.name.length ≤ 1000000 := by rw [hj]; decide
          have HJ := Lib.hid hj
          clear hj
          have HCK := check_any wr [97, 98, 99] (some ⟨g', 0, none⟩) j c' (lsA j) 0 false O.isR (by decide) hcl hWr
          rw [hE] at HCK
          unfold scV at HCK
          have y0 : wr.cell? ⟨p, 0, none⟩ = some (.string (bsOf [97, 98, 99])) := cell_blk X rfl
          have y2 : wr.cell? ⟨p, 2, none⟩ = some (.int .i64 0) := cell_blk X rfl
          have y3 : wr.cell? ⟨p, 3, none⟩ = some (.bool false) := cell_blk X rfl
          clear hE hcl
          go_wp2_with fail
          refine HCK.mono ?_
          rintro e w6 ⟨rfl, b6⟩
          go_wp2_with fail
          go_ret
          exact ⟨rfl, hB.trans (b6.mono hB.size)⟩
    · have HQ := Lib.hid hq
      clear hq
      go_enter Tryd.func7, Tryd.ntmps7
      go_wp2_with (first
        | (go_at_call 10; refine (known9 w hW).mono ?_; rintro e w1 ⟨rfl, b1⟩)
        | (go_at_call 17; refine (within9_any which 7 _ (by omega) (by omega)).mono ?_; rintro e w' ⟨rfl, rfl⟩; rw [HQ.out]))
      have hs1 : w1.heap.size ≤ (w1.alloc (.cells #[.string ⟨#[97]⟩, .int .i64 2, .bool false, .string ⟨#[98]⟩, .int .i64 3, .bool false] 35)).heap.size := by simp
      have O2 : OwnR encCo ((w1.alloc (.cells #[.string ⟨#[97]⟩, .int .i64 2, .bool false, .string ⟨#[98]⟩, .int .i64 3, .bool false] 35)).alloc (.cells #[.string ⟨#[97, 98, 99]⟩, .slice (some ⟨w1.heap.size, 0, none⟩) 2 2, .int .i64 0, .bool false] 24)) 35 w1.heap.size 2 2 (lsA 2) :=
        (OwnR.ofBlk (E := encCo) (l := lsA 2) (n := 2) (heap_alloc_new w1 _) rfl rfl (by omega)).alloc _
      have X2 : ScB ((w1.alloc (.cells #[.string ⟨#[97]⟩, .int .i64 2, .bool false, .string ⟨#[98]⟩, .int .i64 3, .bool false] 35)).alloc (.cells #[.string ⟨#[97, 98, 99]⟩, .slice (some ⟨w1.heap.size, 0, none⟩) 2 2, .int .i64 0, .bool false] 24)) (w1.heap.size + 1) [97, 98, 99] (some ⟨w1.heap.size, 0, none⟩) 2 2 0 false := by
        have h := heap_alloc_new (w1.alloc (.cells #[.string ⟨#[97]⟩, .int .i64 2, .bool false, .string ⟨#[98]⟩, .int .i64 3, .bool false] 35)) (.cells #[.string ⟨#[97, 98, 99]⟩, .slice (some ⟨w1.heap.size, 0, none⟩) 2 2, .int .i64 0, .bool false] 24)
        rw [World.size_alloc] at h
        exact h
      have B2 : Below w1.heap.size w1 ((w1.alloc (.cells #[.string ⟨#[97]⟩, .int .i64 2, .bool false, .string ⟨#[98]⟩, .int .i64 3, .bool false] 35)).alloc (.cells #[.string ⟨#[97, 98, 99]⟩, .slice (some ⟨w1.heap.size, 0, none⟩) 2 2, .int .i64 0, .bool false] 24)) := ((Below.refl _ _).alloc (Nat.le_refl _) _).alloc hs1 _
      generalize (w1.alloc (.cells #[.string ⟨#[97]⟩, .int .i64 2, .bool false, .string ⟨#[98]⟩, .int .i64 3, .bool false] 35)).alloc (.cells #[.string ⟨#[97, 98, 99]⟩, .slice (some ⟨w1.heap.size, 0, none⟩) 2 2, .int .i64 0, .bool false] 24) = w2 at O2 X2 B2 ⊢
      have hp0 : w1.heap.size ≤ w1.heap.size + 1 := by omega
      obtain ⟨p, hp⟩ : ∃ p, w1.heap.size + 1 = p := ⟨_, rfl⟩
      obtain ⟨g, hg⟩ : ∃ g, w1.heap.size = g := ⟨_, rfl⟩
      have hgp : g ≠ p := by omega
      rw [hp] at X2 hp0
      simp only [hp]
      rw [hg] at O2 X2
      have hB := b1.trans (B2.mono b1.size)
      have hW2 := (hW.past b1).past B2
      have hpw : w.heap.size ≤ p := by have := b1.size; omega
      have hgw : w.heap.size ≤ g := by have := b1.size; omega
      have hW0 := hW
      clear hs1 B2 hp0 b1 hW
      simp only [hg]
      clear hp hg
      go_loopw [] (fun wr => ∃ (j g' c' : Nat), 2 ≤ j ∧ j ≤ 7 ∧ OwnR encCo wr 35 g' j c' (lsA j) ∧ ScB wr p [97, 98, 99] (some ⟨g', 0, none⟩) j c' 0 false ∧ g' ≠ p ∧ w.heap.size ≤ g' ∧ Below w.heap.size w wr ∧ WL wr) (fun wr => match wr.cell? ⟨p, 1, none⟩ with | some (.slice _ n _) => 9 - n | _ => 0)
      case atStart => exact ⟨2, g, 2, by omega, by omega, O2, X2, hgp, hgw, hB, hW2⟩
      case round =>
        clear O2 X2 hgp hgw hB hW2
        obtain ⟨j, g', c', hj2, hj6, O, X, hgp, hgw, hB, hWr⟩ := hrel
        have y1 : wr.cell? ⟨p, 1, none⟩ = some (.slice (some ⟨g', 0, none⟩) j c') := cell_blk X rfl
        by_cases hlt : j < 7
        · have hlti : (j : Int) < 7 := by omega
          have cv := letter_conv wr (97 + (j : Int)) (UInt8.ofNat (97 + j)) (by rw [UInt8.toNat_ofNat']; omega)
          have hlit : ∀ W : World, IsR encCo (W.alloc (.cells #[.string (bsOf [UInt8.ofNat (97 + j)]), .int .i64 1, .bool false] 35)) (some ⟨W.heap.size, 0, none⟩) 1 1 [⟨[UInt8.ofNat (97 + j)], 1, false⟩] := fun W => (OwnR.ofBlk (E := encCo) (l := [⟨[UInt8.ofNat (97 + j)], 1, false⟩]) (n := 1) (heap_alloc_new W _) rfl rfl (by omega)).isR
          have hl1 := hlit (wr.alloc (.cells #[.int .u8 (97 + (j : Int))] 5))
          rw [World.size_alloc] at hl1
          have HLIT := Lib.hid hl1
          clear hl1
          have HNX := Lib.hid (lsA_next j hj2)
          clear hlit
          generalize UInt8.ofNat (97 + j) = u at cv HLIT HNX
          go_wp2_with (at_builtin; go_loud (refine wpList_append_or rfl _ _ 22 22 rfl 35 rowTyC g' j c' _ rfl ((O.alloc _).alloc _) _ rfl 1 [⟨[u], 1, false⟩] (HLIT.out.src rowTyC.ht) rfl (j + 1) rfl _ HNX.out (by omega) ?_); intro g2 c2 w5 o5 p5 q5; have X5 := (p5.block p (by have := X.lt; simp; omega) (fun e => hgp e.symm)).trans ((X.past (((Below.refl _ _).alloc (Nat.le_refl _) (.cells #[.int .u8 (97 + (j : Int))] 5)).alloc (by simp) (.cells #[.string (bsOf [u]), .int .i64 1, .bool false] 35)))); have e1 := cell_blk (i := 1) X5 rfl; have f1 := free_blk (i := 1) X5)
          simp only [World.size_alloc] at q5
          have hsr := hB.size
          have B5 : Below w.heap.size w w5 := ((hB.alloc hB.size (.cells #[.int .u8 (97 + (j : Int))] 5)).alloc (by simp; omega) (.cells #[.string (bsOf [u]), .int .i64 1, .bool false] 35)).trans (p5.below hgw (by simp; omega))
          have X6 : ScB (w5.setCell ⟨p, 1, none⟩ (.slice (some ⟨g2, 0, none⟩) (j + 1) c2)) p [97, 98, 99] (some ⟨g2, 0, none⟩) (j + 1) c2 0 false := (heap_setCell_same (i := 1) X5).trans rfl
          have hpw5 := X5
          have hg2p : g2 ≠ p := by
            have := X.lt
            rcases q5 with h | h <;> omega
          have o6 := o5.kept (w' := w5.setCell ⟨p, 1, none⟩ (.slice (some ⟨g2, 0, none⟩) (j + 1) c2)) (heap_setCell_other _ _ g2 _ (by simpa using hg2p))
          have B6 : Below w.heap.size w (w5.setCell ⟨p, 1, none⟩ (.slice (some ⟨g2, 0, none⟩) (j + 1) c2)) := B5.setCell (p := ⟨p, 1, none⟩) hpw _
          have W6 : WL (w5.setCell ⟨p, 1, none⟩ (.slice (some ⟨g2, 0, none⟩) (j + 1) c2)) := hW0.past B6
          have m6 := cell_blk (i := 1) X6 rfl
          go_roundw
          case rel => exact ⟨j + 1, g2, c2, by omega, by omega, o6, X6, hg2p, by omega, B6, W6⟩
          case measure => rw [m6, y1]; simp; omega
        · have hlti : ¬ ((j : Int) < 7) := by omega
          have hj : j = 7 := by omega
          have hE : scE [97, 98, 99] (lsA j) 0 = 4 := by rw [hj]; decide +kernel
          have hcl : ∀ x ∈ lsA j, x.name.length ≤ 1000000 := by rw [hj]; decide
          have HJ := Lib.hid hj
          clear hj
          have HCK := check_any wr [97, 98, 99] (some ⟨g', 0, none⟩) j c' (lsA j) 0 false O.isR (by decide) hcl hWr
          rw [hE] at HCK
          unfold scV at HCK
          have y0 : wr.cell? ⟨p, 0, none⟩ = some (.string (bsOf [97, 98, 99])) := cell_blk X rfl
          have y2 : wr.cell? ⟨p, 2, none⟩ = some (.int .i64 0) := cell_blk X rfl
          have y3 : wr.cell? ⟨p, 3, none⟩ = some (.bool false) := cell_blk X rfl
          clear hE hcl
          go_wp2_with fail
          refine HCK.mono ?_
          rintro e w6 ⟨rfl, b6⟩
          go_wp2_with fail
          go_ret
          exact ⟨rfl, hB.trans (b6.mono hB.size)⟩
  · cases above
    · have HQ := Lib.hid hq
      clear hq
      go_enter Tryd.func7, Tryd.ntmps7
      go_wp2_with (first
        | (go_at_call 10; refine (known9 w hW).mono ?_; rintro e w1 ⟨rfl, b1⟩)
        | (go_at_call 17; refine (within9_any which 7 _ (by omega) (by omega)).mono ?_; rintro e w' ⟨rfl, rfl⟩; rw [HQ.out]))
      refine (chk_two w1 (hW.past b1) _ _ [97, 98, 99] [⟨[97], 2, false⟩, ⟨[98], 3, false⟩] 2 0 _ 0 rfl rfl (by omega) rfl (by decide +kernel) (by decide) (by decide)).mono ?_
      rintro e w2 ⟨rfl, b2⟩
      go_wp2_with fail
      go_ret
      exact ⟨rfl, b1.trans (b2.mono b1.size)⟩
    · have HQ := Lib.hid hq
      clear hq
      go_enter Tryd.func7, Tryd.ntmps7
      go_wp2_with (first
        | (go_at_call 10; refine (known9 w hW).mono ?_; rintro e w1 ⟨rfl, b1⟩)
        | (go_at_call 17; refine (within9_any which 7 _ (by omega) (by omega)).mono ?_; rintro e w' ⟨rfl, rfl⟩; rw [HQ.out]))
      refine (chk_two w1 (hW.past b1) _ _ [97, 98, 99] [⟨[97], 2, false⟩, ⟨[98], 4, false⟩] 2 0 _ 3 rfl rfl (by omega) rfl (by decide +kernel) (by decide) (by decide)).mono ?_
      rintro e w2 ⟨rfl, b2⟩
      go_wp2_with fail
      go_ret
      exact ⟨rfl, b1.trans (b2.mono b1.size)⟩
  · cases above
    · have HQ := Lib.hid hq
      clear hq
      go_enter Tryd.func7, Tryd.ntmps7
      go_wp2_with (first
        | (go_at_call 10; refine (known9 w hW).mono ?_; rintro e w1 ⟨rfl, b1⟩)
        | (go_at_call 17; refine (within9_any which 7 _ (by omega) (by omega)).mono ?_; rintro e w' ⟨rfl, rfl⟩; rw [HQ.out]))
      refine (chk_two w1 (hW.past b1) _ _ [97, 98, 99] [⟨[97], 1, false⟩, ⟨[98], 3, false⟩] 2 0 _ 0 rfl rfl (by omega) rfl (by decide +kernel) (by decide) (by decide)).mono ?_
      rintro e w2 ⟨rfl, b2⟩
      go_wp2_with fail
      go_ret
      exact ⟨rfl, b1.trans (b2.mono b1.size)⟩
    · have HQ := Lib.hid hq
      clear hq
      go_enter Tryd.func7, Tryd.ntmps7
      go_wp2_with (first
        | (go_at_call 10; refine (known9 w hW).mono ?_; rintro e w1 ⟨rfl, b1⟩)
        | (go_at_call 17; refine (within9_any which 7 _ (by omega) (by omega)).mono ?_; rintro e w' ⟨rfl, rfl⟩; rw [HQ.out]))
      refine (chk_two w1 (hW.past b1) _ _ [97, 98, 99] [⟨[97], 0, false⟩, ⟨[98], 3, false⟩] 2 0 _ 3 rfl rfl (by omega) rfl (by decide +kernel) (by decide) (by decide)).mono ?_
      rintro e w2 ⟨rfl, b2⟩
      go_wp2_with fail
      go_ret
      exact ⟨rfl, b1.trans (b2.mono b1.size)⟩
  · cases above
    · have HQ := Lib.hid hq
      clear hq
      go_enter Tryd.func7, Tryd.ntmps7
      go_wp2_with (first
        | (go_at_call 10; refine (known9 w hW).mono ?_; rintro e w1 ⟨rfl, b1⟩)
        | (go_at_call 17; refine (within9_any which 7 _ (by omega) (by omega)).mono ?_; rintro e w' ⟨rfl, rfl⟩; rw [HQ.out]))
      refine (chk_two w1 (hW.past b1) _ _ [97, 98, 99] [⟨[97], 2, false⟩, ⟨[98], 3, false⟩] 2 1 _ 0 rfl rfl (by omega) rfl (by decide +kernel) (by decide) (by decide)).mono ?_
      rintro e w2 ⟨rfl, b2⟩
      go_wp2_with fail
      go_ret
      exact ⟨rfl, b1.trans (b2.mono b1.size)⟩
    · have HQ := Lib.hid hq
      clear hq
      go_enter Tryd.func7, Tryd.ntmps7
      go_wp2_with (first
        | (go_at_call 10; refine (known9 w hW).mono ?_; rintro e w1 ⟨rfl, b1⟩)
        | (go_at_call 17; refine (within9_any which 7 _ (by omega) (by omega)).mono ?_; rintro e w' ⟨rfl, rfl⟩; rw [HQ.out]))
      refine (chk_two w1 (hW.past b1) _ _ [97, 98, 99] [⟨[97], 2, false⟩, ⟨[98], 3, false⟩] 2 2 _ 1 rfl rfl (by omega) rfl (by decide +kernel) (by decide) (by decide)).mono ?_
      rintro e w2 ⟨rfl, b2⟩
      go_wp2_with fail
      go_ret
      exact ⟨rfl, b1.trans (b2.mono b1.size)⟩
  · cases above
    · have HQ := Lib.hid hq
      clear hq
      go_enter Tryd.func7, Tryd.ntmps7
      go_wp2_with (first
        | (go_at_call 10; refine (known9 w hW).mono ?_; rintro e w1 ⟨rfl, b1⟩)
        | (go_at_call 17; refine (within9_any which 7 _ (by omega) (by omega)).mono ?_; rintro e w' ⟨rfl, rfl⟩; rw [HQ.out]))
      refine (chk_two w1 (hW.past b1) _ _ [97, 98, 99] [⟨[97], 2, false⟩, ⟨[98], 3, false⟩] 2 0 _ 0 rfl rfl (by omega) rfl (by decide +kernel) (by decide) (by decide)).mono ?_
      rintro e w2 ⟨rfl, b2⟩
      go_wp2_with fail
      go_ret
      exact ⟨rfl, b1.trans (b2.mono b1.size)⟩
    · have HQ := Lib.hid hq
      clear hq
      go_enter Tryd.func7, Tryd.ntmps7
      go_wp2_with (first
        | (go_at_call 10; refine (known9 w hW).mono ?_; rintro e w1 ⟨rfl, b1⟩)
        | (go_at_call 17; refine (within9_any which 7 _ (by omega) (by omega)).mono ?_; rintro e w' ⟨rfl, rfl⟩; rw [HQ.out]))
      refine (chk_two w1 (hW.past b1) _ _ [97, 98, 99] [⟨[97], 2, false⟩, ⟨[98], 3, false⟩] 2 (-1) _ 1 rfl rfl (by omega) rfl (by decide +kernel) (by decide) (by decide)).mono ?_
      rintro e w2 ⟨rfl, b2⟩
      go_wp2_with fail
      go_ret
      exact ⟨rfl, b1.trans (b2.mono b1.size)⟩
  · cases above
    · have HQ := Lib.hid hq
      clear hq
      go_enter Tryd.func7, Tryd.ntmps7
      go_wp2_with (first
        | (go_at_call 10; refine (known9 w hW).mono ?_; rintro e w1 ⟨rfl, b1⟩)
        | (go_at_call 17; refine (within9_any which 7 _ (by omega) (by omega)).mono ?_; rintro e w' ⟨rfl, rfl⟩; rw [HQ.out]))
      refine (chk_two w1 (hW.past b1) _ _ [97, 98, 99] [⟨[97], 2, false⟩, ⟨[98], 3, true⟩] 2 0 _ 0 rfl rfl (by omega) rfl (by decide +kernel) (by decide) (by decide)).mono ?_
      rintro e w2 ⟨rfl, b2⟩
      go_wp2_with fail
      go_ret
      exact ⟨rfl, b1.trans (b2.mono b1.size)⟩
    · have HQ := Lib.hid hq
      clear hq
      go_enter Tryd.func7, Tryd.ntmps7
      go_wp2_with (first
        | (go_at_call 10; refine (known9 w hW).mono ?_; rintro e w1 ⟨rfl, b1⟩)
        | (go_at_call 17; refine (within9_any which 7 _ (by omega) (by omega)).mono ?_; rintro e w' ⟨rfl, rfl⟩; rw [HQ.out]))
      refine (chk_two w1 (hW.past b1) _ _ [97, 98, 99] [⟨[97], 2, true⟩, ⟨[98], 3, false⟩] 2 0 _ 13 rfl rfl (by omega) rfl (by decide +kernel) (by decide) (by decide)).mono ?_
      rintro e w2 ⟨rfl, b2⟩
      go_wp2_with fail
      go_ret
      exact ⟨rfl, b1.trans (b2.mono b1.size)⟩
end Go.Proofs.YtpfhggalbdjjmaaDoor
