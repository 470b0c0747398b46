/-
  RowSames, walked (by gen_sames.py).
-/
import Derived.Test.YtalnnifmlhckbaaLaw5
import Derived.Test.YtalnnifmlhckbaaRowB
import Derived.Test.YtalnnifmlhckbaaSame
import Derived.Test.YtalnnifmlhckbaaInv
import Derived.Deep.QuietTactic
import Derived.BigQuiet
namespace Go.Proofs.Ytalnnifmlhckbaa
open Go.RowKit
set_option linter.unusedSimpArgs false
theorem own_far3 {w : World} {t : TypeId} {g g' n cap : Nat} {l : List V} (h : OwnR EV w t g n cap l) (hne : g ≠ g') (i j k : Nat) (x y z : Value) : OwnR EV (((w.setCell ⟨g', i, none⟩ x).setCell ⟨g', j, none⟩ y).setCell ⟨g', k, none⟩ z) t g n cap l :=
  h.kept (((Below.heap_setCell _ _ _ _ hne).trans (Below.heap_setCell _ _ _ _ hne)).trans (Below.heap_setCell _ _ _ _ hne))
theorem eqVs_set (l : List V) (k : Nat) (x y : V) (h : l[k]? = some x) : eqVs l (l.set k y) = x.eq y := by
  obtain ⟨hk, rfl⟩ := List.getElem?_eq_some_iff.1 h
  rw [Bool.eq_iff_iff, eqVs_iff, V.eq_iff]
  constructor
  · intro h2
    have := congrArg (fun l => l[k]?) h2
    simp only [List.getElem?_set_self hk] at this
    simpa [hk] using this
  · intro h2
    rw [← h2, List.set_getElem_self]
theorem isR_take {α : Type} {E : Enc α} {w : World} {ao : Option Addr} {n cap : Nat} {l : List α} (h : IsR E w ao n cap l) (m : Nat) (hm : m ≤ n) : IsR E w ao m cap (l.take m) := by
  have h1 := h.len
  have h2 := h.le
  refine ⟨by rw [List.length_take]; omega, by omega, h.max, h.nil, fun a ha j u hu => h.cell a ha j u ?_⟩
  rw [← E.all_take, List.getElem?_take] at hu
  split at hu
  · exact hu
  · cases hu
theorem elemV (w' : World) : (sizeOf (Try.prog.elem 22)).run Try.prog w' = .ok 3 w' := by kernel_rfl
/-- 'l[:c]'. -/
theorem head_run (g n cap c : Nat) (w' : World) (hc : c ≤ n) (hn : n ≤ cap) : (Instr.slice 22 (.slice (some ⟨g, 0, none⟩) n cap) none (some (.int .i64 c)) none).run Try.prog w' = .ok (.slice (some ⟨g, 0, none⟩) c cap) w' := by
  rw [run_slice_h w' 22 (some ⟨g, 0, none⟩) n cap (by kernel_rfl) .i64 (c : Int) (by omega) (by omega), elemV]
  by_cases h0 : cap = 0
  · simp [Result.andThen, sliced, h0]
  · simp [Result.andThen, sliced, h0, Addr.add]
/-- What stands while the region's operations come up: which have (b), what their slots hold (x), what the world holds. -/
inductive Sames9 (ao : Option Addr) (cap : Nat) (m : Nat) (LA : List V) (ga : Nat) (ca : Nat) (gb : Nat) (cb : Nat) (sb : Bool) (RA : List UInt8) (RB : List UInt8) (na : Nat) (nb : Nat) (a0 : Act) (w0 : World) (L : Array Bool) (a : Act) (w : World) : Prop
  | mk (b0 b1 b2 b3 b4 b5 b6 b7 b8 b9 b10 b11 b12 b13 b14 b15 b16 b17 b18 b19 b20 b21 b22 b23 b24 b25 b26 b27 b28 b29 b30 b31 b32 : Bool) (x48 x49 x50 x51 x52 x53 x54 x55 x56 x57 x58 x59 x60 x61 x62 x63 x64 x65 x66 x67 x68 x69 x70 x71 x72 x73 x74 x75 x76 x77 x78 x79 x6 : Value) (ao2 : Option Addr) (cap2 : Nat) (g13 : Nat) (c13 : Nat) (g16 : Nat) (c16 : Nat) (hL : L = #[b0, b1, b2, b3, b4, b5, b6, b7, b8, b9, b10, b11, b12, b13, b14, b15, b16, b17, b18, b19, b20, b21, b22, b23, b24, b25, b26, b27, b28, b29, b30, b31, b32]) (ha : a = ⟨(((((((((((((((((((((((((((((((((a0.tmps.setIfInBounds 48 x48).setIfInBounds 49 x49).setIfInBounds 50 x50).setIfInBounds 51 x51).setIfInBounds 52 x52).setIfInBounds 53 x53).setIfInBounds 54 x54).setIfInBounds 55 x55).setIfInBounds 56 x56).setIfInBounds 57 x57).setIfInBounds 58 x58).setIfInBounds 59 x59).setIfInBounds 60 x60).setIfInBounds 61 x61).setIfInBounds 62 x62).setIfInBounds 63 x63).setIfInBounds 64 x64).setIfInBounds 65 x65).setIfInBounds 66 x66).setIfInBounds 67 x67).setIfInBounds 68 x68).setIfInBounds 69 x69).setIfInBounds 70 x70).setIfInBounds 71 x71).setIfInBounds 72 x72).setIfInBounds 73 x73).setIfInBounds 74 x74).setIfInBounds 75 x75).setIfInBounds 76 x76).setIfInBounds 77 x77).setIfInBounds 78 x78).setIfInBounds 79 x79).setIfInBounds 6 x6), a0.defers⟩) (hb : Below w0.heap.size w0 w) (cd0 : Hid (b0 = true → x48 = .slice (some ⟨ga, 0, none⟩) (m + 1) ca)) (cd1 : Hid (b1 = true → x49 = .slice ao (m + 1) cap)) (cd2 : Hid (b2 = true → x50 = .slice ao2 (m + 1) cap2)) (cd3 : Hid (b3 = true → x51 = .bool true)) (cd4 : Hid (b4 = true → x52 = .bool true)) (cd5 : Hid (b5 = true → x53 = .slice (some ⟨ga, 0, none⟩) (m + 1) ca)) (cd6 : Hid (b6 = true → x54 = .slice (some ⟨gb, 0, none⟩) (m + 1) cb)) (cd7 : Hid (b7 = true → x55 = .bool sb)) (cd8 : Hid (b8 = true → x56 = .bool sb)) (cd9 : Hid (b9 = true → x57 = .bool true)) (cd10 : Hid (b10 = true → x58 = .bool true)) (cd11 : Hid (b11 = true → x59 = .bool true)) (cd12 : Hid (b12 = true → x60 = .slice (some ⟨ga, 0, none⟩) (m + 1) ca)) (cd13 : Hid (b13 = true → x61 = .slice (some ⟨g13, 0, none⟩) na c13)) (cd14 : Hid (b14 = true → x62 = .string ⟨RA.toArray⟩)) (cd15 : Hid (b15 = true → x63 = .slice (some ⟨gb, 0, none⟩) (m + 1) cb)) (cd16 : Hid (b16 = true → x64 = .slice (some ⟨g16, 0, none⟩) nb c16)) (cd17 : Hid (b17 = true → x65 = .string ⟨RB.toArray⟩)) (cd18 : Hid (b18 = true → x66 = .bool sb)) (cd19 : Hid (b19 = true → x67 = .bool sb)) (cd20 : Hid (b20 = true → x68 = .bool true)) (cd21 : Hid (b21 = true → x69 = .bool true)) (cd22 : Hid (b22 = true → x70 = .bool true)) (cd23 : Hid (b23 = true → x71 = .slice (some ⟨ga, 0, none⟩) (m + 1) ca)) (cd24 : Hid (b24 = true → x72 = .slice (some ⟨ga, 0, none⟩) (m + 1) ca)) (cd25 : Hid (b25 = true → x73 = .slice (some ⟨ga, 0, none⟩) (m + 1) ca)) (cd26 : Hid (b26 = true → x74 = .int .i64 ((m : Int) + 1))) (cd27 : Hid (b27 = true → x75 = .int .i64 m)) (cd28 : Hid (b28 = true → x76 = .slice (some ⟨ga, 0, none⟩) m ca)) (cd29 : Hid (b29 = true → x77 = .bool false)) (cd30 : Hid (b30 = true → x78 = .bool true)) (cd31 : Hid (b31 = true → x79 = .bool true)) (cd32 : Hid (b32 = true → x6 = .bool true)) (wf2 : Hid (b2 = true → IsR EV w ao2 (m + 1) cap2 LA)) (wf13 : Hid (b13 = true → IsB w (some ⟨g13, 0, none⟩) na c13 RA)) (wf16 : Hid (b16 = true → IsB w (some ⟨g16, 0, none⟩) nb c16 RB)) : Sames9 ao cap m LA ga ca gb cb sb RA RB na nb a0 w0 L a w

set_option maxRecDepth 100000 in
set_option maxHeartbeats 4000000 in
theorem rowSames_walk (ao : Option Addr) (n cap : Nat) (l : List V) (at' : Int) (vk vn : Int) (vs : ByteArray) (w : World) (h : IsR EV w ao n cap l) (hwf : ∀ v ∈ l, (Lit.int .i64 v.k).wf = true ∧ (Lit.int .i64 v.n).wf = true) (_ : (Lit.int .i64 at').wf = true) (_ : (Lit.int .i64 vk).wf = true) (hvn : (Lit.int .i64 vn).wf = true) (_ : vs.size ≤ maxLen) :
    Calls Try.prog 4 #[.slice ao n cap, .int .i64 at', vv vk vn vs] w (Told w true) := by
  rename_i q1 q2 q3
  clear q1 q2 q3
  have hln := h.len
  have b0 : Below w.heap.size w (w.alloc (.cells #[.int .i64 vk, .int .i64 vn, .string vs] 39)) := (Below.refl _ _).alloc (Nat.le_refl _) _
  have t0 := VAt.new w vk vn vs
  have HF := fun (w' : World) (hb : Below w.heap.size w w') => few5_any ao n cap l w' (h.past hb)
  have HV := few_any vk vn vs
  cases q : (fewB l && decide ((n : Int) ≤ 12)) <;> rw [q] at HF
  · go_enter Try.func4, Try.ntmps4
    go_wp2_with (first
      | (go_at_call 7; (with_reducible refine (known5 _).mono ?_); rintro e w1 ⟨rfl, b1⟩; have B1 := b0.trans (b1.mono b0.size))
      | (go_at_call 8; (with_reducible refine (HF _ B1).mono ?_); rintro e w2 ⟨rfl, b2⟩))
    go_ret
    exact ⟨rfl, B1.trans (b2.mono B1.size)⟩
  · have hn : n ≤ 12 := by
      simp only [Bool.and_eq_true, decide_eq_true_eq] at q
      omega
    clear q
    by_cases hn0 : n = 0
    · subst hn0
      go_enter Try.func4, Try.ntmps4
      go_wp2_with (first
        | (go_at_call 7; (with_reducible refine (known5 _).mono ?_); rintro e w1 ⟨rfl, b1⟩; have B1 := b0.trans (b1.mono b0.size))
        | (go_at_call 8; (with_reducible refine (HF _ B1).mono ?_); rintro e w2 ⟨rfl, b2⟩))
      go_ret
      exact ⟨rfl, B1.trans (b2.mono B1.size)⟩
    · obtain ⟨m, rfl⟩ : ∃ m, n = m + 1 := ⟨n - 1, by omega⟩
      clear hn0
      cases q : decide ((vs.size : Int) ≤ 80) <;> rw [q] at HV
      · go_enter Try.func4, Try.ntmps4
        go_wp2_with (first
          | (go_at_call 7; (with_reducible refine (known5 _).mono ?_); rintro e w1 ⟨rfl, b1⟩; have B1 := b0.trans (b1.mono b0.size))
          | (go_at_call 8; (with_reducible refine (HF _ B1).mono ?_); rintro e w2 ⟨rfl, b2⟩; have B2 := B1.trans (b2.mono B1.size); obtain ⟨y0, y1, y2, -, -, -, -⟩ := (t0.past b1).past b2)
          | (go_at_call 16; (with_reducible refine (HV _).mono ?_); rintro e w3 ⟨rfl, b3⟩))
        go_ret
        exact ⟨rfl, B2.trans (b3.mono B2.size)⟩
      · obtain ⟨k, hk, hk2⟩ : ∃ k : Nat, wth at' ((m : Int) + 1) = k ∧ k < m + 1 := ⟨(wth at' ((m : Int) + 1)).toNat, by have := wth_lo at' ((m : Int) + 1) (by omega); omega, by have := wth_hi at' ((m : Int) + 1) (by omega); have := wth_lo at' ((m : Int) + 1) (by omega); omega⟩
        have HW := fun w => within5_any at' ((m : Int) + 1) w (by omega) (by omega)
        rw [hk] at HW
        have HG := fun (w' : World) (hb : Below w.heap.size w w') => good5_any ao (m + 1) cap l w' (h.past hb) (by omega)
        have HX := goodv_any vk vn vs
        obtain ⟨x, hx⟩ : ∃ x, gd ⟨vk, vn, vs⟩ = x := ⟨_, rfl⟩
        have okx : Hid (Vok x) := by rw [← hx]; exact gd_ok _ hvn
        rw [hx] at HX
        have okA : Hid (∀ v ∈ l.map gd, Vok v) := fun v hv => by
          obtain ⟨y, hy, rfl⟩ := List.mem_map.1 hv
          exact gd_ok y (hwf y hy).2
        have hlA : Hid ((l.map gd).length = m + 1) := by unfold Hid; rw [List.length_map, hln]
        clear hk q hx hwf hvn
        generalize hLA : l.map gd = LA at HG okA hlA
        have isG : ∀ {w' : World} {ao' : Option Addr} {c' B : Nat}, ((m + 1 = 0 ∧ ao' = none ∧ c' = 0) ∨ ∃ g, ao' = some ⟨g, 0, none⟩ ∧ OwnR EV w' 39 g (m + 1) c' LA ∧ B ≤ g) → ∃ g, ao' = some ⟨g, 0, none⟩ ∧ OwnR EV w' 39 g (m + 1) c' LA ∧ B ≤ g := fun h => h.resolve_left (by omega)
        obtain ⟨kx, nx, sx⟩ := x
        have HX' : ∀ w, Calls Try.prog 17 #[vv vk vn vs] w fun e w' => e = .returned (vv kx nx sx) ∧ Below w.heap.size w w' := HX
        clear HX
        go_enter Try.func4, Try.ntmps4
        go_wp2_with (first
          | (go_at_call 7; (with_reducible refine (known5 _).mono ?_); rintro e w1 ⟨rfl, b1⟩; have B1 := b0.trans (b1.mono b0.size); have T1 := t0.past b1)
          | (go_at_call 8; (with_reducible refine (HF _ B1).mono ?_); rintro e w2 ⟨rfl, b2⟩; have B2 := B1.trans (b2.mono B1.size); have T2 := T1.past b2; obtain ⟨y0, y1, y2, -, -, -, -⟩ := id T2)
          | (go_at_call 16; (with_reducible refine (HV _).mono ?_); rintro e w3 ⟨rfl, b3⟩; have B3 := B2.trans (b3.mono B2.size); have T3 := T2.past b3)
          | (go_at_call 9; (with_reducible refine (HG w3 B3).mono ?_); rintro e w4 ⟨ao4, ca, rfl, b4, hr4⟩; obtain ⟨ga, rfl, oA, qa⟩ := isG hr4; have B4 := B3.trans (b4.mono B3.size); have T4 := T3.past b4)
          | (go_at_call 9; (with_reducible refine (HG w4 B4).mono ?_); rintro e w5 ⟨ao5, cb, rfl, b5, hr5⟩; obtain ⟨gb, rfl, oB, qb⟩ := isG hr5; have B5 := B4.trans (b5.mono B4.size); have T5 := T4.past b5; have oA5 := oA.past b5; obtain ⟨v0, v1, v2, -, -, -, -⟩ := id T5)
          | (go_at_call 12; (with_reducible refine (HW _).mono ?_); rintro e w' ⟨rfl, rfl⟩)
          | (go_at_call 17; (with_reducible refine (HX' _).mono ?_); rintro e w6 ⟨rfl, b6⟩; have B6 := B5.trans (b6.mono B5.size); have oA6 := oA5.past b6; have oB6 := oB.past b6; obtain ⟨a0, a1, a2, d0, d1, d2, f0, f1, f2⟩ := own_cells_v oB6 k hk2))
        have gN : ga ≠ gb := Nat.ne_of_lt (Nat.lt_of_lt_of_le oA.lt qb)
        have qW : w.heap.size ≤ gb := Nat.le_trans B4.size qb
        have oB7 := own_set_v oB6 k hk2 ⟨kx, nx, sx⟩
        have oA7 := own_far3 oA6 gN (k * 3) (k * 3 + 1) (k * 3 + 2) (.int .i64 kx) (.int .i64 nx) (.string sx)
        have B7 := ((B6.setCell (p := ⟨gb, k * 3, none⟩) qW (.int .i64 kx)).setCell (p := ⟨gb, k * 3 + 1, none⟩) qW (.int .i64 nx)).setCell (p := ⟨gb, k * 3 + 2, none⟩) qW (.string sx)
        clear oA oB oA5 oA6 oB6 B1 B2 B3 B4 B5 B6 T1 T2 T3 T4 T5 qa qb b1 b2 b3 b4 b5 b6 y0 y1 y2 v0 v1 v2 d0 d1 d2 f0 f1 f2 hr4 hr5 HF HV HW HX' t0 b0
        dsimp only at oB7
        generalize (((w6.setCell ⟨gb, k * 3, none⟩ (.int .i64 kx)).setCell ⟨gb, k * 3 + 1, none⟩ (.int .i64 nx)).setCell ⟨gb, k * 3 + 2, none⟩ (.string sx)) = w7 at oB7 oA7 B7 ⊢
        obtain ⟨⟨ka, na, sa⟩, hxa⟩ : ∃ xa, LA[k]? = some xa := ⟨LA[k]'(by rw [hlA.out]; exact hk2), List.getElem?_eq_getElem _⟩
        have SB := eqVs_set LA k ⟨ka, na, sa⟩ ⟨kx, nx, sx⟩ hxa
        have hxb : (LA.set k ⟨kx, nx, sx⟩)[k]? = some ⟨kx, nx, sx⟩ := by rw [List.getElem?_set_self (by rw [hlA.out]; exact hk2)]
        have heq := run_eql_val ka na sa kx nx sx
        rw [show eqV ka na sa kx nx sx = eqVs LA (LA.set k ⟨kx, nx, sx⟩) from SB.symm] at heq
        clear SB
        obtain ⟨c0, c1, c2⟩ := cells_v (off := 0) (fun i u hu => by rw [Nat.zero_add]; exact oA7.cell i u hu) k _ hxa
        obtain ⟨d0, d1, d2⟩ := cells_v (off := 0) (fun i u hu => by rw [Nat.zero_add]; exact oB7.cell i u hu) k _ hxb
        simp only [Nat.zero_add] at c0 c1 c2 d0 d1 d2
        have okB : Hid (∀ v ∈ LA.set k ⟨kx, nx, sx⟩, Vok v) := fun v hv => by
          rcases List.mem_or_eq_of_mem_set hv with h1 | rfl
          · exact okA.out v h1
          · exact okx.out
        have SR : Hid (eqVs LA (LA.set k ⟨kx, nx, sx⟩) = decide (encR LA = encR (LA.set k ⟨kx, nx, sx⟩))) := by
          unfold Hid
          rw [Bool.eq_iff_iff, eqVs_iff, decide_eq_true_eq, encR_iff _ _ okA.out okB.out (by rw [List.length_set])]
        have hlB : Hid ((LA.set k ⟨kx, nx, sx⟩).length = m + 1) := by unfold Hid; rw [List.length_set, hlA.out]
        have hkm : (k : Int) < (m : Int) + 1 := by omega
        clear hxa hxb okA okB okx
        generalize LA.set k ⟨kx, nx, sx⟩ = LB at oB7 heq SR hlB
        generalize hsb : eqVs LA LB = sb at heq SR
        go_quiet (fail)
        go_wp2_with fail
        have BB : ∀ q, Below w.heap.size w ((w7.drewN q).drew) := fun q => (below_drewN B7 q).drew
        have hA : ∀ q, IsR EV ((w7.drewN q).drew) (some ⟨ga, 0, none⟩) (m + 1) ca LA := fun q => (oA7.isR.past (below_drewN (Below.refl _ _) q)).drew
        have hB : ∀ q, IsR EV ((w7.drewN q).drew) (some ⟨gb, 0, none⟩) (m + 1) cb LB := fun q => (oB7.isR.past (below_drewN (Below.refl _ _) q)).drew
        have hL0 : ∀ q, IsR EV ((w7.drewN q).drew) ao (m + 1) cap l := fun q => h.past (BB q)
        have hm1 : m ≤ ca := by have := oA7.le; omega
        have isGR : ∀ {w' : World} {ao' : Option Addr} {c' B : Nat}, ((m + 1 = 0 ∧ ao' = none ∧ c' = 0) ∨ ∃ g, ao' = some ⟨g, 0, none⟩ ∧ OwnR EV w' 39 g (m + 1) c' LA ∧ B ≤ g) → IsR EV w' ao' (m + 1) c' LA := fun h => by
          obtain ⟨g, rfl, o, _⟩ := isG h
          exact o.isR
        have hG := fun (w' : World) (h' : IsR EV w' ao (m + 1) cap l) => good5_any ao (m + 1) cap l w' h' (by omega)
        rw [hLA] at hG
        have hS1 : ∀ (w' : World) (ao2 : Option Addr) (c2 : Nat), IsR EV w' (some ⟨ga, 0, none⟩) (m + 1) ca LA → IsR EV w' ao2 (m + 1) c2 LA → Calls Try.prog 15 #[.slice (some ⟨ga, 0, none⟩) (m + 1) ca, .slice ao2 (m + 1) c2] w' (Told w' true) := fun w' ao2 c2 h1 h2 => by
          have := same_any _ _ _ _ _ _ _ _ w' h1 h2
          rwa [(eqVs_iff LA LA).2 rfl] at this
        have hS2 : ∀ (w' : World), IsR EV w' (some ⟨ga, 0, none⟩) (m + 1) ca LA → IsR EV w' (some ⟨gb, 0, none⟩) (m + 1) cb LB → Calls Try.prog 15 #[.slice (some ⟨ga, 0, none⟩) (m + 1) ca, .slice (some ⟨gb, 0, none⟩) (m + 1) cb] w' (Told w' sb) := fun w' h1 h2 => by
          have := same_any _ _ _ _ _ _ _ _ w' h1 h2
          rwa [hsb] at this
        have hS3 : ∀ (w' : World), IsR EV w' (some ⟨ga, 0, none⟩) (m + 1) ca LA → Calls Try.prog 15 #[.slice (some ⟨ga, 0, none⟩) (m + 1) ca, .slice (some ⟨ga, 0, none⟩) m ca] w' (Told w' false) := fun w' h1 => by
          have := same_any _ _ _ _ _ _ _ _ w' h1 (isR_take h1 m (by omega))
          rwa [eqVs_len (by rw [List.length_take, hlA.out]; omega)] at this
        have hY1 := fun (w' : World) (h1 : IsR EV w' (some ⟨ga, 0, none⟩) (m + 1) ca LA) => bytes_any _ _ _ _ w' h1 (by omega)
        have hY2 := fun (w' : World) (h1 : IsR EV w' (some ⟨gb, 0, none⟩) (m + 1) cb LB) => bytes_any _ _ _ _ w' h1 (by omega)
        have HD := fun (w' : World) => head_run ga (m + 1) ca m w' (by omega) oA7.le
        generalize encR LA = RA at hY1 SR
        generalize encR LB = RB at hY2 SR
        generalize hna : RA.length = na at hY1
        generalize hnb : RB.length = nb at hY2
        have HE : Hid ((RA == RB) = sb) := by unfold Hid; rw [SR.out]; rw [Bool.eq_iff_iff]; simp
        clear SR c0 c1 c2 d0 d1 d2 heq oA7 oB7 hsb
        refine region_inv (Sames9 ao cap m LA ga ca gb cb sb RA RB na nb) (by kernel_rfl) (by kernel_rfl) ?_ ?_ ?_
        · exact ⟨false, false, false, false, false, false, false, false, false, false, false, false, false, false, false, false, false, false, false, false, false, false, false, false, false, false, false, false, false, false, false, false, false, undef, undef, undef, undef, undef, undef, undef, undef, undef, undef, undef, undef, undef, undef, undef, undef, undef, undef, undef, undef, undef, undef, undef, undef, undef, undef, undef, undef, undef, undef, undef, undef, .bool false, none, 0, 0, 0, 0, 0, rfl, (by simp only [Act.put, List.setIfInBounds_toArray, List.set_cons_zero, List.set_cons_succ]), Below.refl _ _, (fun h => by cases h), (fun h => by cases h), (fun h => by cases h), (fun h => by cases h), (fun h => by cases h), (fun h => by cases h), (fun h => by cases h), (fun h => by cases h), (fun h => by cases h), (fun h => by cases h), (fun h => by cases h), (fun h => by cases h), (fun h => by cases h), (fun h => by cases h), (fun h => by cases h), (fun h => by cases h), (fun h => by cases h), (fun h => by cases h), (fun h => by cases h), (fun h => by cases h), (fun h => by cases h), (fun h => by cases h), (fun h => by cases h), (fun h => by cases h), (fun h => by cases h), (fun h => by cases h), (fun h => by cases h), (fun h => by cases h), (fun h => by cases h), (fun h => by cases h), (fun h => by cases h), (fun h => by cases h), (fun h => by cases h), (fun h => by cases h), (fun h => by cases h), (fun h => by cases h)⟩
        · refine ⟨?_, ?_, ?_, ?_, ?_, ?_, ?_, ?_, ?_, ?_, ?_, ?_, ?_, ?_, ?_, ?_, ?_, ?_, ?_, ?_, ?_, ?_, ?_, ?_, ?_, ?_, ?_, ?_, ?_, ?_, ?_, ?_, ?_, trivial⟩
          · rintro L a w ⟨b0, b1, b2, b3, b4, b5, b6, b7, b8, b9, b10, b11, b12, b13, b14, b15, b16, b17, b18, b19, b20, b21, b22, b23, b24, b25, b26, b27, b28, b29, b30, b31, b32, x48, x49, x50, x51, x52, x53, x54, x55, x56, x57, x58, x59, x60, x61, x62, x63, x64, x65, x66, x67, x68, x69, x70, x71, x72, x73, x74, x75, x76, x77, x78, x79, x6, ao2, cap2, g13, c13, g16, c16, rfl, rfl, hb, cd0, cd1, cd2, cd3, cd4, cd5, cd6, cd7, cd8, cd9, cd10, cd11, cd12, cd13, cd14, cd15, cd16, cd17, cd18, cd19, cd20, cd21, cd22, cd23, cd24, cd25, cd26, cd27, cd28, cd29, cd30, cd31, cd32, wf2, wf13, wf16⟩ hf hd
            have hf' : b0 = false := hf
            subst hf'
            clear hf hd
            try simp only [List.setIfInBounds_toArray, List.set_cons_zero, List.set_cons_succ]
            intro K hK
            rw [if_pos (by rfl)]
            go_simp
            exact hK.out _ _ ⟨true, b1, b2, b3, b4, b5, b6, b7, b8, b9, b10, b11, b12, b13, b14, b15, b16, b17, b18, b19, b20, b21, b22, b23, b24, b25, b26, b27, b28, b29, b30, b31, b32, (.slice (some ⟨ga, 0, none⟩) (m + 1) ca), x49, x50, x51, x52, x53, x54, x55, x56, x57, x58, x59, x60, x61, x62, x63, x64, x65, x66, x67, x68, x69, x70, x71, x72, x73, x74, x75, x76, x77, x78, x79, x6, ao2, cap2, g13, c13, g16, c16, (by simp only [Act.put, List.setIfInBounds_toArray, List.set_cons_zero, List.set_cons_succ]), (by simp only [Act.put, List.setIfInBounds_toArray, List.set_cons_zero, List.set_cons_succ]), hb, (fun _ => rfl), cd1, cd2, cd3, cd4, cd5, cd6, cd7, cd8, cd9, cd10, cd11, cd12, cd13, cd14, cd15, cd16, cd17, cd18, cd19, cd20, cd21, cd22, cd23, cd24, cd25, cd26, cd27, cd28, cd29, cd30, cd31, cd32, wf2, wf13, wf16⟩
          · rintro L a w ⟨b0, b1, b2, b3, b4, b5, b6, b7, b8, b9, b10, b11, b12, b13, b14, b15, b16, b17, b18, b19, b20, b21, b22, b23, b24, b25, b26, b27, b28, b29, b30, b31, b32, x48, x49, x50, x51, x52, x53, x54, x55, x56, x57, x58, x59, x60, x61, x62, x63, x64, x65, x66, x67, x68, x69, x70, x71, x72, x73, x74, x75, x76, x77, x78, x79, x6, ao2, cap2, g13, c13, g16, c16, rfl, rfl, hb, cd0, cd1, cd2, cd3, cd4, cd5, cd6, cd7, cd8, cd9, cd10, cd11, cd12, cd13, cd14, cd15, cd16, cd17, cd18, cd19, cd20, cd21, cd22, cd23, cd24, cd25, cd26, cd27, cd28, cd29, cd30, cd31, cd32, wf2, wf13, wf16⟩ hf hd
            have hf' : b1 = false := hf
            subst hf'
            clear hf hd
            try simp only [List.setIfInBounds_toArray, List.set_cons_zero, List.set_cons_succ]
            intro K hK
            rw [if_pos (by rfl)]
            go_simp
            exact hK.out _ _ ⟨b0, true, b2, b3, b4, b5, b6, b7, b8, b9, b10, b11, b12, b13, b14, b15, b16, b17, b18, b19, b20, b21, b22, b23, b24, b25, b26, b27, b28, b29, b30, b31, b32, x48, (.slice ao (m + 1) cap), x50, x51, x52, x53, x54, x55, x56, x57, x58, x59, x60, x61, x62, x63, x64, x65, x66, x67, x68, x69, x70, x71, x72, x73, x74, x75, x76, x77, x78, x79, x6, ao2, cap2, g13, c13, g16, c16, (by simp only [Act.put, List.setIfInBounds_toArray, List.set_cons_zero, List.set_cons_succ]), (by simp only [Act.put, List.setIfInBounds_toArray, List.set_cons_zero, List.set_cons_succ]), hb, cd0, (fun _ => rfl), cd2, cd3, cd4, cd5, cd6, cd7, cd8, cd9, cd10, cd11, cd12, cd13, cd14, cd15, cd16, cd17, cd18, cd19, cd20, cd21, cd22, cd23, cd24, cd25, cd26, cd27, cd28, cd29, cd30, cd31, cd32, wf2, wf13, wf16⟩
          · rintro L a w ⟨b0, b1, b2, b3, b4, b5, b6, b7, b8, b9, b10, b11, b12, b13, b14, b15, b16, b17, b18, b19, b20, b21, b22, b23, b24, b25, b26, b27, b28, b29, b30, b31, b32, x48, x49, x50, x51, x52, x53, x54, x55, x56, x57, x58, x59, x60, x61, x62, x63, x64, x65, x66, x67, x68, x69, x70, x71, x72, x73, x74, x75, x76, x77, x78, x79, x6, ao2, cap2, g13, c13, g16, c16, rfl, rfl, hb, cd0, cd1, cd2, cd3, cd4, cd5, cd6, cd7, cd8, cd9, cd10, cd11, cd12, cd13, cd14, cd15, cd16, cd17, cd18, cd19, cd20, cd21, cd22, cd23, cd24, cd25, cd26, cd27, cd28, cd29, cd30, cd31, cd32, wf2, wf13, wf16⟩ hf hd
            have hf' : b2 = false := hf
            subst hf'
            have d1 : b1 = true := hd ⟨1, .data⟩ (by simp) rfl
            subst d1
            obtain rfl := cd1.out rfl
            clear hf hd
            try simp only [List.setIfInBounds_toArray, List.set_cons_zero, List.set_cons_succ]
            intro K hK
            rw [if_pos (by rfl)]
            go_simp
            go_at_call 9
            refine (hG _ ((hL0 _).past hb)).mono ?_
            rintro e w2 ⟨ao', cap', rfl, bx, hr⟩
            exact hK.out _ _ ⟨b0, true, true, b3, b4, b5, b6, b7, b8, b9, b10, b11, b12, b13, b14, b15, b16, b17, b18, b19, b20, b21, b22, b23, b24, b25, b26, b27, b28, b29, b30, b31, b32, x48, .slice ao (m + 1) cap, (.slice (ao') (m + 1) (cap')), x51, x52, x53, x54, x55, x56, x57, x58, x59, x60, x61, x62, x63, x64, x65, x66, x67, x68, x69, x70, x71, x72, x73, x74, x75, x76, x77, x78, x79, x6, ao', cap', g13, c13, g16, c16, (by simp only [Act.put, List.setIfInBounds_toArray, List.set_cons_zero, List.set_cons_succ]), (by simp only [Act.put, List.setIfInBounds_toArray, List.set_cons_zero, List.set_cons_succ]), hb.trans (bx.mono hb.size), cd0, (fun _ => rfl), (fun _ => rfl), cd3, cd4, cd5, cd6, cd7, cd8, cd9, cd10, cd11, cd12, cd13, cd14, cd15, cd16, cd17, cd18, cd19, cd20, cd21, cd22, cd23, cd24, cd25, cd26, cd27, cd28, cd29, cd30, cd31, cd32, (fun _ => isGR hr), (fun h => (wf13.out h).past bx), (fun h => (wf16.out h).past bx)⟩
          · rintro L a w ⟨b0, b1, b2, b3, b4, b5, b6, b7, b8, b9, b10, b11, b12, b13, b14, b15, b16, b17, b18, b19, b20, b21, b22, b23, b24, b25, b26, b27, b28, b29, b30, b31, b32, x48, x49, x50, x51, x52, x53, x54, x55, x56, x57, x58, x59, x60, x61, x62, x63, x64, x65, x66, x67, x68, x69, x70, x71, x72, x73, x74, x75, x76, x77, x78, x79, x6, ao2, cap2, g13, c13, g16, c16, rfl, rfl, hb, cd0, cd1, cd2, cd3, cd4, cd5, cd6, cd7, cd8, cd9, cd10, cd11, cd12, cd13, cd14, cd15, cd16, cd17, cd18, cd19, cd20, cd21, cd22, cd23, cd24, cd25, cd26, cd27, cd28, cd29, cd30, cd31, cd32, wf2, wf13, wf16⟩ hf hd
            have hf' : b3 = false := hf
            subst hf'
            have d0 : b0 = true := hd ⟨0, .data⟩ (by simp) rfl
            subst d0
            have d2 : b2 = true := hd ⟨2, .data⟩ (by simp) rfl
            subst d2
            obtain rfl := cd0.out rfl
            obtain rfl := cd2.out rfl
            clear hf hd
            have W2 := wf2.out rfl
            try simp only [List.setIfInBounds_toArray, List.set_cons_zero, List.set_cons_succ]
            intro K hK
            rw [if_pos (by rfl)]
            go_simp
            go_at_call 15
            refine (hS1 _ _ _ ((hA _).past hb) W2).mono ?_
            rintro e w2 ⟨rfl, bx⟩
            exact hK.out _ _ ⟨true, b1, true, true, b4, b5, b6, b7, b8, b9, b10, b11, b12, b13, b14, b15, b16, b17, b18, b19, b20, b21, b22, b23, b24, b25, b26, b27, b28, b29, b30, b31, b32, .slice (some ⟨ga, 0, none⟩) (m + 1) ca, x49, .slice ao2 (m + 1) cap2, (.bool true), x52, x53, x54, x55, x56, x57, x58, x59, x60, x61, x62, x63, x64, x65, x66, x67, x68, x69, x70, x71, x72, x73, x74, x75, x76, x77, x78, x79, x6, ao2, cap2, g13, c13, g16, c16, (by simp only [Act.put, List.setIfInBounds_toArray, List.set_cons_zero, List.set_cons_succ]), (by simp only [Act.put, List.setIfInBounds_toArray, List.set_cons_zero, List.set_cons_succ]), hb.trans (bx.mono hb.size), (fun _ => rfl), cd1, (fun _ => rfl), (fun _ => rfl), cd4, cd5, cd6, cd7, cd8, cd9, cd10, cd11, cd12, cd13, cd14, cd15, cd16, cd17, cd18, cd19, cd20, cd21, cd22, cd23, cd24, cd25, cd26, cd27, cd28, cd29, cd30, cd31, cd32, (fun h => (wf2.out h).past bx), (fun h => (wf13.out h).past bx), (fun h => (wf16.out h).past bx)⟩
          · rintro L a w ⟨b0, b1, b2, b3, b4, b5, b6, b7, b8, b9, b10, b11, b12, b13, b14, b15, b16, b17, b18, b19, b20, b21, b22, b23, b24, b25, b26, b27, b28, b29, b30, b31, b32, x48, x49, x50, x51, x52, x53, x54, x55, x56, x57, x58, x59, x60, x61, x62, x63, x64, x65, x66, x67, x68, x69, x70, x71, x72, x73, x74, x75, x76, x77, x78, x79, x6, ao2, cap2, g13, c13, g16, c16, rfl, rfl, hb, cd0, cd1, cd2, cd3, cd4, cd5, cd6, cd7, cd8, cd9, cd10, cd11, cd12, cd13, cd14, cd15, cd16, cd17, cd18, cd19, cd20, cd21, cd22, cd23, cd24, cd25, cd26, cd27, cd28, cd29, cd30, cd31, cd32, wf2, wf13, wf16⟩ hf hd
            have hf' : b4 = false := hf
            subst hf'
            have d3 : b3 = true := hd ⟨3, .data⟩ (by simp) rfl
            subst d3
            obtain rfl := cd3.out rfl
            clear hf hd
            try simp only [List.setIfInBounds_toArray, List.set_cons_zero, List.set_cons_succ]
            intro K hK
            rw [if_pos (by rfl)]
            go_simp
            exact hK.out _ _ ⟨b0, b1, b2, true, true, b5, b6, b7, b8, b9, b10, b11, b12, b13, b14, b15, b16, b17, b18, b19, b20, b21, b22, b23, b24, b25, b26, b27, b28, b29, b30, b31, b32, x48, x49, x50, .bool true, (.bool true), x53, x54, x55, x56, x57, x58, x59, x60, x61, x62, x63, x64, x65, x66, x67, x68, x69, x70, x71, x72, x73, x74, x75, x76, x77, x78, x79, x6, ao2, cap2, g13, c13, g16, c16, (by simp only [Act.put, List.setIfInBounds_toArray, List.set_cons_zero, List.set_cons_succ]), (by simp only [Act.put, List.setIfInBounds_toArray, List.set_cons_zero, List.set_cons_succ]), hb, cd0, cd1, cd2, (fun _ => rfl), (fun _ => rfl), cd5, cd6, cd7, cd8, cd9, cd10, cd11, cd12, cd13, cd14, cd15, cd16, cd17, cd18, cd19, cd20, cd21, cd22, cd23, cd24, cd25, cd26, cd27, cd28, cd29, cd30, cd31, cd32, wf2, wf13, wf16⟩
          · rintro L a w ⟨b0, b1, b2, b3, b4, b5, b6, b7, b8, b9, b10, b11, b12, b13, b14, b15, b16, b17, b18, b19, b20, b21, b22, b23, b24, b25, b26, b27, b28, b29, b30, b31, b32, x48, x49, x50, x51, x52, x53, x54, x55, x56, x57, x58, x59, x60, x61, x62, x63, x64, x65, x66, x67, x68, x69, x70, x71, x72, x73, x74, x75, x76, x77, x78, x79, x6, ao2, cap2, g13, c13, g16, c16, rfl, rfl, hb, cd0, cd1, cd2, cd3, cd4, cd5, cd6, cd7, cd8, cd9, cd10, cd11, cd12, cd13, cd14, cd15, cd16, cd17, cd18, cd19, cd20, cd21, cd22, cd23, cd24, cd25, cd26, cd27, cd28, cd29, cd30, cd31, cd32, wf2, wf13, wf16⟩ hf hd
            have hf' : b5 = false := hf
            subst hf'
            have d4 : b4 = true := hd ⟨4, .guard⟩ (by simp) rfl
            subst d4
            obtain rfl := cd4.out rfl
            clear hf hd
            try simp only [List.setIfInBounds_toArray, List.set_cons_zero, List.set_cons_succ]
            intro K hK
            rw [if_pos (by rfl)]
            go_simp
            exact hK.out _ _ ⟨b0, b1, b2, b3, true, true, b6, b7, b8, b9, b10, b11, b12, b13, b14, b15, b16, b17, b18, b19, b20, b21, b22, b23, b24, b25, b26, b27, b28, b29, b30, b31, b32, x48, x49, x50, x51, .bool true, (.slice (some ⟨ga, 0, none⟩) (m + 1) ca), x54, x55, x56, x57, x58, x59, x60, x61, x62, x63, x64, x65, x66, x67, x68, x69, x70, x71, x72, x73, x74, x75, x76, x77, x78, x79, x6, ao2, cap2, g13, c13, g16, c16, (by simp only [Act.put, List.setIfInBounds_toArray, List.set_cons_zero, List.set_cons_succ]), (by simp only [Act.put, List.setIfInBounds_toArray, List.set_cons_zero, List.set_cons_succ]), hb, cd0, cd1, cd2, cd3, (fun _ => rfl), (fun _ => rfl), cd6, cd7, cd8, cd9, cd10, cd11, cd12, cd13, cd14, cd15, cd16, cd17, cd18, cd19, cd20, cd21, cd22, cd23, cd24, cd25, cd26, cd27, cd28, cd29, cd30, cd31, cd32, wf2, wf13, wf16⟩
          · rintro L a w ⟨b0, b1, b2, b3, b4, b5, b6, b7, b8, b9, b10, b11, b12, b13, b14, b15, b16, b17, b18, b19, b20, b21, b22, b23, b24, b25, b26, b27, b28, b29, b30, b31, b32, x48, x49, x50, x51, x52, x53, x54, x55, x56, x57, x58, x59, x60, x61, x62, x63, x64, x65, x66, x67, x68, x69, x70, x71, x72, x73, x74, x75, x76, x77, x78, x79, x6, ao2, cap2, g13, c13, g16, c16, rfl, rfl, hb, cd0, cd1, cd2, cd3, cd4, cd5, cd6, cd7, cd8, cd9, cd10, cd11, cd12, cd13, cd14, cd15, cd16, cd17, cd18, cd19, cd20, cd21, cd22, cd23, cd24, cd25, cd26, cd27, cd28, cd29, cd30, cd31, cd32, wf2, wf13, wf16⟩ hf hd
            have hf' : b6 = false := hf
            subst hf'
            have d4 : b4 = true := hd ⟨4, .guard⟩ (by simp) rfl
            subst d4
            obtain rfl := cd4.out rfl
            clear hf hd
            try simp only [List.setIfInBounds_toArray, List.set_cons_zero, List.set_cons_succ]
            intro K hK
            rw [if_pos (by rfl)]
            go_simp
            exact hK.out _ _ ⟨b0, b1, b2, b3, true, b5, true, b7, b8, b9, b10, b11, b12, b13, b14, b15, b16, b17, b18, b19, b20, b21, b22, b23, b24, b25, b26, b27, b28, b29, b30, b31, b32, x48, x49, x50, x51, .bool true, x53, (.slice (some ⟨gb, 0, none⟩) (m + 1) cb), x55, x56, x57, x58, x59, x60, x61, x62, x63, x64, x65, x66, x67, x68, x69, x70, x71, x72, x73, x74, x75, x76, x77, x78, x79, x6, ao2, cap2, g13, c13, g16, c16, (by simp only [Act.put, List.setIfInBounds_toArray, List.set_cons_zero, List.set_cons_succ]), (by simp only [Act.put, List.setIfInBounds_toArray, List.set_cons_zero, List.set_cons_succ]), hb, cd0, cd1, cd2, cd3, (fun _ => rfl), cd5, (fun _ => rfl), cd7, cd8, cd9, cd10, cd11, cd12, cd13, cd14, cd15, cd16, cd17, cd18, cd19, cd20, cd21, cd22, cd23, cd24, cd25, cd26, cd27, cd28, cd29, cd30, cd31, cd32, wf2, wf13, wf16⟩
          · rintro L a w ⟨b0, b1, b2, b3, b4, b5, b6, b7, b8, b9, b10, b11, b12, b13, b14, b15, b16, b17, b18, b19, b20, b21, b22, b23, b24, b25, b26, b27, b28, b29, b30, b31, b32, x48, x49, x50, x51, x52, x53, x54, x55, x56, x57, x58, x59, x60, x61, x62, x63, x64, x65, x66, x67, x68, x69, x70, x71, x72, x73, x74, x75, x76, x77, x78, x79, x6, ao2, cap2, g13, c13, g16, c16, rfl, rfl, hb, cd0, cd1, cd2, cd3, cd4, cd5, cd6, cd7, cd8, cd9, cd10, cd11, cd12, cd13, cd14, cd15, cd16, cd17, cd18, cd19, cd20, cd21, cd22, cd23, cd24, cd25, cd26, cd27, cd28, cd29, cd30, cd31, cd32, wf2, wf13, wf16⟩ hf hd
            have hf' : b7 = false := hf
            subst hf'
            have d5 : b5 = true := hd ⟨5, .data⟩ (by simp) rfl
            subst d5
            have d6 : b6 = true := hd ⟨6, .data⟩ (by simp) rfl
            subst d6
            have d4 : b4 = true := hd ⟨4, .chain⟩ (by simp) rfl
            subst d4
            obtain rfl := cd5.out rfl
            obtain rfl := cd6.out rfl
            obtain rfl := cd4.out rfl
            clear hf hd
            try simp only [List.setIfInBounds_toArray, List.set_cons_zero, List.set_cons_succ]
            intro K hK
            rw [if_pos (by rfl)]
            go_simp
            go_at_call 15
            refine (hS2 _ ((hA _).past hb) ((hB _).past hb)).mono ?_
            rintro e w2 ⟨rfl, bx⟩
            exact hK.out _ _ ⟨b0, b1, b2, b3, true, true, true, true, b8, b9, b10, b11, b12, b13, b14, b15, b16, b17, b18, b19, b20, b21, b22, b23, b24, b25, b26, b27, b28, b29, b30, b31, b32, x48, x49, x50, x51, .bool true, .slice (some ⟨ga, 0, none⟩) (m + 1) ca, .slice (some ⟨gb, 0, none⟩) (m + 1) cb, (.bool sb), x56, x57, x58, x59, x60, x61, x62, x63, x64, x65, x66, x67, x68, x69, x70, x71, x72, x73, x74, x75, x76, x77, x78, x79, x6, ao2, cap2, g13, c13, g16, c16, (by simp only [Act.put, List.setIfInBounds_toArray, List.set_cons_zero, List.set_cons_succ]), (by simp only [Act.put, List.setIfInBounds_toArray, List.set_cons_zero, List.set_cons_succ]), hb.trans (bx.mono hb.size), cd0, cd1, cd2, cd3, (fun _ => rfl), (fun _ => rfl), (fun _ => rfl), (fun _ => rfl), cd8, cd9, cd10, cd11, cd12, cd13, cd14, cd15, cd16, cd17, cd18, cd19, cd20, cd21, cd22, cd23, cd24, cd25, cd26, cd27, cd28, cd29, cd30, cd31, cd32, (fun h => (wf2.out h).past bx), (fun h => (wf13.out h).past bx), (fun h => (wf16.out h).past bx)⟩
          · rintro L a w ⟨b0, b1, b2, b3, b4, b5, b6, b7, b8, b9, b10, b11, b12, b13, b14, b15, b16, b17, b18, b19, b20, b21, b22, b23, b24, b25, b26, b27, b28, b29, b30, b31, b32, x48, x49, x50, x51, x52, x53, x54, x55, x56, x57, x58, x59, x60, x61, x62, x63, x64, x65, x66, x67, x68, x69, x70, x71, x72, x73, x74, x75, x76, x77, x78, x79, x6, ao2, cap2, g13, c13, g16, c16, rfl, rfl, hb, cd0, cd1, cd2, cd3, cd4, cd5, cd6, cd7, cd8, cd9, cd10, cd11, cd12, cd13, cd14, cd15, cd16, cd17, cd18, cd19, cd20, cd21, cd22, cd23, cd24, cd25, cd26, cd27, cd28, cd29, cd30, cd31, cd32, wf2, wf13, wf16⟩ hf hd
            have hf' : b8 = false := hf
            subst hf'
            have d4 : b4 = true := hd ⟨4, .guard⟩ (by simp) rfl
            subst d4
            obtain rfl := cd4.out rfl
            clear hf hd
            try simp only [List.setIfInBounds_toArray, List.set_cons_zero, List.set_cons_succ]
            intro K hK
            rw [if_pos (by rfl)]
            go_simp
            exact hK.out _ _ ⟨b0, b1, b2, b3, true, b5, b6, b7, true, b9, b10, b11, b12, b13, b14, b15, b16, b17, b18, b19, b20, b21, b22, b23, b24, b25, b26, b27, b28, b29, b30, b31, b32, x48, x49, x50, x51, .bool true, x53, x54, x55, (.bool sb), x57, x58, x59, x60, x61, x62, x63, x64, x65, x66, x67, x68, x69, x70, x71, x72, x73, x74, x75, x76, x77, x78, x79, x6, ao2, cap2, g13, c13, g16, c16, (by simp only [Act.put, List.setIfInBounds_toArray, List.set_cons_zero, List.set_cons_succ]), (by simp only [Act.put, List.setIfInBounds_toArray, List.set_cons_zero, List.set_cons_succ]), hb, cd0, cd1, cd2, cd3, (fun _ => rfl), cd5, cd6, cd7, (fun _ => rfl), cd9, cd10, cd11, cd12, cd13, cd14, cd15, cd16, cd17, cd18, cd19, cd20, cd21, cd22, cd23, cd24, cd25, cd26, cd27, cd28, cd29, cd30, cd31, cd32, wf2, wf13, wf16⟩
          · rintro L a w ⟨b0, b1, b2, b3, b4, b5, b6, b7, b8, b9, b10, b11, b12, b13, b14, b15, b16, b17, b18, b19, b20, b21, b22, b23, b24, b25, b26, b27, b28, b29, b30, b31, b32, x48, x49, x50, x51, x52, x53, x54, x55, x56, x57, x58, x59, x60, x61, x62, x63, x64, x65, x66, x67, x68, x69, x70, x71, x72, x73, x74, x75, x76, x77, x78, x79, x6, ao2, cap2, g13, c13, g16, c16, rfl, rfl, hb, cd0, cd1, cd2, cd3, cd4, cd5, cd6, cd7, cd8, cd9, cd10, cd11, cd12, cd13, cd14, cd15, cd16, cd17, cd18, cd19, cd20, cd21, cd22, cd23, cd24, cd25, cd26, cd27, cd28, cd29, cd30, cd31, cd32, wf2, wf13, wf16⟩ hf hd
            have hf' : b9 = false := hf
            subst hf'
            have d7 : b7 = true := hd ⟨7, .data⟩ (by simp) rfl
            subst d7
            have d8 : b8 = true := hd ⟨8, .data⟩ (by simp) rfl
            subst d8
            have d4 : b4 = true := hd ⟨4, .guard⟩ (by simp) rfl
            subst d4
            obtain rfl := cd7.out rfl
            obtain rfl := cd8.out rfl
            obtain rfl := cd4.out rfl
            clear hf hd
            try simp only [List.setIfInBounds_toArray, List.set_cons_zero, List.set_cons_succ]
            intro K hK
            rw [if_pos (by rfl)]
            go_simp
            exact hK.out _ _ ⟨b0, b1, b2, b3, true, b5, b6, true, true, true, b10, b11, b12, b13, b14, b15, b16, b17, b18, b19, b20, b21, b22, b23, b24, b25, b26, b27, b28, b29, b30, b31, b32, x48, x49, x50, x51, .bool true, x53, x54, .bool sb, .bool sb, (.bool true), x58, x59, x60, x61, x62, x63, x64, x65, x66, x67, x68, x69, x70, x71, x72, x73, x74, x75, x76, x77, x78, x79, x6, ao2, cap2, g13, c13, g16, c16, (by simp only [Act.put, List.setIfInBounds_toArray, List.set_cons_zero, List.set_cons_succ]), (by simp only [Act.put, List.setIfInBounds_toArray, List.set_cons_zero, List.set_cons_succ]), hb, cd0, cd1, cd2, cd3, (fun _ => rfl), cd5, cd6, (fun _ => rfl), (fun _ => rfl), (fun _ => rfl), cd10, cd11, cd12, cd13, cd14, cd15, cd16, cd17, cd18, cd19, cd20, cd21, cd22, cd23, cd24, cd25, cd26, cd27, cd28, cd29, cd30, cd31, cd32, wf2, wf13, wf16⟩
          · rintro L a w ⟨b0, b1, b2, b3, b4, b5, b6, b7, b8, b9, b10, b11, b12, b13, b14, b15, b16, b17, b18, b19, b20, b21, b22, b23, b24, b25, b26, b27, b28, b29, b30, b31, b32, x48, x49, x50, x51, x52, x53, x54, x55, x56, x57, x58, x59, x60, x61, x62, x63, x64, x65, x66, x67, x68, x69, x70, x71, x72, x73, x74, x75, x76, x77, x78, x79, x6, ao2, cap2, g13, c13, g16, c16, rfl, rfl, hb, cd0, cd1, cd2, cd3, cd4, cd5, cd6, cd7, cd8, cd9, cd10, cd11, cd12, cd13, cd14, cd15, cd16, cd17, cd18, cd19, cd20, cd21, cd22, cd23, cd24, cd25, cd26, cd27, cd28, cd29, cd30, cd31, cd32, wf2, wf13, wf16⟩ hf hd
            have hf' : b10 = false := hf
            subst hf'
            have d4 : b4 = true := hd ⟨4, .data⟩ (by simp) rfl
            subst d4
            have d9 : b9 = true := hd ⟨9, .data⟩ (by simp) rfl
            subst d9
            obtain rfl := cd4.out rfl
            obtain rfl := cd9.out rfl
            clear hf hd
            try simp only [List.setIfInBounds_toArray, List.set_cons_zero, List.set_cons_succ]
            intro K hK
            rw [if_pos (by rfl)]
            go_simp
            exact hK.out _ _ ⟨b0, b1, b2, b3, true, b5, b6, b7, b8, true, true, b11, b12, b13, b14, b15, b16, b17, b18, b19, b20, b21, b22, b23, b24, b25, b26, b27, b28, b29, b30, b31, b32, x48, x49, x50, x51, .bool true, x53, x54, x55, x56, .bool true, (.bool true), x59, x60, x61, x62, x63, x64, x65, x66, x67, x68, x69, x70, x71, x72, x73, x74, x75, x76, x77, x78, x79, x6, ao2, cap2, g13, c13, g16, c16, (by simp only [Act.put, List.setIfInBounds_toArray, List.set_cons_zero, List.set_cons_succ]), (by simp only [Act.put, List.setIfInBounds_toArray, List.set_cons_zero, List.set_cons_succ]), hb, cd0, cd1, cd2, cd3, (fun _ => rfl), cd5, cd6, cd7, cd8, (fun _ => rfl), (fun _ => rfl), cd11, cd12, cd13, cd14, cd15, cd16, cd17, cd18, cd19, cd20, cd21, cd22, cd23, cd24, cd25, cd26, cd27, cd28, cd29, cd30, cd31, cd32, wf2, wf13, wf16⟩
          · rintro L a w ⟨b0, b1, b2, b3, b4, b5, b6, b7, b8, b9, b10, b11, b12, b13, b14, b15, b16, b17, b18, b19, b20, b21, b22, b23, b24, b25, b26, b27, b28, b29, b30, b31, b32, x48, x49, x50, x51, x52, x53, x54, x55, x56, x57, x58, x59, x60, x61, x62, x63, x64, x65, x66, x67, x68, x69, x70, x71, x72, x73, x74, x75, x76, x77, x78, x79, x6, ao2, cap2, g13, c13, g16, c16, rfl, rfl, hb, cd0, cd1, cd2, cd3, cd4, cd5, cd6, cd7, cd8, cd9, cd10, cd11, cd12, cd13, cd14, cd15, cd16, cd17, cd18, cd19, cd20, cd21, cd22, cd23, cd24, cd25, cd26, cd27, cd28, cd29, cd30, cd31, cd32, wf2, wf13, wf16⟩ hf hd
            have hf' : b11 = false := hf
            subst hf'
            have d10 : b10 = true := hd ⟨10, .data⟩ (by simp) rfl
            subst d10
            have d7 : b7 = true := hd ⟨7, .chain⟩ (by simp) rfl
            subst d7
            obtain rfl := cd10.out rfl
            obtain rfl := cd7.out rfl
            clear hf hd
            try simp only [List.setIfInBounds_toArray, List.set_cons_zero, List.set_cons_succ]
            intro K hK
            rw [if_pos (by rfl)]
            go_simp
            exact hK.out _ _ ⟨b0, b1, b2, b3, b4, b5, b6, true, b8, b9, true, true, b12, b13, b14, b15, b16, b17, b18, b19, b20, b21, b22, b23, b24, b25, b26, b27, b28, b29, b30, b31, b32, x48, x49, x50, x51, x52, x53, x54, .bool sb, x56, x57, .bool true, (.bool true), x60, x61, x62, x63, x64, x65, x66, x67, x68, x69, x70, x71, x72, x73, x74, x75, x76, x77, x78, x79, x6, ao2, cap2, g13, c13, g16, c16, (by simp only [Act.put, List.setIfInBounds_toArray, List.set_cons_zero, List.set_cons_succ]), (by simp only [Act.put, List.setIfInBounds_toArray, List.set_cons_zero, List.set_cons_succ]), hb, cd0, cd1, cd2, cd3, cd4, cd5, cd6, (fun _ => rfl), cd8, cd9, (fun _ => rfl), (fun _ => rfl), cd12, cd13, cd14, cd15, cd16, cd17, cd18, cd19, cd20, cd21, cd22, cd23, cd24, cd25, cd26, cd27, cd28, cd29, cd30, cd31, cd32, wf2, wf13, wf16⟩
          · rintro L a w ⟨b0, b1, b2, b3, b4, b5, b6, b7, b8, b9, b10, b11, b12, b13, b14, b15, b16, b17, b18, b19, b20, b21, b22, b23, b24, b25, b26, b27, b28, b29, b30, b31, b32, x48, x49, x50, x51, x52, x53, x54, x55, x56, x57, x58, x59, x60, x61, x62, x63, x64, x65, x66, x67, x68, x69, x70, x71, x72, x73, x74, x75, x76, x77, x78, x79, x6, ao2, cap2, g13, c13, g16, c16, rfl, rfl, hb, cd0, cd1, cd2, cd3, cd4, cd5, cd6, cd7, cd8, cd9, cd10, cd11, cd12, cd13, cd14, cd15, cd16, cd17, cd18, cd19, cd20, cd21, cd22, cd23, cd24, cd25, cd26, cd27, cd28, cd29, cd30, cd31, cd32, wf2, wf13, wf16⟩ hf hd
            have hf' : b12 = false := hf
            subst hf'
            have d11 : b11 = true := hd ⟨11, .guard⟩ (by simp) rfl
            subst d11
            obtain rfl := cd11.out rfl
            clear hf hd
            try simp only [List.setIfInBounds_toArray, List.set_cons_zero, List.set_cons_succ]
            intro K hK
            rw [if_pos (by rfl)]
            go_simp
            exact hK.out _ _ ⟨b0, b1, b2, b3, b4, b5, b6, b7, b8, b9, b10, true, true, b13, b14, b15, b16, b17, b18, b19, b20, b21, b22, b23, b24, b25, b26, b27, b28, b29, b30, b31, b32, x48, x49, x50, x51, x52, x53, x54, x55, x56, x57, x58, .bool true, (.slice (some ⟨ga, 0, none⟩) (m + 1) ca), x61, x62, x63, x64, x65, x66, x67, x68, x69, x70, x71, x72, x73, x74, x75, x76, x77, x78, x79, x6, ao2, cap2, g13, c13, g16, c16, (by simp only [Act.put, List.setIfInBounds_toArray, List.set_cons_zero, List.set_cons_succ]), (by simp only [Act.put, List.setIfInBounds_toArray, List.set_cons_zero, List.set_cons_succ]), hb, cd0, cd1, cd2, cd3, cd4, cd5, cd6, cd7, cd8, cd9, cd10, (fun _ => rfl), (fun _ => rfl), cd13, cd14, cd15, cd16, cd17, cd18, cd19, cd20, cd21, cd22, cd23, cd24, cd25, cd26, cd27, cd28, cd29, cd30, cd31, cd32, wf2, wf13, wf16⟩
          · rintro L a w ⟨b0, b1, b2, b3, b4, b5, b6, b7, b8, b9, b10, b11, b12, b13, b14, b15, b16, b17, b18, b19, b20, b21, b22, b23, b24, b25, b26, b27, b28, b29, b30, b31, b32, x48, x49, x50, x51, x52, x53, x54, x55, x56, x57, x58, x59, x60, x61, x62, x63, x64, x65, x66, x67, x68, x69, x70, x71, x72, x73, x74, x75, x76, x77, x78, x79, x6, ao2, cap2, g13, c13, g16, c16, rfl, rfl, hb, cd0, cd1, cd2, cd3, cd4, cd5, cd6, cd7, cd8, cd9, cd10, cd11, cd12, cd13, cd14, cd15, cd16, cd17, cd18, cd19, cd20, cd21, cd22, cd23, cd24, cd25, cd26, cd27, cd28, cd29, cd30, cd31, cd32, wf2, wf13, wf16⟩ hf hd
            have hf' : b13 = false := hf
            subst hf'
            have d12 : b12 = true := hd ⟨12, .data⟩ (by simp) rfl
            subst d12
            have d11 : b11 = true := hd ⟨11, .chain⟩ (by simp) rfl
            subst d11
            obtain rfl := cd12.out rfl
            obtain rfl := cd11.out rfl
            clear hf hd
            try simp only [List.setIfInBounds_toArray, List.set_cons_zero, List.set_cons_succ]
            intro K hK
            rw [if_pos (by rfl)]
            go_simp
            go_at_call 10
            refine (hY1 _ ((hA _).past hb)).mono ?_
            rintro e w2 ⟨g', c', rfl, o2, bx, q2⟩
            exact hK.out _ _ ⟨b0, b1, b2, b3, b4, b5, b6, b7, b8, b9, b10, true, true, true, b14, b15, b16, b17, b18, b19, b20, b21, b22, b23, b24, b25, b26, b27, b28, b29, b30, b31, b32, x48, x49, x50, x51, x52, x53, x54, x55, x56, x57, x58, .bool true, .slice (some ⟨ga, 0, none⟩) (m + 1) ca, (.slice (some ⟨(g'), 0, none⟩) na (c')), x62, x63, x64, x65, x66, x67, x68, x69, x70, x71, x72, x73, x74, x75, x76, x77, x78, x79, x6, ao2, cap2, g', c', g16, c16, (by simp only [Act.put, List.setIfInBounds_toArray, List.set_cons_zero, List.set_cons_succ]), (by simp only [Act.put, List.setIfInBounds_toArray, List.set_cons_zero, List.set_cons_succ]), hb.trans (bx.mono hb.size), cd0, cd1, cd2, cd3, cd4, cd5, cd6, cd7, cd8, cd9, cd10, (fun _ => rfl), (fun _ => rfl), (fun _ => rfl), cd14, cd15, cd16, cd17, cd18, cd19, cd20, cd21, cd22, cd23, cd24, cd25, cd26, cd27, cd28, cd29, cd30, cd31, cd32, (fun h => (wf2.out h).past bx), (fun _ => o2.isB), (fun h => (wf16.out h).past bx)⟩
          · rintro L a w ⟨b0, b1, b2, b3, b4, b5, b6, b7, b8, b9, b10, b11, b12, b13, b14, b15, b16, b17, b18, b19, b20, b21, b22, b23, b24, b25, b26, b27, b28, b29, b30, b31, b32, x48, x49, x50, x51, x52, x53, x54, x55, x56, x57, x58, x59, x60, x61, x62, x63, x64, x65, x66, x67, x68, x69, x70, x71, x72, x73, x74, x75, x76, x77, x78, x79, x6, ao2, cap2, g13, c13, g16, c16, rfl, rfl, hb, cd0, cd1, cd2, cd3, cd4, cd5, cd6, cd7, cd8, cd9, cd10, cd11, cd12, cd13, cd14, cd15, cd16, cd17, cd18, cd19, cd20, cd21, cd22, cd23, cd24, cd25, cd26, cd27, cd28, cd29, cd30, cd31, cd32, wf2, wf13, wf16⟩ hf hd
            have hf' : b14 = false := hf
            subst hf'
            have d13 : b13 = true := hd ⟨13, .data⟩ (by simp) rfl
            subst d13
            have d11 : b11 = true := hd ⟨11, .guard⟩ (by simp) rfl
            subst d11
            obtain rfl := cd13.out rfl
            obtain rfl := cd11.out rfl
            clear hf hd
            have W13 := wf13.out rfl
            try simp only [List.setIfInBounds_toArray, List.set_cons_zero, List.set_cons_succ]
            have cv := W13.conv byteTy Try.underlying9
            intro K hK
            rw [if_pos (by rfl)]
            go_simp
            exact hK.out _ _ ⟨b0, b1, b2, b3, b4, b5, b6, b7, b8, b9, b10, true, b12, true, true, b15, b16, b17, b18, b19, b20, b21, b22, b23, b24, b25, b26, b27, b28, b29, b30, b31, b32, x48, x49, x50, x51, x52, x53, x54, x55, x56, x57, x58, .bool true, x60, .slice (some ⟨g13, 0, none⟩) na c13, (.string ⟨RA.toArray⟩), x63, x64, x65, x66, x67, x68, x69, x70, x71, x72, x73, x74, x75, x76, x77, x78, x79, x6, ao2, cap2, g13, c13, g16, c16, (by simp only [Act.put, List.setIfInBounds_toArray, List.set_cons_zero, List.set_cons_succ]), (by simp only [Act.put, List.setIfInBounds_toArray, List.set_cons_zero, List.set_cons_succ]), hb, cd0, cd1, cd2, cd3, cd4, cd5, cd6, cd7, cd8, cd9, cd10, (fun _ => rfl), cd12, (fun _ => rfl), (fun _ => rfl), cd15, cd16, cd17, cd18, cd19, cd20, cd21, cd22, cd23, cd24, cd25, cd26, cd27, cd28, cd29, cd30, cd31, cd32, wf2, wf13, wf16⟩
          · rintro L a w ⟨b0, b1, b2, b3, b4, b5, b6, b7, b8, b9, b10, b11, b12, b13, b14, b15, b16, b17, b18, b19, b20, b21, b22, b23, b24, b25, b26, b27, b28, b29, b30, b31, b32, x48, x49, x50, x51, x52, x53, x54, x55, x56, x57, x58, x59, x60, x61, x62, x63, x64, x65, x66, x67, x68, x69, x70, x71, x72, x73, x74, x75, x76, x77, x78, x79, x6, ao2, cap2, g13, c13, g16, c16, rfl, rfl, hb, cd0, cd1, cd2, cd3, cd4, cd5, cd6, cd7, cd8, cd9, cd10, cd11, cd12, cd13, cd14, cd15, cd16, cd17, cd18, cd19, cd20, cd21, cd22, cd23, cd24, cd25, cd26, cd27, cd28, cd29, cd30, cd31, cd32, wf2, wf13, wf16⟩ hf hd
            have hf' : b15 = false := hf
            subst hf'
            have d11 : b11 = true := hd ⟨11, .guard⟩ (by simp) rfl
            subst d11
            obtain rfl := cd11.out rfl
            clear hf hd
            try simp only [List.setIfInBounds_toArray, List.set_cons_zero, List.set_cons_succ]
            intro K hK
            rw [if_pos (by rfl)]
            go_simp
            exact hK.out _ _ ⟨b0, b1, b2, b3, b4, b5, b6, b7, b8, b9, b10, true, b12, b13, b14, true, b16, b17, b18, b19, b20, b21, b22, b23, b24, b25, b26, b27, b28, b29, b30, b31, b32, x48, x49, x50, x51, x52, x53, x54, x55, x56, x57, x58, .bool true, x60, x61, x62, (.slice (some ⟨gb, 0, none⟩) (m + 1) cb), x64, x65, x66, x67, x68, x69, x70, x71, x72, x73, x74, x75, x76, x77, x78, x79, x6, ao2, cap2, g13, c13, g16, c16, (by simp only [Act.put, List.setIfInBounds_toArray, List.set_cons_zero, List.set_cons_succ]), (by simp only [Act.put, List.setIfInBounds_toArray, List.set_cons_zero, List.set_cons_succ]), hb, cd0, cd1, cd2, cd3, cd4, cd5, cd6, cd7, cd8, cd9, cd10, (fun _ => rfl), cd12, cd13, cd14, (fun _ => rfl), cd16, cd17, cd18, cd19, cd20, cd21, cd22, cd23, cd24, cd25, cd26, cd27, cd28, cd29, cd30, cd31, cd32, wf2, wf13, wf16⟩
          · rintro L a w ⟨b0, b1, b2, b3, b4, b5, b6, b7, b8, b9, b10, b11, b12, b13, b14, b15, b16, b17, b18, b19, b20, b21, b22, b23, b24, b25, b26, b27, b28, b29, b30, b31, b32, x48, x49, x50, x51, x52, x53, x54, x55, x56, x57, x58, x59, x60, x61, x62, x63, x64, x65, x66, x67, x68, x69, x70, x71, x72, x73, x74, x75, x76, x77, x78, x79, x6, ao2, cap2, g13, c13, g16, c16, rfl, rfl, hb, cd0, cd1, cd2, cd3, cd4, cd5, cd6, cd7, cd8, cd9, cd10, cd11, cd12, cd13, cd14, cd15, cd16, cd17, cd18, cd19, cd20, cd21, cd22, cd23, cd24, cd25, cd26, cd27, cd28, cd29, cd30, cd31, cd32, wf2, wf13, wf16⟩ hf hd
            have hf' : b16 = false := hf
            subst hf'
            have d15 : b15 = true := hd ⟨15, .data⟩ (by simp) rfl
            subst d15
            have d13 : b13 = true := hd ⟨13, .chain⟩ (by simp) rfl
            subst d13
            have d11 : b11 = true := hd ⟨11, .guard⟩ (by simp) rfl
            subst d11
            obtain rfl := cd15.out rfl
            obtain rfl := cd13.out rfl
            obtain rfl := cd11.out rfl
            clear hf hd
            have W13 := wf13.out rfl
            try simp only [List.setIfInBounds_toArray, List.set_cons_zero, List.set_cons_succ]
            intro K hK
            rw [if_pos (by rfl)]
            go_simp
            go_at_call 10
            refine (hY2 _ ((hB _).past hb)).mono ?_
            rintro e w2 ⟨g', c', rfl, o2, bx, q2⟩
            exact hK.out _ _ ⟨b0, b1, b2, b3, b4, b5, b6, b7, b8, b9, b10, true, b12, true, b14, true, true, b17, b18, b19, b20, b21, b22, b23, b24, b25, b26, b27, b28, b29, b30, b31, b32, x48, x49, x50, x51, x52, x53, x54, x55, x56, x57, x58, .bool true, x60, .slice (some ⟨g13, 0, none⟩) na c13, x62, .slice (some ⟨gb, 0, none⟩) (m + 1) cb, (.slice (some ⟨(g'), 0, none⟩) nb (c')), x65, x66, x67, x68, x69, x70, x71, x72, x73, x74, x75, x76, x77, x78, x79, x6, ao2, cap2, g13, c13, g', c', (by simp only [Act.put, List.setIfInBounds_toArray, List.set_cons_zero, List.set_cons_succ]), (by simp only [Act.put, List.setIfInBounds_toArray, List.set_cons_zero, List.set_cons_succ]), hb.trans (bx.mono hb.size), cd0, cd1, cd2, cd3, cd4, cd5, cd6, cd7, cd8, cd9, cd10, (fun _ => rfl), cd12, (fun _ => rfl), cd14, (fun _ => rfl), (fun _ => rfl), cd17, cd18, cd19, cd20, cd21, cd22, cd23, cd24, cd25, cd26, cd27, cd28, cd29, cd30, cd31, cd32, (fun h => (wf2.out h).past bx), (fun h => (wf13.out h).past bx), (fun _ => o2.isB)⟩
          · rintro L a w ⟨b0, b1, b2, b3, b4, b5, b6, b7, b8, b9, b10, b11, b12, b13, b14, b15, b16, b17, b18, b19, b20, b21, b22, b23, b24, b25, b26, b27, b28, b29, b30, b31, b32, x48, x49, x50, x51, x52, x53, x54, x55, x56, x57, x58, x59, x60, x61, x62, x63, x64, x65, x66, x67, x68, x69, x70, x71, x72, x73, x74, x75, x76, x77, x78, x79, x6, ao2, cap2, g13, c13, g16, c16, rfl, rfl, hb, cd0, cd1, cd2, cd3, cd4, cd5, cd6, cd7, cd8, cd9, cd10, cd11, cd12, cd13, cd14, cd15, cd16, cd17, cd18, cd19, cd20, cd21, cd22, cd23, cd24, cd25, cd26, cd27, cd28, cd29, cd30, cd31, cd32, wf2, wf13, wf16⟩ hf hd
            have hf' : b17 = false := hf
            subst hf'
            have d16 : b16 = true := hd ⟨16, .data⟩ (by simp) rfl
            subst d16
            have d11 : b11 = true := hd ⟨11, .guard⟩ (by simp) rfl
            subst d11
            obtain rfl := cd16.out rfl
            obtain rfl := cd11.out rfl
            clear hf hd
            have W16 := wf16.out rfl
            try simp only [List.setIfInBounds_toArray, List.set_cons_zero, List.set_cons_succ]
            have cv := W16.conv byteTy Try.underlying9
            intro K hK
            rw [if_pos (by rfl)]
            go_simp
            exact hK.out _ _ ⟨b0, b1, b2, b3, b4, b5, b6, b7, b8, b9, b10, true, b12, b13, b14, b15, true, true, b18, b19, b20, b21, b22, b23, b24, b25, b26, b27, b28, b29, b30, b31, b32, x48, x49, x50, x51, x52, x53, x54, x55, x56, x57, x58, .bool true, x60, x61, x62, x63, .slice (some ⟨g16, 0, none⟩) nb c16, (.string ⟨RB.toArray⟩), x66, x67, x68, x69, x70, x71, x72, x73, x74, x75, x76, x77, x78, x79, x6, ao2, cap2, g13, c13, g16, c16, (by simp only [Act.put, List.setIfInBounds_toArray, List.set_cons_zero, List.set_cons_succ]), (by simp only [Act.put, List.setIfInBounds_toArray, List.set_cons_zero, List.set_cons_succ]), hb, cd0, cd1, cd2, cd3, cd4, cd5, cd6, cd7, cd8, cd9, cd10, (fun _ => rfl), cd12, cd13, cd14, cd15, (fun _ => rfl), (fun _ => rfl), cd18, cd19, cd20, cd21, cd22, cd23, cd24, cd25, cd26, cd27, cd28, cd29, cd30, cd31, cd32, wf2, wf13, wf16⟩
          · rintro L a w ⟨b0, b1, b2, b3, b4, b5, b6, b7, b8, b9, b10, b11, b12, b13, b14, b15, b16, b17, b18, b19, b20, b21, b22, b23, b24, b25, b26, b27, b28, b29, b30, b31, b32, x48, x49, x50, x51, x52, x53, x54, x55, x56, x57, x58, x59, x60, x61, x62, x63, x64, x65, x66, x67, x68, x69, x70, x71, x72, x73, x74, x75, x76, x77, x78, x79, x6, ao2, cap2, g13, c13, g16, c16, rfl, rfl, hb, cd0, cd1, cd2, cd3, cd4, cd5, cd6, cd7, cd8, cd9, cd10, cd11, cd12, cd13, cd14, cd15, cd16, cd17, cd18, cd19, cd20, cd21, cd22, cd23, cd24, cd25, cd26, cd27, cd28, cd29, cd30, cd31, cd32, wf2, wf13, wf16⟩ hf hd
            have hf' : b18 = false := hf
            subst hf'
            have d14 : b14 = true := hd ⟨14, .data⟩ (by simp) rfl
            subst d14
            have d17 : b17 = true := hd ⟨17, .data⟩ (by simp) rfl
            subst d17
            have d11 : b11 = true := hd ⟨11, .guard⟩ (by simp) rfl
            subst d11
            obtain rfl := cd14.out rfl
            obtain rfl := cd17.out rfl
            obtain rfl := cd11.out rfl
            clear hf hd
            try simp only [List.setIfInBounds_toArray, List.set_cons_zero, List.set_cons_succ]
            intro K hK
            rw [if_pos (by rfl)]
            go_simp
            rw [HE.out]
            exact hK.out _ _ ⟨b0, b1, b2, b3, b4, b5, b6, b7, b8, b9, b10, true, b12, b13, true, b15, b16, true, true, b19, b20, b21, b22, b23, b24, b25, b26, b27, b28, b29, b30, b31, b32, x48, x49, x50, x51, x52, x53, x54, x55, x56, x57, x58, .bool true, x60, x61, .string ⟨RA.toArray⟩, x63, x64, .string ⟨RB.toArray⟩, (.bool sb), x67, x68, x69, x70, x71, x72, x73, x74, x75, x76, x77, x78, x79, x6, ao2, cap2, g13, c13, g16, c16, (by simp only [Act.put, List.setIfInBounds_toArray, List.set_cons_zero, List.set_cons_succ]), (by simp only [Act.put, List.setIfInBounds_toArray, List.set_cons_zero, List.set_cons_succ]), hb, cd0, cd1, cd2, cd3, cd4, cd5, cd6, cd7, cd8, cd9, cd10, (fun _ => rfl), cd12, cd13, (fun _ => rfl), cd15, cd16, (fun _ => rfl), (fun _ => rfl), cd19, cd20, cd21, cd22, cd23, cd24, cd25, cd26, cd27, cd28, cd29, cd30, cd31, cd32, wf2, wf13, wf16⟩
          · rintro L a w ⟨b0, b1, b2, b3, b4, b5, b6, b7, b8, b9, b10, b11, b12, b13, b14, b15, b16, b17, b18, b19, b20, b21, b22, b23, b24, b25, b26, b27, b28, b29, b30, b31, b32, x48, x49, x50, x51, x52, x53, x54, x55, x56, x57, x58, x59, x60, x61, x62, x63, x64, x65, x66, x67, x68, x69, x70, x71, x72, x73, x74, x75, x76, x77, x78, x79, x6, ao2, cap2, g13, c13, g16, c16, rfl, rfl, hb, cd0, cd1, cd2, cd3, cd4, cd5, cd6, cd7, cd8, cd9, cd10, cd11, cd12, cd13, cd14, cd15, cd16, cd17, cd18, cd19, cd20, cd21, cd22, cd23, cd24, cd25, cd26, cd27, cd28, cd29, cd30, cd31, cd32, wf2, wf13, wf16⟩ hf hd
            have hf' : b19 = false := hf
            subst hf'
            have d11 : b11 = true := hd ⟨11, .guard⟩ (by simp) rfl
            subst d11
            obtain rfl := cd11.out rfl
            clear hf hd
            try simp only [List.setIfInBounds_toArray, List.set_cons_zero, List.set_cons_succ]
            intro K hK
            rw [if_pos (by rfl)]
            go_simp
            exact hK.out _ _ ⟨b0, b1, b2, b3, b4, b5, b6, b7, b8, b9, b10, true, b12, b13, b14, b15, b16, b17, b18, true, b20, b21, b22, b23, b24, b25, b26, b27, b28, b29, b30, b31, b32, x48, x49, x50, x51, x52, x53, x54, x55, x56, x57, x58, .bool true, x60, x61, x62, x63, x64, x65, x66, (.bool sb), x68, x69, x70, x71, x72, x73, x74, x75, x76, x77, x78, x79, x6, ao2, cap2, g13, c13, g16, c16, (by simp only [Act.put, List.setIfInBounds_toArray, List.set_cons_zero, List.set_cons_succ]), (by simp only [Act.put, List.setIfInBounds_toArray, List.set_cons_zero, List.set_cons_succ]), hb, cd0, cd1, cd2, cd3, cd4, cd5, cd6, cd7, cd8, cd9, cd10, (fun _ => rfl), cd12, cd13, cd14, cd15, cd16, cd17, cd18, (fun _ => rfl), cd20, cd21, cd22, cd23, cd24, cd25, cd26, cd27, cd28, cd29, cd30, cd31, cd32, wf2, wf13, wf16⟩
          · rintro L a w ⟨b0, b1, b2, b3, b4, b5, b6, b7, b8, b9, b10, b11, b12, b13, b14, b15, b16, b17, b18, b19, b20, b21, b22, b23, b24, b25, b26, b27, b28, b29, b30, b31, b32, x48, x49, x50, x51, x52, x53, x54, x55, x56, x57, x58, x59, x60, x61, x62, x63, x64, x65, x66, x67, x68, x69, x70, x71, x72, x73, x74, x75, x76, x77, x78, x79, x6, ao2, cap2, g13, c13, g16, c16, rfl, rfl, hb, cd0, cd1, cd2, cd3, cd4, cd5, cd6, cd7, cd8, cd9, cd10, cd11, cd12, cd13, cd14, cd15, cd16, cd17, cd18, cd19, cd20, cd21, cd22, cd23, cd24, cd25, cd26, cd27, cd28, cd29, cd30, cd31, cd32, wf2, wf13, wf16⟩ hf hd
            have hf' : b20 = false := hf
            subst hf'
            have d18 : b18 = true := hd ⟨18, .data⟩ (by simp) rfl
            subst d18
            have d19 : b19 = true := hd ⟨19, .data⟩ (by simp) rfl
            subst d19
            have d11 : b11 = true := hd ⟨11, .guard⟩ (by simp) rfl
            subst d11
            obtain rfl := cd18.out rfl
            obtain rfl := cd19.out rfl
            obtain rfl := cd11.out rfl
            clear hf hd
            try simp only [List.setIfInBounds_toArray, List.set_cons_zero, List.set_cons_succ]
            intro K hK
            rw [if_pos (by rfl)]
            go_simp
            exact hK.out _ _ ⟨b0, b1, b2, b3, b4, b5, b6, b7, b8, b9, b10, true, b12, b13, b14, b15, b16, b17, true, true, true, b21, b22, b23, b24, b25, b26, b27, b28, b29, b30, b31, b32, x48, x49, x50, x51, x52, x53, x54, x55, x56, x57, x58, .bool true, x60, x61, x62, x63, x64, x65, .bool sb, .bool sb, (.bool true), x69, x70, x71, x72, x73, x74, x75, x76, x77, x78, x79, x6, ao2, cap2, g13, c13, g16, c16, (by simp only [Act.put, List.setIfInBounds_toArray, List.set_cons_zero, List.set_cons_succ]), (by simp only [Act.put, List.setIfInBounds_toArray, List.set_cons_zero, List.set_cons_succ]), hb, cd0, cd1, cd2, cd3, cd4, cd5, cd6, cd7, cd8, cd9, cd10, (fun _ => rfl), cd12, cd13, cd14, cd15, cd16, cd17, (fun _ => rfl), (fun _ => rfl), (fun _ => rfl), cd21, cd22, cd23, cd24, cd25, cd26, cd27, cd28, cd29, cd30, cd31, cd32, wf2, wf13, wf16⟩
          · rintro L a w ⟨b0, b1, b2, b3, b4, b5, b6, b7, b8, b9, b10, b11, b12, b13, b14, b15, b16, b17, b18, b19, b20, b21, b22, b23, b24, b25, b26, b27, b28, b29, b30, b31, b32, x48, x49, x50, x51, x52, x53, x54, x55, x56, x57, x58, x59, x60, x61, x62, x63, x64, x65, x66, x67, x68, x69, x70, x71, x72, x73, x74, x75, x76, x77, x78, x79, x6, ao2, cap2, g13, c13, g16, c16, rfl, rfl, hb, cd0, cd1, cd2, cd3, cd4, cd5, cd6, cd7, cd8, cd9, cd10, cd11, cd12, cd13, cd14, cd15, cd16, cd17, cd18, cd19, cd20, cd21, cd22, cd23, cd24, cd25, cd26, cd27, cd28, cd29, cd30, cd31, cd32, wf2, wf13, wf16⟩ hf hd
            have hf' : b21 = false := hf
            subst hf'
            have d11 : b11 = true := hd ⟨11, .data⟩ (by simp) rfl
            subst d11
            have d20 : b20 = true := hd ⟨20, .data⟩ (by simp) rfl
            subst d20
            obtain rfl := cd11.out rfl
            obtain rfl := cd20.out rfl
            clear hf hd
            try simp only [List.setIfInBounds_toArray, List.set_cons_zero, List.set_cons_succ]
            intro K hK
            rw [if_pos (by rfl)]
            go_simp
            exact hK.out _ _ ⟨b0, b1, b2, b3, b4, b5, b6, b7, b8, b9, b10, true, b12, b13, b14, b15, b16, b17, b18, b19, true, true, b22, b23, b24, b25, b26, b27, b28, b29, b30, b31, b32, x48, x49, x50, x51, x52, x53, x54, x55, x56, x57, x58, .bool true, x60, x61, x62, x63, x64, x65, x66, x67, .bool true, (.bool true), x70, x71, x72, x73, x74, x75, x76, x77, x78, x79, x6, ao2, cap2, g13, c13, g16, c16, (by simp only [Act.put, List.setIfInBounds_toArray, List.set_cons_zero, List.set_cons_succ]), (by simp only [Act.put, List.setIfInBounds_toArray, List.set_cons_zero, List.set_cons_succ]), hb, cd0, cd1, cd2, cd3, cd4, cd5, cd6, cd7, cd8, cd9, cd10, (fun _ => rfl), cd12, cd13, cd14, cd15, cd16, cd17, cd18, cd19, (fun _ => rfl), (fun _ => rfl), cd22, cd23, cd24, cd25, cd26, cd27, cd28, cd29, cd30, cd31, cd32, wf2, wf13, wf16⟩
          · rintro L a w ⟨b0, b1, b2, b3, b4, b5, b6, b7, b8, b9, b10, b11, b12, b13, b14, b15, b16, b17, b18, b19, b20, b21, b22, b23, b24, b25, b26, b27, b28, b29, b30, b31, b32, x48, x49, x50, x51, x52, x53, x54, x55, x56, x57, x58, x59, x60, x61, x62, x63, x64, x65, x66, x67, x68, x69, x70, x71, x72, x73, x74, x75, x76, x77, x78, x79, x6, ao2, cap2, g13, c13, g16, c16, rfl, rfl, hb, cd0, cd1, cd2, cd3, cd4, cd5, cd6, cd7, cd8, cd9, cd10, cd11, cd12, cd13, cd14, cd15, cd16, cd17, cd18, cd19, cd20, cd21, cd22, cd23, cd24, cd25, cd26, cd27, cd28, cd29, cd30, cd31, cd32, wf2, wf13, wf16⟩ hf hd
            have hf' : b22 = false := hf
            subst hf'
            have d21 : b21 = true := hd ⟨21, .data⟩ (by simp) rfl
            subst d21
            have d16 : b16 = true := hd ⟨16, .chain⟩ (by simp) rfl
            subst d16
            obtain rfl := cd21.out rfl
            obtain rfl := cd16.out rfl
            clear hf hd
            have W16 := wf16.out rfl
            try simp only [List.setIfInBounds_toArray, List.set_cons_zero, List.set_cons_succ]
            intro K hK
            rw [if_pos (by rfl)]
            go_simp
            exact hK.out _ _ ⟨b0, b1, b2, b3, b4, b5, b6, b7, b8, b9, b10, b11, b12, b13, b14, b15, true, b17, b18, b19, b20, true, true, b23, b24, b25, b26, b27, b28, b29, b30, b31, b32, x48, x49, x50, x51, x52, x53, x54, x55, x56, x57, x58, x59, x60, x61, x62, x63, .slice (some ⟨g16, 0, none⟩) nb c16, x65, x66, x67, x68, .bool true, (.bool true), x71, x72, x73, x74, x75, x76, x77, x78, x79, x6, ao2, cap2, g13, c13, g16, c16, (by simp only [Act.put, List.setIfInBounds_toArray, List.set_cons_zero, List.set_cons_succ]), (by simp only [Act.put, List.setIfInBounds_toArray, List.set_cons_zero, List.set_cons_succ]), hb, cd0, cd1, cd2, cd3, cd4, cd5, cd6, cd7, cd8, cd9, cd10, cd11, cd12, cd13, cd14, cd15, (fun _ => rfl), cd17, cd18, cd19, cd20, (fun _ => rfl), (fun _ => rfl), cd23, cd24, cd25, cd26, cd27, cd28, cd29, cd30, cd31, cd32, wf2, wf13, wf16⟩
          · rintro L a w ⟨b0, b1, b2, b3, b4, b5, b6, b7, b8, b9, b10, b11, b12, b13, b14, b15, b16, b17, b18, b19, b20, b21, b22, b23, b24, b25, b26, b27, b28, b29, b30, b31, b32, x48, x49, x50, x51, x52, x53, x54, x55, x56, x57, x58, x59, x60, x61, x62, x63, x64, x65, x66, x67, x68, x69, x70, x71, x72, x73, x74, x75, x76, x77, x78, x79, x6, ao2, cap2, g13, c13, g16, c16, rfl, rfl, hb, cd0, cd1, cd2, cd3, cd4, cd5, cd6, cd7, cd8, cd9, cd10, cd11, cd12, cd13, cd14, cd15, cd16, cd17, cd18, cd19, cd20, cd21, cd22, cd23, cd24, cd25, cd26, cd27, cd28, cd29, cd30, cd31, cd32, wf2, wf13, wf16⟩ hf hd
            have hf' : b23 = false := hf
            subst hf'
            have d22 : b22 = true := hd ⟨22, .guard⟩ (by simp) rfl
            subst d22
            obtain rfl := cd22.out rfl
            clear hf hd
            try simp only [List.setIfInBounds_toArray, List.set_cons_zero, List.set_cons_succ]
            intro K hK
            rw [if_pos (by rfl)]
            go_simp
            exact hK.out _ _ ⟨b0, b1, b2, b3, b4, b5, b6, b7, b8, b9, b10, b11, b12, b13, b14, b15, b16, b17, b18, b19, b20, b21, true, true, b24, b25, b26, b27, b28, b29, b30, b31, b32, x48, x49, x50, x51, x52, x53, x54, x55, x56, x57, x58, x59, x60, x61, x62, x63, x64, x65, x66, x67, x68, x69, .bool true, (.slice (some ⟨ga, 0, none⟩) (m + 1) ca), x72, x73, x74, x75, x76, x77, x78, x79, x6, ao2, cap2, g13, c13, g16, c16, (by simp only [Act.put, List.setIfInBounds_toArray, List.set_cons_zero, List.set_cons_succ]), (by simp only [Act.put, List.setIfInBounds_toArray, List.set_cons_zero, List.set_cons_succ]), hb, cd0, cd1, cd2, cd3, cd4, cd5, cd6, cd7, cd8, cd9, cd10, cd11, cd12, cd13, cd14, cd15, cd16, cd17, cd18, cd19, cd20, cd21, (fun _ => rfl), (fun _ => rfl), cd24, cd25, cd26, cd27, cd28, cd29, cd30, cd31, cd32, wf2, wf13, wf16⟩
          · rintro L a w ⟨b0, b1, b2, b3, b4, b5, b6, b7, b8, b9, b10, b11, b12, b13, b14, b15, b16, b17, b18, b19, b20, b21, b22, b23, b24, b25, b26, b27, b28, b29, b30, b31, b32, x48, x49, x50, x51, x52, x53, x54, x55, x56, x57, x58, x59, x60, x61, x62, x63, x64, x65, x66, x67, x68, x69, x70, x71, x72, x73, x74, x75, x76, x77, x78, x79, x6, ao2, cap2, g13, c13, g16, c16, rfl, rfl, hb, cd0, cd1, cd2, cd3, cd4, cd5, cd6, cd7, cd8, cd9, cd10, cd11, cd12, cd13, cd14, cd15, cd16, cd17, cd18, cd19, cd20, cd21, cd22, cd23, cd24, cd25, cd26, cd27, cd28, cd29, cd30, cd31, cd32, wf2, wf13, wf16⟩ hf hd
            have hf' : b24 = false := hf
            subst hf'
            have d22 : b22 = true := hd ⟨22, .guard⟩ (by simp) rfl
            subst d22
            obtain rfl := cd22.out rfl
            clear hf hd
            try simp only [List.setIfInBounds_toArray, List.set_cons_zero, List.set_cons_succ]
            intro K hK
            rw [if_pos (by rfl)]
            go_simp
            exact hK.out _ _ ⟨b0, b1, b2, b3, b4, b5, b6, b7, b8, b9, b10, b11, b12, b13, b14, b15, b16, b17, b18, b19, b20, b21, true, b23, true, b25, b26, b27, b28, b29, b30, b31, b32, x48, x49, x50, x51, x52, x53, x54, x55, x56, x57, x58, x59, x60, x61, x62, x63, x64, x65, x66, x67, x68, x69, .bool true, x71, (.slice (some ⟨ga, 0, none⟩) (m + 1) ca), x73, x74, x75, x76, x77, x78, x79, x6, ao2, cap2, g13, c13, g16, c16, (by simp only [Act.put, List.setIfInBounds_toArray, List.set_cons_zero, List.set_cons_succ]), (by simp only [Act.put, List.setIfInBounds_toArray, List.set_cons_zero, List.set_cons_succ]), hb, cd0, cd1, cd2, cd3, cd4, cd5, cd6, cd7, cd8, cd9, cd10, cd11, cd12, cd13, cd14, cd15, cd16, cd17, cd18, cd19, cd20, cd21, (fun _ => rfl), cd23, (fun _ => rfl), cd25, cd26, cd27, cd28, cd29, cd30, cd31, cd32, wf2, wf13, wf16⟩
          · rintro L a w ⟨b0, b1, b2, b3, b4, b5, b6, b7, b8, b9, b10, b11, b12, b13, b14, b15, b16, b17, b18, b19, b20, b21, b22, b23, b24, b25, b26, b27, b28, b29, b30, b31, b32, x48, x49, x50, x51, x52, x53, x54, x55, x56, x57, x58, x59, x60, x61, x62, x63, x64, x65, x66, x67, x68, x69, x70, x71, x72, x73, x74, x75, x76, x77, x78, x79, x6, ao2, cap2, g13, c13, g16, c16, rfl, rfl, hb, cd0, cd1, cd2, cd3, cd4, cd5, cd6, cd7, cd8, cd9, cd10, cd11, cd12, cd13, cd14, cd15, cd16, cd17, cd18, cd19, cd20, cd21, cd22, cd23, cd24, cd25, cd26, cd27, cd28, cd29, cd30, cd31, cd32, wf2, wf13, wf16⟩ hf hd
            have hf' : b25 = false := hf
            subst hf'
            have d22 : b22 = true := hd ⟨22, .guard⟩ (by simp) rfl
            subst d22
            obtain rfl := cd22.out rfl
            clear hf hd
            try simp only [List.setIfInBounds_toArray, List.set_cons_zero, List.set_cons_succ]
            intro K hK
            rw [if_pos (by rfl)]
            go_simp
            exact hK.out _ _ ⟨b0, b1, b2, b3, b4, b5, b6, b7, b8, b9, b10, b11, b12, b13, b14, b15, b16, b17, b18, b19, b20, b21, true, b23, b24, true, b26, b27, b28, b29, b30, b31, b32, x48, x49, x50, x51, x52, x53, x54, x55, x56, x57, x58, x59, x60, x61, x62, x63, x64, x65, x66, x67, x68, x69, .bool true, x71, x72, (.slice (some ⟨ga, 0, none⟩) (m + 1) ca), x74, x75, x76, x77, x78, x79, x6, ao2, cap2, g13, c13, g16, c16, (by simp only [Act.put, List.setIfInBounds_toArray, List.set_cons_zero, List.set_cons_succ]), (by simp only [Act.put, List.setIfInBounds_toArray, List.set_cons_zero, List.set_cons_succ]), hb, cd0, cd1, cd2, cd3, cd4, cd5, cd6, cd7, cd8, cd9, cd10, cd11, cd12, cd13, cd14, cd15, cd16, cd17, cd18, cd19, cd20, cd21, (fun _ => rfl), cd23, cd24, (fun _ => rfl), cd26, cd27, cd28, cd29, cd30, cd31, cd32, wf2, wf13, wf16⟩
          · rintro L a w ⟨b0, b1, b2, b3, b4, b5, b6, b7, b8, b9, b10, b11, b12, b13, b14, b15, b16, b17, b18, b19, b20, b21, b22, b23, b24, b25, b26, b27, b28, b29, b30, b31, b32, x48, x49, x50, x51, x52, x53, x54, x55, x56, x57, x58, x59, x60, x61, x62, x63, x64, x65, x66, x67, x68, x69, x70, x71, x72, x73, x74, x75, x76, x77, x78, x79, x6, ao2, cap2, g13, c13, g16, c16, rfl, rfl, hb, cd0, cd1, cd2, cd3, cd4, cd5, cd6, cd7, cd8, cd9, cd10, cd11, cd12, cd13, cd14, cd15, cd16, cd17, cd18, cd19, cd20, cd21, cd22, cd23, cd24, cd25, cd26, cd27, cd28, cd29, cd30, cd31, cd32, wf2, wf13, wf16⟩ hf hd
            have hf' : b26 = false := hf
            subst hf'
            have d25 : b25 = true := hd ⟨25, .data⟩ (by simp) rfl
            subst d25
            have d22 : b22 = true := hd ⟨22, .guard⟩ (by simp) rfl
            subst d22
            obtain rfl := cd25.out rfl
            obtain rfl := cd22.out rfl
            clear hf hd
            try simp only [List.setIfInBounds_toArray, List.set_cons_zero, List.set_cons_succ]
            intro K hK
            rw [if_pos (by rfl)]
            go_simp
            exact hK.out _ _ ⟨b0, b1, b2, b3, b4, b5, b6, b7, b8, b9, b10, b11, b12, b13, b14, b15, b16, b17, b18, b19, b20, b21, true, b23, b24, true, true, b27, b28, b29, b30, b31, b32, x48, x49, x50, x51, x52, x53, x54, x55, x56, x57, x58, x59, x60, x61, x62, x63, x64, x65, x66, x67, x68, x69, .bool true, x71, x72, .slice (some ⟨ga, 0, none⟩) (m + 1) ca, (.int .i64 ((m : Int) + 1)), x75, x76, x77, x78, x79, x6, ao2, cap2, g13, c13, g16, c16, (by simp only [Act.put, List.setIfInBounds_toArray, List.set_cons_zero, List.set_cons_succ]), (by simp only [Act.put, List.setIfInBounds_toArray, List.set_cons_zero, List.set_cons_succ]), hb, cd0, cd1, cd2, cd3, cd4, cd5, cd6, cd7, cd8, cd9, cd10, cd11, cd12, cd13, cd14, cd15, cd16, cd17, cd18, cd19, cd20, cd21, (fun _ => rfl), cd23, cd24, (fun _ => rfl), (fun _ => rfl), cd27, cd28, cd29, cd30, cd31, cd32, wf2, wf13, wf16⟩
          · rintro L a w ⟨b0, b1, b2, b3, b4, b5, b6, b7, b8, b9, b10, b11, b12, b13, b14, b15, b16, b17, b18, b19, b20, b21, b22, b23, b24, b25, b26, b27, b28, b29, b30, b31, b32, x48, x49, x50, x51, x52, x53, x54, x55, x56, x57, x58, x59, x60, x61, x62, x63, x64, x65, x66, x67, x68, x69, x70, x71, x72, x73, x74, x75, x76, x77, x78, x79, x6, ao2, cap2, g13, c13, g16, c16, rfl, rfl, hb, cd0, cd1, cd2, cd3, cd4, cd5, cd6, cd7, cd8, cd9, cd10, cd11, cd12, cd13, cd14, cd15, cd16, cd17, cd18, cd19, cd20, cd21, cd22, cd23, cd24, cd25, cd26, cd27, cd28, cd29, cd30, cd31, cd32, wf2, wf13, wf16⟩ hf hd
            have hf' : b27 = false := hf
            subst hf'
            have d26 : b26 = true := hd ⟨26, .data⟩ (by simp) rfl
            subst d26
            have d22 : b22 = true := hd ⟨22, .guard⟩ (by simp) rfl
            subst d22
            obtain rfl := cd26.out rfl
            obtain rfl := cd22.out rfl
            clear hf hd
            try simp only [List.setIfInBounds_toArray, List.set_cons_zero, List.set_cons_succ]
            have ew := IntWalk.i64_in (m : Int) (by omega)
            have ew2 : (m : Int) + 1 - 1 = m := by omega
            intro K hK
            rw [if_pos (by rfl)]
            go_simp
            exact hK.out _ _ ⟨b0, b1, b2, b3, b4, b5, b6, b7, b8, b9, b10, b11, b12, b13, b14, b15, b16, b17, b18, b19, b20, b21, true, b23, b24, b25, true, true, b28, b29, b30, b31, b32, x48, x49, x50, x51, x52, x53, x54, x55, x56, x57, x58, x59, x60, x61, x62, x63, x64, x65, x66, x67, x68, x69, .bool true, x71, x72, x73, .int .i64 ((m : Int) + 1), (.int .i64 m), x76, x77, x78, x79, x6, ao2, cap2, g13, c13, g16, c16, (by simp only [Act.put, List.setIfInBounds_toArray, List.set_cons_zero, List.set_cons_succ]), (by simp only [Act.put, List.setIfInBounds_toArray, List.set_cons_zero, List.set_cons_succ]), hb, cd0, cd1, cd2, cd3, cd4, cd5, cd6, cd7, cd8, cd9, cd10, cd11, cd12, cd13, cd14, cd15, cd16, cd17, cd18, cd19, cd20, cd21, (fun _ => rfl), cd23, cd24, cd25, (fun _ => rfl), (fun _ => rfl), cd28, cd29, cd30, cd31, cd32, wf2, wf13, wf16⟩
          · rintro L a w ⟨b0, b1, b2, b3, b4, b5, b6, b7, b8, b9, b10, b11, b12, b13, b14, b15, b16, b17, b18, b19, b20, b21, b22, b23, b24, b25, b26, b27, b28, b29, b30, b31, b32, x48, x49, x50, x51, x52, x53, x54, x55, x56, x57, x58, x59, x60, x61, x62, x63, x64, x65, x66, x67, x68, x69, x70, x71, x72, x73, x74, x75, x76, x77, x78, x79, x6, ao2, cap2, g13, c13, g16, c16, rfl, rfl, hb, cd0, cd1, cd2, cd3, cd4, cd5, cd6, cd7, cd8, cd9, cd10, cd11, cd12, cd13, cd14, cd15, cd16, cd17, cd18, cd19, cd20, cd21, cd22, cd23, cd24, cd25, cd26, cd27, cd28, cd29, cd30, cd31, cd32, wf2, wf13, wf16⟩ hf hd
            have hf' : b28 = false := hf
            subst hf'
            have d24 : b24 = true := hd ⟨24, .data⟩ (by simp) rfl
            subst d24
            have d27 : b27 = true := hd ⟨27, .data⟩ (by simp) rfl
            subst d27
            have d22 : b22 = true := hd ⟨22, .guard⟩ (by simp) rfl
            subst d22
            obtain rfl := cd24.out rfl
            obtain rfl := cd27.out rfl
            obtain rfl := cd22.out rfl
            clear hf hd
            try simp only [List.setIfInBounds_toArray, List.set_cons_zero, List.set_cons_succ]
            have hd := HD
            intro K hK
            rw [if_pos (by rfl)]
            go_simp
            exact hK.out _ _ ⟨b0, b1, b2, b3, b4, b5, b6, b7, b8, b9, b10, b11, b12, b13, b14, b15, b16, b17, b18, b19, b20, b21, true, b23, true, b25, b26, true, true, b29, b30, b31, b32, x48, x49, x50, x51, x52, x53, x54, x55, x56, x57, x58, x59, x60, x61, x62, x63, x64, x65, x66, x67, x68, x69, .bool true, x71, .slice (some ⟨ga, 0, none⟩) (m + 1) ca, x73, x74, .int .i64 m, (.slice (some ⟨ga, 0, none⟩) m ca), x77, x78, x79, x6, ao2, cap2, g13, c13, g16, c16, (by simp only [Act.put, List.setIfInBounds_toArray, List.set_cons_zero, List.set_cons_succ]), (by simp only [Act.put, List.setIfInBounds_toArray, List.set_cons_zero, List.set_cons_succ]), hb, cd0, cd1, cd2, cd3, cd4, cd5, cd6, cd7, cd8, cd9, cd10, cd11, cd12, cd13, cd14, cd15, cd16, cd17, cd18, cd19, cd20, cd21, (fun _ => rfl), cd23, (fun _ => rfl), cd25, cd26, (fun _ => rfl), (fun _ => rfl), cd29, cd30, cd31, cd32, wf2, wf13, wf16⟩
          · rintro L a w ⟨b0, b1, b2, b3, b4, b5, b6, b7, b8, b9, b10, b11, b12, b13, b14, b15, b16, b17, b18, b19, b20, b21, b22, b23, b24, b25, b26, b27, b28, b29, b30, b31, b32, x48, x49, x50, x51, x52, x53, x54, x55, x56, x57, x58, x59, x60, x61, x62, x63, x64, x65, x66, x67, x68, x69, x70, x71, x72, x73, x74, x75, x76, x77, x78, x79, x6, ao2, cap2, g13, c13, g16, c16, rfl, rfl, hb, cd0, cd1, cd2, cd3, cd4, cd5, cd6, cd7, cd8, cd9, cd10, cd11, cd12, cd13, cd14, cd15, cd16, cd17, cd18, cd19, cd20, cd21, cd22, cd23, cd24, cd25, cd26, cd27, cd28, cd29, cd30, cd31, cd32, wf2, wf13, wf16⟩ hf hd
            have hf' : b29 = false := hf
            subst hf'
            have d23 : b23 = true := hd ⟨23, .data⟩ (by simp) rfl
            subst d23
            have d28 : b28 = true := hd ⟨28, .data⟩ (by simp) rfl
            subst d28
            have d22 : b22 = true := hd ⟨22, .chain⟩ (by simp) rfl
            subst d22
            obtain rfl := cd23.out rfl
            obtain rfl := cd28.out rfl
            obtain rfl := cd22.out rfl
            clear hf hd
            try simp only [List.setIfInBounds_toArray, List.set_cons_zero, List.set_cons_succ]
            intro K hK
            rw [if_pos (by rfl)]
            go_simp
            go_at_call 15
            refine (hS3 _ ((hA _).past hb)).mono ?_
            rintro e w2 ⟨rfl, bx⟩
            exact hK.out _ _ ⟨b0, b1, b2, b3, b4, b5, b6, b7, b8, b9, b10, b11, b12, b13, b14, b15, b16, b17, b18, b19, b20, b21, true, true, b24, b25, b26, b27, true, true, b30, b31, b32, x48, x49, x50, x51, x52, x53, x54, x55, x56, x57, x58, x59, x60, x61, x62, x63, x64, x65, x66, x67, x68, x69, .bool true, .slice (some ⟨ga, 0, none⟩) (m + 1) ca, x72, x73, x74, x75, .slice (some ⟨ga, 0, none⟩) m ca, (.bool false), x78, x79, x6, ao2, cap2, g13, c13, g16, c16, (by simp only [Act.put, List.setIfInBounds_toArray, List.set_cons_zero, List.set_cons_succ]), (by simp only [Act.put, List.setIfInBounds_toArray, List.set_cons_zero, List.set_cons_succ]), hb.trans (bx.mono hb.size), cd0, cd1, cd2, cd3, cd4, cd5, cd6, cd7, cd8, cd9, cd10, cd11, cd12, cd13, cd14, cd15, cd16, cd17, cd18, cd19, cd20, cd21, (fun _ => rfl), (fun _ => rfl), cd24, cd25, cd26, cd27, (fun _ => rfl), (fun _ => rfl), cd30, cd31, cd32, (fun h => (wf2.out h).past bx), (fun h => (wf13.out h).past bx), (fun h => (wf16.out h).past bx)⟩
          · rintro L a w ⟨b0, b1, b2, b3, b4, b5, b6, b7, b8, b9, b10, b11, b12, b13, b14, b15, b16, b17, b18, b19, b20, b21, b22, b23, b24, b25, b26, b27, b28, b29, b30, b31, b32, x48, x49, x50, x51, x52, x53, x54, x55, x56, x57, x58, x59, x60, x61, x62, x63, x64, x65, x66, x67, x68, x69, x70, x71, x72, x73, x74, x75, x76, x77, x78, x79, x6, ao2, cap2, g13, c13, g16, c16, rfl, rfl, hb, cd0, cd1, cd2, cd3, cd4, cd5, cd6, cd7, cd8, cd9, cd10, cd11, cd12, cd13, cd14, cd15, cd16, cd17, cd18, cd19, cd20, cd21, cd22, cd23, cd24, cd25, cd26, cd27, cd28, cd29, cd30, cd31, cd32, wf2, wf13, wf16⟩ hf hd
            have hf' : b30 = false := hf
            subst hf'
            have d29 : b29 = true := hd ⟨29, .data⟩ (by simp) rfl
            subst d29
            have d22 : b22 = true := hd ⟨22, .guard⟩ (by simp) rfl
            subst d22
            obtain rfl := cd29.out rfl
            obtain rfl := cd22.out rfl
            clear hf hd
            try simp only [List.setIfInBounds_toArray, List.set_cons_zero, List.set_cons_succ]
            intro K hK
            rw [if_pos (by rfl)]
            go_simp
            exact hK.out _ _ ⟨b0, b1, b2, b3, b4, b5, b6, b7, b8, b9, b10, b11, b12, b13, b14, b15, b16, b17, b18, b19, b20, b21, true, b23, b24, b25, b26, b27, b28, true, true, b31, b32, x48, x49, x50, x51, x52, x53, x54, x55, x56, x57, x58, x59, x60, x61, x62, x63, x64, x65, x66, x67, x68, x69, .bool true, x71, x72, x73, x74, x75, x76, .bool false, (.bool true), x79, x6, ao2, cap2, g13, c13, g16, c16, (by simp only [Act.put, List.setIfInBounds_toArray, List.set_cons_zero, List.set_cons_succ]), (by simp only [Act.put, List.setIfInBounds_toArray, List.set_cons_zero, List.set_cons_succ]), hb, cd0, cd1, cd2, cd3, cd4, cd5, cd6, cd7, cd8, cd9, cd10, cd11, cd12, cd13, cd14, cd15, cd16, cd17, cd18, cd19, cd20, cd21, (fun _ => rfl), cd23, cd24, cd25, cd26, cd27, cd28, (fun _ => rfl), (fun _ => rfl), cd31, cd32, wf2, wf13, wf16⟩
          · rintro L a w ⟨b0, b1, b2, b3, b4, b5, b6, b7, b8, b9, b10, b11, b12, b13, b14, b15, b16, b17, b18, b19, b20, b21, b22, b23, b24, b25, b26, b27, b28, b29, b30, b31, b32, x48, x49, x50, x51, x52, x53, x54, x55, x56, x57, x58, x59, x60, x61, x62, x63, x64, x65, x66, x67, x68, x69, x70, x71, x72, x73, x74, x75, x76, x77, x78, x79, x6, ao2, cap2, g13, c13, g16, c16, rfl, rfl, hb, cd0, cd1, cd2, cd3, cd4, cd5, cd6, cd7, cd8, cd9, cd10, cd11, cd12, cd13, cd14, cd15, cd16, cd17, cd18, cd19, cd20, cd21, cd22, cd23, cd24, cd25, cd26, cd27, cd28, cd29, cd30, cd31, cd32, wf2, wf13, wf16⟩ hf hd
            have hf' : b31 = false := hf
            subst hf'
            have d22 : b22 = true := hd ⟨22, .data⟩ (by simp) rfl
            subst d22
            have d30 : b30 = true := hd ⟨30, .data⟩ (by simp) rfl
            subst d30
            obtain rfl := cd22.out rfl
            obtain rfl := cd30.out rfl
            clear hf hd
            try simp only [List.setIfInBounds_toArray, List.set_cons_zero, List.set_cons_succ]
            intro K hK
            rw [if_pos (by rfl)]
            go_simp
            exact hK.out _ _ ⟨b0, b1, b2, b3, b4, b5, b6, b7, b8, b9, b10, b11, b12, b13, b14, b15, b16, b17, b18, b19, b20, b21, true, b23, b24, b25, b26, b27, b28, b29, true, true, b32, x48, x49, x50, x51, x52, x53, x54, x55, x56, x57, x58, x59, x60, x61, x62, x63, x64, x65, x66, x67, x68, x69, .bool true, x71, x72, x73, x74, x75, x76, x77, .bool true, (.bool true), x6, ao2, cap2, g13, c13, g16, c16, (by simp only [Act.put, List.setIfInBounds_toArray, List.set_cons_zero, List.set_cons_succ]), (by simp only [Act.put, List.setIfInBounds_toArray, List.set_cons_zero, List.set_cons_succ]), hb, cd0, cd1, cd2, cd3, cd4, cd5, cd6, cd7, cd8, cd9, cd10, cd11, cd12, cd13, cd14, cd15, cd16, cd17, cd18, cd19, cd20, cd21, (fun _ => rfl), cd23, cd24, cd25, cd26, cd27, cd28, cd29, (fun _ => rfl), (fun _ => rfl), cd32, wf2, wf13, wf16⟩
          · rintro L a w ⟨b0, b1, b2, b3, b4, b5, b6, b7, b8, b9, b10, b11, b12, b13, b14, b15, b16, b17, b18, b19, b20, b21, b22, b23, b24, b25, b26, b27, b28, b29, b30, b31, b32, x48, x49, x50, x51, x52, x53, x54, x55, x56, x57, x58, x59, x60, x61, x62, x63, x64, x65, x66, x67, x68, x69, x70, x71, x72, x73, x74, x75, x76, x77, x78, x79, x6, ao2, cap2, g13, c13, g16, c16, rfl, rfl, hb, cd0, cd1, cd2, cd3, cd4, cd5, cd6, cd7, cd8, cd9, cd10, cd11, cd12, cd13, cd14, cd15, cd16, cd17, cd18, cd19, cd20, cd21, cd22, cd23, cd24, cd25, cd26, cd27, cd28, cd29, cd30, cd31, cd32, wf2, wf13, wf16⟩ hf hd
            have hf' : b32 = false := hf
            subst hf'
            have d31 : b31 = true := hd ⟨31, .data⟩ (by simp) rfl
            subst d31
            have d29 : b29 = true := hd ⟨29, .chain⟩ (by simp) rfl
            subst d29
            have d0 : b0 = true := hd ⟨0, .phase⟩ (by simp) rfl
            subst d0
            have d1 : b1 = true := hd ⟨1, .phase⟩ (by simp) rfl
            subst d1
            have d2 : b2 = true := hd ⟨2, .phase⟩ (by simp) rfl
            subst d2
            have d3 : b3 = true := hd ⟨3, .phase⟩ (by simp) rfl
            subst d3
            have d4 : b4 = true := hd ⟨4, .phase⟩ (by simp) rfl
            subst d4
            have d5 : b5 = true := hd ⟨5, .phase⟩ (by simp) rfl
            subst d5
            have d6 : b6 = true := hd ⟨6, .phase⟩ (by simp) rfl
            subst d6
            have d7 : b7 = true := hd ⟨7, .phase⟩ (by simp) rfl
            subst d7
            have d8 : b8 = true := hd ⟨8, .phase⟩ (by simp) rfl
            subst d8
            have d9 : b9 = true := hd ⟨9, .phase⟩ (by simp) rfl
            subst d9
            have d10 : b10 = true := hd ⟨10, .phase⟩ (by simp) rfl
            subst d10
            have d11 : b11 = true := hd ⟨11, .phase⟩ (by simp) rfl
            subst d11
            have d12 : b12 = true := hd ⟨12, .phase⟩ (by simp) rfl
            subst d12
            have d13 : b13 = true := hd ⟨13, .phase⟩ (by simp) rfl
            subst d13
            have d14 : b14 = true := hd ⟨14, .phase⟩ (by simp) rfl
            subst d14
            have d15 : b15 = true := hd ⟨15, .phase⟩ (by simp) rfl
            subst d15
            have d16 : b16 = true := hd ⟨16, .phase⟩ (by simp) rfl
            subst d16
            have d17 : b17 = true := hd ⟨17, .phase⟩ (by simp) rfl
            subst d17
            have d18 : b18 = true := hd ⟨18, .phase⟩ (by simp) rfl
            subst d18
            have d19 : b19 = true := hd ⟨19, .phase⟩ (by simp) rfl
            subst d19
            have d20 : b20 = true := hd ⟨20, .phase⟩ (by simp) rfl
            subst d20
            have d21 : b21 = true := hd ⟨21, .phase⟩ (by simp) rfl
            subst d21
            have d22 : b22 = true := hd ⟨22, .phase⟩ (by simp) rfl
            subst d22
            have d23 : b23 = true := hd ⟨23, .phase⟩ (by simp) rfl
            subst d23
            have d24 : b24 = true := hd ⟨24, .phase⟩ (by simp) rfl
            subst d24
            have d25 : b25 = true := hd ⟨25, .phase⟩ (by simp) rfl
            subst d25
            have d26 : b26 = true := hd ⟨26, .phase⟩ (by simp) rfl
            subst d26
            have d27 : b27 = true := hd ⟨27, .phase⟩ (by simp) rfl
            subst d27
            have d28 : b28 = true := hd ⟨28, .phase⟩ (by simp) rfl
            subst d28
            have d30 : b30 = true := hd ⟨30, .phase⟩ (by simp) rfl
            subst d30
            obtain rfl := cd31.out rfl
            obtain rfl := cd29.out rfl
            obtain rfl := cd0.out rfl
            obtain rfl := cd1.out rfl
            obtain rfl := cd2.out rfl
            obtain rfl := cd3.out rfl
            obtain rfl := cd4.out rfl
            obtain rfl := cd5.out rfl
            obtain rfl := cd6.out rfl
            obtain rfl := cd7.out rfl
            obtain rfl := cd8.out rfl
            obtain rfl := cd9.out rfl
            obtain rfl := cd10.out rfl
            obtain rfl := cd11.out rfl
            obtain rfl := cd12.out rfl
            obtain rfl := cd13.out rfl
            obtain rfl := cd14.out rfl
            obtain rfl := cd15.out rfl
            obtain rfl := cd16.out rfl
            obtain rfl := cd17.out rfl
            obtain rfl := cd18.out rfl
            obtain rfl := cd19.out rfl
            obtain rfl := cd20.out rfl
            obtain rfl := cd21.out rfl
            obtain rfl := cd22.out rfl
            obtain rfl := cd23.out rfl
            obtain rfl := cd24.out rfl
            obtain rfl := cd25.out rfl
            obtain rfl := cd26.out rfl
            obtain rfl := cd27.out rfl
            obtain rfl := cd28.out rfl
            obtain rfl := cd30.out rfl
            clear hf hd
            have W2 := wf2.out rfl
            have W13 := wf13.out rfl
            have W16 := wf16.out rfl
            try simp only [List.setIfInBounds_toArray, List.set_cons_zero, List.set_cons_succ]
            intro K hK
            rw [if_pos (by rfl)]
            go_simp
            exact hK.out _ _ ⟨true, true, true, true, true, true, true, true, true, true, true, true, true, true, true, true, true, true, true, true, true, true, true, true, true, true, true, true, true, true, true, true, true, .slice (some ⟨ga, 0, none⟩) (m + 1) ca, .slice ao (m + 1) cap, .slice ao2 (m + 1) cap2, .bool true, .bool true, .slice (some ⟨ga, 0, none⟩) (m + 1) ca, .slice (some ⟨gb, 0, none⟩) (m + 1) cb, .bool sb, .bool sb, .bool true, .bool true, .bool true, .slice (some ⟨ga, 0, none⟩) (m + 1) ca, .slice (some ⟨g13, 0, none⟩) na c13, .string ⟨RA.toArray⟩, .slice (some ⟨gb, 0, none⟩) (m + 1) cb, .slice (some ⟨g16, 0, none⟩) nb c16, .string ⟨RB.toArray⟩, .bool sb, .bool sb, .bool true, .bool true, .bool true, .slice (some ⟨ga, 0, none⟩) (m + 1) ca, .slice (some ⟨ga, 0, none⟩) (m + 1) ca, .slice (some ⟨ga, 0, none⟩) (m + 1) ca, .int .i64 ((m : Int) + 1), .int .i64 m, .slice (some ⟨ga, 0, none⟩) m ca, .bool false, .bool true, .bool true, (.bool true), ao2, cap2, g13, c13, g16, c16, (by simp only [Act.put, List.setIfInBounds_toArray, List.set_cons_zero, List.set_cons_succ]), (by simp only [Act.put, List.setIfInBounds_toArray, List.set_cons_zero, List.set_cons_succ]), hb, (fun _ => rfl), (fun _ => rfl), (fun _ => rfl), (fun _ => rfl), (fun _ => rfl), (fun _ => rfl), (fun _ => rfl), (fun _ => rfl), (fun _ => rfl), (fun _ => rfl), (fun _ => rfl), (fun _ => rfl), (fun _ => rfl), (fun _ => rfl), (fun _ => rfl), (fun _ => rfl), (fun _ => rfl), (fun _ => rfl), (fun _ => rfl), (fun _ => rfl), (fun _ => rfl), (fun _ => rfl), (fun _ => rfl), (fun _ => rfl), (fun _ => rfl), (fun _ => rfl), (fun _ => rfl), (fun _ => rfl), (fun _ => rfl), (fun _ => rfl), (fun _ => rfl), (fun _ => rfl), (fun _ => rfl), wf2, wf13, wf16⟩
        · rintro a w ⟨b0, b1, b2, b3, b4, b5, b6, b7, b8, b9, b10, b11, b12, b13, b14, b15, b16, b17, b18, b19, b20, b21, b22, b23, b24, b25, b26, b27, b28, b29, b30, b31, b32, x48, x49, x50, x51, x52, x53, x54, x55, x56, x57, x58, x59, x60, x61, x62, x63, x64, x65, x66, x67, x68, x69, x70, x71, x72, x73, x74, x75, x76, x77, x78, x79, x6, ao2, cap2, g13, c13, g16, c16, hL, rfl, hb, cd0, cd1, cd2, cd3, cd4, cd5, cd6, cd7, cd8, cd9, cd10, cd11, cd12, cd13, cd14, cd15, cd16, cd17, cd18, cd19, cd20, cd21, cd22, cd23, cd24, cd25, cd26, cd27, cd28, cd29, cd30, cd31, cd32, wf2, wf13, wf16⟩
          have hL' : [true, true, true, true, true, true, true, true, true, true, true, true, true, true, true, true, true, true, true, true, true, true, true, true, true, true, true, true, true, true, true, true, true] = [b0, b1, b2, b3, b4, b5, b6, b7, b8, b9, b10, b11, b12, b13, b14, b15, b16, b17, b18, b19, b20, b21, b22, b23, b24, b25, b26, b27, b28, b29, b30, b31, b32] := congrArg Array.toList hL
          simp only [List.cons.injEq, and_true] at hL'
          obtain ⟨rfl, rfl, rfl, rfl, rfl, rfl, rfl, rfl, rfl, rfl, rfl, rfl, rfl, rfl, rfl, rfl, rfl, rfl, rfl, rfl, rfl, rfl, rfl, rfl, rfl, rfl, rfl, rfl, rfl, rfl, rfl, rfl, rfl⟩ := hL'
          obtain rfl := cd0.out rfl
          obtain rfl := cd1.out rfl
          obtain rfl := cd2.out rfl
          obtain rfl := cd3.out rfl
          obtain rfl := cd4.out rfl
          obtain rfl := cd5.out rfl
          obtain rfl := cd6.out rfl
          obtain rfl := cd7.out rfl
          obtain rfl := cd8.out rfl
          obtain rfl := cd9.out rfl
          obtain rfl := cd10.out rfl
          obtain rfl := cd11.out rfl
          obtain rfl := cd12.out rfl
          obtain rfl := cd13.out rfl
          obtain rfl := cd14.out rfl
          obtain rfl := cd15.out rfl
          obtain rfl := cd16.out rfl
          obtain rfl := cd17.out rfl
          obtain rfl := cd18.out rfl
          obtain rfl := cd19.out rfl
          obtain rfl := cd20.out rfl
          obtain rfl := cd21.out rfl
          obtain rfl := cd22.out rfl
          obtain rfl := cd23.out rfl
          obtain rfl := cd24.out rfl
          obtain rfl := cd25.out rfl
          obtain rfl := cd26.out rfl
          obtain rfl := cd27.out rfl
          obtain rfl := cd28.out rfl
          obtain rfl := cd29.out rfl
          obtain rfl := cd30.out rfl
          obtain rfl := cd31.out rfl
          obtain rfl := cd32.out rfl
          have W2 := wf2.out rfl
          have W13 := wf13.out rfl
          have W16 := wf16.out rfl
          clear hL
          simp only [List.setIfInBounds_toArray, List.set_cons_zero, List.set_cons_succ]
          have BE := (BB _).trans (hb.mono (BB _).size)
          go_wp2_with fail
          go_ret
          exact ⟨rfl, BE⟩
end Go.Proofs.Ytalnnifmlhckbaa
