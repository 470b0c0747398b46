/-
  slices.Concat of bytes; ledger: leaf, Row (by gen_lgs.py).
-/
import Derived.Test.YtdmnjjknkcnkgaaDoorMg8
import Derived.Test.YtdmnjjknkcnkgaaDoorMg2
import Derived.Test.YtdmnjjknkcnkgaaDoorMg4
import Derived.RegionTactic
namespace Go.Proofs.YtdmnjjknkcnkgaaDoor
open Go.RowKit
set_option linter.unusedSimpArgs false
/-- A byte in a cell. -/
def EU8 : Enc UInt8 := ⟨1, fun u => [bc u], fun _ => rfl, fun u v hv => by
  obtain rfl := List.mem_singleton.1 hv
  rfl⟩
theorem EU8_all (l : List UInt8) : EU8.all l = bcs l := by
  induction l with
  | nil => rfl
  | cons x l ih => rw [EU8.all_cons, ih]; rfl
theorem rowTyU8 : RowTy EU8 Tryd.prog 44 5 0 := by
  obtain ⟨i, h1, h2, h3, h4⟩ := info_parts info_u8
  exact ⟨Tryd.underlying44, i, _, h1, h2, h3, rfl, by rw [h4]; decide⟩
theorem IsB.u8 {w : World} {ao : Option Addr} {n c : Nat} {l : List UInt8} (h : IsB w ao n c l) : IsR EU8 w ao n c l :=
  ⟨h.len, h.le, h.max, h.nil, fun a ha j u hu => by
    rw [EU8_all] at hu
    simp only [bcs, List.getElem?_map, Option.map_eq_some_iff] at hu
    obtain ⟨x, hx, rfl⟩ := hu
    exact h.cell a ha j x hx⟩
theorem IsR.b8 {w : World} {ao : Option Addr} {n c : Nat} {l : List UInt8} (h : IsR EU8 w ao n c l) : IsB w ao n c l :=
  ⟨h.len, h.le, h.max, h.nil, fun a ha j u hu => h.cell a ha j _ (by rw [EU8_all]; simp only [bcs, List.getElem?_map, hu]; rfl)⟩
theorem parts3 (w : World) (t : TypeId) (x0 : HdR) (x1 : HdR) (x2 : HdR) (l0 l1 l2 : List UInt8) (h0 : IsR EU8 w x0.a x0.n x0.c l0) (h1 : IsR EU8 w x1.a x1.n x1.c l1) (h2 : IsR EU8 w x2.a x2.n x2.c l2) :
    IsRR EU8 (w.alloc (.cells #[.slice x0.a x0.n x0.c, .slice x1.a x1.n x1.c, .slice x2.a x2.n x2.c] t)) 0 (some ⟨w.heap.size, 0, none⟩) 3 3 [l0, l1, l2] :=
  ⟨[x0, x1, x2], (OwnR.ofBlk (E := EH) (l := [x0, x1, x2]) (n := 3) (heap_alloc_new w _) rfl rfl (by omega)).isR, ((((Rd.one h0).append (Rd.one h1)).append (Rd.one h2))).past ((Below.refl _ _).alloc (Nat.le_refl _) _), (fun _ _ => Nat.zero_le _ : Frm 0 _), (fun _ _ _ _ => Nat.zero_le _ : FrmH 0 _)⟩
theorem parts4 (w : World) (t : TypeId) (x0 : HdR) (x1 : HdR) (x2 : HdR) (x3 : HdR) (l0 l1 l2 l3 : List UInt8) (h0 : IsR EU8 w x0.a x0.n x0.c l0) (h1 : IsR EU8 w x1.a x1.n x1.c l1) (h2 : IsR EU8 w x2.a x2.n x2.c l2) (h3 : IsR EU8 w x3.a x3.n x3.c l3) :
    IsRR EU8 (w.alloc (.cells #[.slice x0.a x0.n x0.c, .slice x1.a x1.n x1.c, .slice x2.a x2.n x2.c, .slice x3.a x3.n x3.c] t)) 0 (some ⟨w.heap.size, 0, none⟩) 4 4 [l0, l1, l2, l3] :=
  ⟨[x0, x1, x2, x3], (OwnR.ofBlk (E := EH) (l := [x0, x1, x2, x3]) (n := 4) (heap_alloc_new w _) rfl rfl (by omega)).isR, (((((Rd.one h0).append (Rd.one h1)).append (Rd.one h2)).append (Rd.one h3))).past ((Below.refl _ _).alloc (Nat.le_refl _) _), (fun _ _ => Nat.zero_le _ : Frm 0 _), (fun _ _ _ _ => Nat.zero_le _ : FrmH 0 _)⟩
theorem parts5 (w : World) (t : TypeId) (x0 : HdR) (x1 : HdR) (x2 : HdR) (x3 : HdR) (x4 : HdR) (l0 l1 l2 l3 l4 : List UInt8) (h0 : IsR EU8 w x0.a x0.n x0.c l0) (h1 : IsR EU8 w x1.a x1.n x1.c l1) (h2 : IsR EU8 w x2.a x2.n x2.c l2) (h3 : IsR EU8 w x3.a x3.n x3.c l3) (h4 : IsR EU8 w x4.a x4.n x4.c l4) :
    IsRR EU8 (w.alloc (.cells #[.slice x0.a x0.n x0.c, .slice x1.a x1.n x1.c, .slice x2.a x2.n x2.c, .slice x3.a x3.n x3.c, .slice x4.a x4.n x4.c] t)) 0 (some ⟨w.heap.size, 0, none⟩) 5 5 [l0, l1, l2, l3, l4] :=
  ⟨[x0, x1, x2, x3, x4], (OwnR.ofBlk (E := EH) (l := [x0, x1, x2, x3, x4]) (n := 5) (heap_alloc_new w _) rfl rfl (by omega)).isR, ((((((Rd.one h0).append (Rd.one h1)).append (Rd.one h2)).append (Rd.one h3)).append (Rd.one h4))).past ((Below.refl _ _).alloc (Nat.le_refl _) _), (fun _ _ => Nat.zero_le _ : Frm 0 _), (fun _ _ _ _ => Nat.zero_le _ : FrmH 0 _)⟩
set_option maxRecDepth 100000 in
/-- A new row with room for k, or nil. -/
theorem grow_u8 (k : Nat) (hk : k ≤ 1000000) (w : World) : Calls Tryd.prog 49 #[.slice none 0 0, .int .i64 k] w fun e w' => ∃ ao c, e = .returned (.slice ao 0 c) ∧ TxtR EU8 w' 5 w.heap.size ao 0 c [] ∧ Below w.heap.size w w' := by
  have hw : wrap64 ((k : Int) - 0) = k := by rw [Int.sub_zero]; exact IntWalk.wrap64_in _ (by omega)
  have hk2 : ¬ ((k : Int) < 0) := by omega
  by_cases h0 : 0 < k
  · have hk1 : (0 : Int) < (k : Int) := by omega
    go_enter Tryd.func49, Tryd.ntmps49
    go_wp2_with (at_builtin; refine wpList_append_nil_zr (E := EU8) rfl _ _ 44 3 rfl 5 rowTyU8 .i64 .i64 Tryd.underlying3 k rfl rfl h0 hk (by decide) ?_; intro c w1 q1 o1 b1)
    go_ret
    exact ⟨_, c, rfl, ⟨.inr ⟨_, rfl, o1, Nat.le_refl _⟩⟩, b1⟩
  · obtain rfl : k = 0 := by omega
    go_enter Tryd.func49, Tryd.ntmps49
    go_wp2_with fail
    go_ret
    exact ⟨none, 0, rfl, TxtR.nil _ _ _, Below.refl _ _⟩
set_option maxRecDepth 100000 in
set_option maxHeartbeats 1000000 in
theorem concat_u8 (w : World) (B : Nat) (ao : Option Addr) (k c : Nat) (ls : List (List UInt8)) (h : IsRR EU8 w B ao k c ls) (hk : k ≤ 1000) (N : Nat) (hN : ls.flatten.length = N) (hmx : N ≤ 100000) :
    Calls Tryd.prog 33 #[.slice ao k c] w fun e w' => ∃ ao' c', e = .returned (.slice ao' N c') ∧ TxtR EU8 w' 5 w.heap.size ao' N c' ls.flatten ∧ Below w.heap.size w w' := by
  have hln := h.len
  have next : ∀ j l, ls[j]? = some l → (ls.take (j + 1)).flatten = (ls.take j).flatten ++ l := fun j l hl => by
    obtain ⟨hj, rfl⟩ := List.getElem?_eq_some_iff.1 hl
    rw [List.take_succ_eq_append_getElem hj, List.flatten_append]
    simp
  have le : ∀ j, (ls.take j).flatten.length ≤ N := fun j => by
    rw [← hN]
    conv => rhs; rw [← List.take_append_drop j ls, List.flatten_append, List.length_append]
    exact Nat.le_add_right _ _
  have NX := Lib.hid next
  have LE := Lib.hid le
  clear next le
  go_enter Tryd.func33, Tryd.ntmps33
  go_wp2_with fail
  go_loopw [3, 11] (fun z i wr => ∃ j q : Nat, j ≤ k ∧ i = .int .i64 (j : Nat) ∧ z = .int .i64 (q : Nat) ∧ Hid (q = (ls.take j).flatten.length) ∧ w = wr) (fun _ i _ => k - (intOf i).toNat)
  case atStart => exact ⟨0, 0, by omega, rfl, rfl, rfl, rfl⟩
  case round =>
    obtain ⟨j, q, hj, rfl, rfl, hq, rfl⟩ := hrel
    by_cases hlt : j < k
    · have hlti : (j : Int) < (k : Int) := by omega
      obtain ⟨l, hl⟩ : ∃ l, ls[j]? = some l := ⟨ls[j]'(by omega), List.getElem?_eq_getElem _⟩
      obtain ⟨b, off, x, rfl, hb, hc, hx⟩ := h.at hl
      have e1 : (ls.take (j + 1)).flatten.length = q + x.n := by rw [NX.out j l hl, List.length_append, ← hq.out, hx.len]
      have hq2 : q + x.n ≤ N := by rw [← e1]; exact LE.out (j + 1)
      have HE := Lib.hid e1.symm
      have hneg : ¬ ((q : Int) + (x.n : Int) < 0) := by omega
      obtain ⟨xa, xn, xc⟩ := x
      simp only at hc HE hq2 hneg
      clear e1 hl hx
      go_wp2_with fail
      go_roundw
      case rel => exact ⟨j + 1, q + xn, by omega, by go_num, by go_num, HE.out, trivial⟩
      case measure => simp [intOf]; omega
    · have hlti : ¬ ((j : Int) < (k : Int)) := by omega
      obtain rfl : j = k := by omega
      obtain rfl : q = N := by rw [hq.out, ← hN, List.take_of_length_le (by omega)]
      go_wp2_with (go_at_call 49; refine (grow_u8 q (by omega) _).mono ?_; rintro en w1 ⟨ga, gc, rfl, o1, b1⟩)
      have B1 : Below w.heap.size w w1 := b1
      go_loopw [6, 27] (fun v i w2 => ∃ (j2 : Nat) (ao2 : Option Addr) (m c2 : Nat), j2 ≤ j ∧ i = .int .i64 (j2 : Nat) ∧ v = .slice ao2 m c2 ∧ TxtR EU8 w2 5 w.heap.size ao2 m c2 (ls.take j2).flatten ∧ Below w.heap.size w w2) (fun _ i _ => j - (intOf i).toNat)
      case atStart => exact ⟨0, ga, 0, gc, by omega, rfl, rfl, o1, B1⟩
      case round =>
        obtain ⟨j2, ao2, m, c2, hj2, rfl, rfl, o2, B2⟩ := hrel
        clear o1 b1 B1
        have hm := o2.len
        have hm2 := LE.out j2
        have hsz := B2.size
        by_cases hlt2 : j2 < j
        · have hlti2 : (j2 : Int) < (j : Int) := by omega
          obtain ⟨l, hl⟩ : ∃ l, ls[j2]? = some l := ⟨ls[j2]'(by omega), List.getElem?_eq_getElem _⟩
          obtain ⟨b, off, x, rfl, hb, hc, hx⟩ := h.at hl
          rw [← B2.cell hb] at hc
          have hx2 := hx.past B2
          have e1 := NX.out j2 l hl
          have HE := Lib.hid e1
          have hle2 : m + x.n ≤ 1000000 := by
            have := LE.out (j2 + 1)
            rw [e1, List.length_append, hm, hx.len] at this
            omega
          obtain ⟨xa, xn, xc⟩ := x
          simp only at hc hx2 hle2
          have hxl := hx2.len
          clear e1 hl hx hm
          go_wp2_with (at_builtin; refine wpList_append_txtR rfl _ _ 44 44 rfl 5 rowTyU8 w.heap.size ao2 m c2 _ rfl o2 hsz _ rfl xn l (hx2.src Tryd.underlying44) hxl hle2 ?_; intro a3 c3 w3 o3 b3)
          go_roundw
          case rel => exact ⟨j2 + 1, a3, m + xn, c3, by omega, by go_num, rfl, by rw [HE.out]; exact o3, B2.trans b3⟩
          case measure => simp [intOf]; omega
        · have hlti2 : ¬ ((j2 : Int) < (j : Int)) := by omega
          obtain rfl : j2 = j := by omega
          rw [List.take_of_length_le (by omega)] at o2
          obtain rfl : m = q := by rw [← o2.len, hN]
          go_wp2_with fail
          go_ret
          exact ⟨ao2, c2, rfl, o2, B2⟩
set_option maxRecDepth 100000 in
set_option maxHeartbeats 1000000 in
theorem lleaf_any (w : World) (hC : RC w) (ao : Option Addr) (n c : Nat) (ls : List (List UInt8)) (h : IsRR EU8 w 0 ao n c ls) (hn : n ≤ 1000) (hm : ls.flatten.length ≤ 100000) (LF : List UInt8) (hLF : ls.flatten = LF) :
    Calls Tryd.prog 21 #[.slice ao n c] w fun e w' => e = .returned (.agg (bcs (leafS LF)).toArray) ∧ Below w.heap.size w w' := by
  obtain ⟨N, hN⟩ : ∃ N, ls.flatten.length = N := ⟨_, rfl⟩
  rw [hN] at hm
  have HLF := Lib.hid hLF
  have HN := Lib.hid hN
  clear hLF hN
  go_enter Tryd.func21, Tryd.ntmps21
  go_upto_region 1 with (with_reducible refine wpList_alloc_blk (o := ⟨some 2, _, _, _, _, _⟩) rfl 47 rfl _ zeroHash ?_; intro w1 gr h1 b1 q1)
  have HC2 := concat_u8 w1 0 ao n c ls (h.past b1) hn N HN.out hm
  rw [HLF.out] at HC2
  have hC1 := hC.past b1
  go_wp2_with (first
    | (go_at_call 33; refine HC2.mono ?_; rintro e w2 ⟨ao2, c2, rfl, o2, b2⟩; have HL := leaf_any ao2 N c2 LF w2 (hC1.past b2) o2.isR.b8 (by omega))
    | (go_at_call 32; refine HL.mono ?_; rintro e w3 ⟨rfl, b3⟩; have B3 := b2.trans (b3.mono b2.size); have R3 : Hid (w3.heap[gr]? = some (.cells (bcs (List.replicate 32 0)).toArray 47 (0, 0))) := (B3.block gr (Array.getElem?_eq_some_iff.1 h1.out).1).trans h1.out)
    | ((with_reducible refine wpList_store_blk rfl 47 _ _ rfl gr _ (bcs (leafS LF)).toArray ?_ ?_ _ R3 32 sizeHash (by simp [bcs_length]) (by simp [bcs_length, leafS_length]) (bcs_all _) ?_); (rfl); (rfl); (intro w8 h8 b8)))
  refine bodyPost_ret (v := .agg (bcs (leafS LF)).toArray) (results_cell_row rfl _ _ gr _ _ (0, 0) _ rfl h8.out Tryd.underlying47 rfl (by rw [sizeHash]; simp [bcs_length, leafS_length])) rfl ⟨rfl, ?_⟩
  exact (b1.trans (B3.mono b1.size)).grown b8 (Nat.le_trans b1.size B3.size) (fun k hk => by cases hk; omega)
/-- What stands while the region's operations come up. -/
inductive LRow1 (B : Nat) (p : Nat) (q : Nat) (t : Int) (s : Int) (tb : ByteArray) (op : Int) (ra : Option Addr) (rn : Nat) (rc : Nat) (l1 : List UInt8) (l2 : List UInt8) (l3 : List UInt8) (l4 : List UInt8) (l5 : List UInt8) (l6 : List UInt8) (n1 : Nat) (n2 : Nat) (n3 : Nat) (n4 : Nat) (n5 : Nat) (n6 : Nat) (Z0 : Array Value) (HA : Array Value) (a0 : Act) (w0 : World) (L : Array Bool) (a : Act) (w : World) : Prop
  | mk (b0 b1 b2 b3 b4 b5 b6 b7 b8 b9 b10 b11 b12 b13 b14 b15 b16 b17 : Bool) (x7 x8 x9 x10 x11 x12 x13 x14 x15 x16 x17 x18 x19 x20 x21 x22 x23 : Value) (g1 : Nat) (c1 : Nat) (g2 : Nat) (c2 : Nat) (g3 : Nat) (c3 : Nat) (g4 : Nat) (c4 : Nat) (g6 : Nat) (c6 : Nat) (g5 : Nat) (c5 : Nat) (gs : Nat) (hL : L = #[b0, b1, b2, b3, b4, b5, b6, b7, b8, b9, b10, b11, b12, b13, b14, b15, b16, b17]) (ha : a = ⟨(((((((((((((((((a0.tmps.setIfInBounds 7 x7).setIfInBounds 8 x8).setIfInBounds 9 x9).setIfInBounds 10 x10).setIfInBounds 11 x11).setIfInBounds 12 x12).setIfInBounds 13 x13).setIfInBounds 14 x14).setIfInBounds 15 x15).setIfInBounds 16 x16).setIfInBounds 17 x17).setIfInBounds 18 x18).setIfInBounds 19 x19).setIfInBounds 20 x20).setIfInBounds 21 x21).setIfInBounds 22 x22).setIfInBounds 23 x23), a0.defers⟩) (hb : Below B w0 w) (cd0 : Hid (b0 = true → x7 = .int .i64 t)) (cd1 : Hid (b1 = true → x8 = .slice (some ⟨g1, 0, none⟩) n1 c1)) (cd2 : Hid (b2 = true → x9 = .int .i64 s)) (cd3 : Hid (b3 = true → x10 = .slice (some ⟨g2, 0, none⟩) n2 c2)) (cd4 : Hid (b4 = true → x11 = .pointer (some ⟨p, 1, none⟩))) (cd5 : Hid (b5 = true → x12 = .int .i64 op)) (cd6 : Hid (b6 = true → x13 = .slice (some ⟨g3, 0, none⟩) n3 c3)) (cd7 : Hid (b7 = true → x14 = .pointer (some ⟨p, 0, none⟩))) (cd8 : Hid (b8 = true → x15 = .string tb)) (cd9 : Hid (b9 = true → x16 = .slice (some ⟨g4, 0, none⟩) n4 c4)) (cd10 : Hid (b10 = true → x17 = .pointer (some ⟨p, 2, none⟩))) (cd11 : Hid (b11 = true → x18 = .slice ra rn rc)) (cd12 : Hid (b12 = true → x19 = .slice (some ⟨g6, 0, none⟩) n6 c6)) (cd13 : Hid (b13 = true → x20 = .string (⟨l6.toArray⟩ : ByteArray))) (cd14 : Hid (b14 = true → x21 = .slice (some ⟨g5, 0, none⟩) n5 c5)) (cd15 : Hid (b15 = true → x22 = .slice (some ⟨gs, 0, none⟩) 5 5)) (cd16 : Hid (b16 = true → x23 = .agg HA)) (f_p : Hid (Bk w p #[.string tb, .int .i64 op, .slice ra rn rc] 39)) (f_a : Hid (b1 = true → b15 = false → IsB w (some ⟨g1, 0, none⟩) n1 c1 l1)) (f_b : Hid (b3 = true → b15 = false → IsB w (some ⟨g2, 0, none⟩) n2 c2 l2)) (f_c : Hid (b6 = true → b15 = false → IsB w (some ⟨g3, 0, none⟩) n3 c3 l3)) (f_d : Hid (b9 = true → b15 = false → IsB w (some ⟨g4, 0, none⟩) n4 c4 l4)) (f_e : Hid (b14 = true → b15 = false → IsB w (some ⟨g5, 0, none⟩) n5 c5 l5)) (f_y : Hid (b12 = true → b13 = false → IsB w (some ⟨g6, 0, none⟩) n6 c6 l6)) (f_m : Hid (b15 = true → b16 = false → IsRR EU8 w 0 (some ⟨gs, 0, none⟩) 5 5 [l1, l2, l3, l4, l5])) (f_z : Hid (b17 = false → Bk w q Z0 47)) (f_s : Hid (b17 = true → Bk w q HA 47)) : LRow1 B p q t s tb op ra rn rc l1 l2 l3 l4 l5 l6 n1 n2 n3 n4 n5 n6 Z0 HA a0 w0 L a w
theorem chg_cells {w : World} {p : Nat} {tb : ByteArray} {op : Int} {ra : Option Addr} {rn rc : Nat} {t : TypeId} (h : Bk w p #[.string tb, .int .i64 op, .slice ra rn rc] t) : w.cell? ⟨p, 0, none⟩ = some (.string tb) ∧ w.cell? ⟨p, 1, none⟩ = some (.int .i64 op) ∧ w.cell? ⟨p, 2, none⟩ = some (.slice ra rn rc) := ⟨h.c rfl, h.c rfl, h.c rfl⟩
theorem encVs_60 {l : List V} (h : ∀ v ∈ l, v.s.size ≤ 60) : (encVs l).length ≤ 70 * l.length := by
  induction l with
  | nil => simp [encVs]
  | cons v l ih =>
    have h1 := ih fun x hx => h x (List.mem_cons_of_mem _ hx)
    have h2 := h v List.mem_cons_self
    have h3 : (encV v).length ≤ 70 := by
      have e : v.s.data.toList.length = v.s.size := by simp
      unfold encV
      rw [List.length_append, le_length]
      split
      · rw [le_length]; omega
      split
      · rw [le_length]; omega
      split
      · unfold tx; rw [List.length_append, le_length, List.length_take]; omega
      · simp
    rw [encVs_cons, List.length_append, List.length_cons]
    omega
theorem tx_len (s : List UInt8) : (tx s).length ≤ 2 + s.length := by
  unfold tx
  rw [List.length_append, le_length, List.length_take]
  omega
set_option maxRecDepth 100000 in
set_option maxHeartbeats 1600000 in
theorem row_any (w : World) (hC : RC w) (t s : Int) (c : Chg) (ra : Option Addr) (rn rc : Nat) (h : IsR EV w ra rn rc c.2) (hok : ChOk c) :
    Calls Tryd.prog 11 #[.int .i64 t, .int .i64 s, .agg #[.string c.1.1, .int .i64 c.1.2, .slice ra rn rc]] w fun e w' => e = .returned (.agg (bcs (rowS t s c)).toArray) ∧ Below w.heap.size w w' := by
  obtain ⟨⟨tb, op⟩, l⟩ := c
  obtain ⟨k1, k2, k3⟩ := hok
  simp only at k1 k2 k3 h ⊢
  have hln := h.len
  have HI10 := fun w => int_nil t w
  have HI20 := fun w => int_nil s w
  have HBy0 := fun w => byte_nil op w
  have HT10 := fun w => text_nil tb w
  have HT20 := fun w => text_nil (⟨(encR l).toArray⟩ : ByteArray) w
  have HRB0 := fun (w' : World) (hw : IsR EV w' ra rn rc l) => bytes_any ra rn rc l w' hw (by omega)
  have e6 : (encR l).length ≤ 1 + 70 * 15 := by
    have := encVs_60 k3
    unfold encR
    rw [List.length_append, le_length]
    omega
  have e4 := tx_len tb.data.toList
  have e5 := tx_len (encR l)
  have e40 : tb.data.toList.length = tb.size := by simp
  have hS : rowS t s ((tb, op), l) = leafS (le 8 (XU t) ++ (le 8 (XU s) ++ (le 1 (XU op) ++ (tx tb.data.toList ++ tx (encR l))))) := rfl
  have HH0 := rowS_len t s ((tb, op), l)
  have q1 : (le 8 (XU t)).length = 8 := le_length _ _
  have q2 : (le 8 (XU s)).length = 8 := le_length _ _
  have q3 : (le 1 (XU op)).length = 1 := le_length _ _
  obtain ⟨l1, hl1⟩ : ∃ x, le 8 (XU t) = x := ⟨_, rfl⟩
  obtain ⟨l2, hl2⟩ : ∃ x, le 8 (XU s) = x := ⟨_, rfl⟩
  obtain ⟨l3, hl3⟩ : ∃ x, le 1 (XU op) = x := ⟨_, rfl⟩
  obtain ⟨l4, hl4⟩ : ∃ x, tx tb.data.toList = x := ⟨_, rfl⟩
  obtain ⟨l6, hl6⟩ : ∃ x, encR l = x := ⟨_, rfl⟩
  have ht6 : (⟨l6.toArray⟩ : ByteArray).data.toList = l6 := rfl
  simp only [hl6, ht6] at HT20 HRB0 e6 e5 hS
  obtain ⟨l5, hl5⟩ : ∃ x, tx l6 = x := ⟨_, rfl⟩
  simp only [hl1, hl2, hl3, hl4, hl5] at HI10 HI20 HBy0 HT10 HT20 hS q1 q2 q3 e4 e5
  obtain ⟨H, hH⟩ : ∃ x, rowS t s ((tb, op), l) = x := ⟨_, rfl⟩
  rw [hH] at hS HH0 ⊢
  obtain ⟨HA, hHA⟩ : ∃ z, (bcs H).toArray = z := ⟨_, rfl⟩
  have HA0 : Hid (HA.size = 32) := Lib.hid (by rw [← hHA]; simp [bcs_length, HH0])
  have HA1 : Hid (HA.all (·.oneCell') = true) := Lib.hid (by rw [← hHA]; exact bcs_all _)
  obtain ⟨n1, hn1⟩ : ∃ n, 8 = n := ⟨_, rfl⟩
  obtain ⟨n3, hn3⟩ : ∃ n, 1 = n := ⟨_, rfl⟩
  obtain ⟨n4, hn4⟩ : ∃ n, l4.length = n := ⟨_, rfl⟩
  obtain ⟨n5, hn5⟩ : ∃ n, l5.length = n := ⟨_, rfl⟩
  obtain ⟨n6, hn6⟩ : ∃ n, l6.length = n := ⟨_, rfl⟩
  simp only [hn1] at HI10 HI20
  simp only [hn3] at HBy0
  simp only [hn4] at HT10
  simp only [hn5] at HT20
  simp only [hn6] at HRB0
  have HLf0 := fun (w' : World) (hC' : RC w') (a : Option Addr) (n c : Nat) (hm : IsRR EU8 w' 0 a n c [l1, l2, l3, l4, l5]) (hn : n ≤ 1000) => lleaf_any w' hC' a n c _ hm hn (by simp only [List.flatten_cons, List.flatten_nil, List.length_append, List.length_nil]; omega) (l1 ++ (l2 ++ (l3 ++ (l4 ++ l5)))) (by simp)
  rw [← hS] at HLf0
  simp only [hHA] at HLf0
  rw [hHA]
  obtain ⟨n2, hn2⟩ : ∃ n, n1 = n := ⟨_, rfl⟩
  have HI1 : ∀ w, Calls Tryd.prog 22 #[.slice none 0 0, .int .i64 t] w (Fresh w n1 l1) := HI10
  have HI2 : ∀ w, Calls Tryd.prog 22 #[.slice none 0 0, .int .i64 s] w (Fresh w n2 l2) := by rw [← hn2]; exact HI20
  have HBy : ∀ w, Calls Tryd.prog 23 #[.slice none 0 0, .int .i64 op] w (Fresh w n3 l3) := HBy0
  have HT1 : ∀ w, Calls Tryd.prog 24 #[.slice none 0 0, .string tb] w (Fresh w n4 l4) := HT10
  have HT2 : ∀ w, Calls Tryd.prog 24 #[.slice none 0 0, .string (⟨l6.toArray⟩ : ByteArray)] w (Fresh w n5 l5) := HT20
  clear hHA hl1 hl2 hl3 hl4 hl5 hl6 ht6 hH hS HH0 hn1 hn2 hn3 hn4 hn5 hn6 HI10 HI20 HBy0 HT10 HT20 q1 q2 q3 e4 e40 e5 e6 k1 k2 k3
  have B0 : Below w.heap.size w (w.alloc (.cells #[.string tb, .int .i64 op, .slice ra rn rc] 39)) := (Below.refl _ _).alloc (Nat.le_refl _) _
  have hP0 : Bk (w.alloc (.cells #[.string tb, .int .i64 op, .slice ra rn rc] 39)) w.heap.size #[.string tb, .int .i64 op, .slice ra rn rc] 39 := Bk.new w _ _
  go_enter Tryd.func11, Tryd.ntmps11
  go_upto_region 1 with (with_reducible refine wpList_alloc_blk (o := ⟨some 6, _, _, _, _, _⟩) rfl 47 rfl _ zeroHash ?_; intro W q hq b1 q1)
  have hP1 := hP0.past b1
  have B1' := B0.trans (b1.mono B0.size)
  have hq1 : w.heap.size < q := by rw [World.size_alloc] at q1; omega
  obtain ⟨Z0, hZ0⟩ : ∃ z, (bcs (List.replicate 32 0)).toArray = z := ⟨_, rfl⟩
  have HZ0 : Hid (Z0.size = 32) := Lib.hid (by rw [← hZ0]; simp [bcs_length])
  have hQ : Bk W q Z0 47 := by rw [← hZ0]; exact hq.out
  clear hZ0
  obtain ⟨p, hp⟩ : ∃ p, w.heap.size = p := ⟨_, rfl⟩
  have HG := Lib.hid hp
  rw [hp] at hP1 hq1 B1'
  simp only [hp]
  have hP := hP1
  have B1 : Below p w W := B1'
  have hBq : p ≤ q := by omega
  have hpq : some p ≠ some q := fun e => by have := Option.some.inj e; omega
  have hB0 : p ≤ W.heap.size := Nat.le_of_lt hP.lt
  have HRB := fun (w' : World) (hb : Below p W.drew w') => HRB0 w' (h.past (by rw [HG.out]; exact B1.trans ((Below.refl _ _).drew.trans hb)))
  have HLf := fun (w' : World) (hb : Below p W.drew w') (a : Option Addr) (n c : Nat) (hm : IsRR EU8 w' 0 a n c [l1, l2, l3, l4, l5]) (hn : n ≤ 1000) => HLf0 w' (hC.past (by rw [HG.out]; exact B1.trans ((Below.refl _ _).drew.trans hb))) a n c hm hn
  clear HRB0 HLf0 hq b1 q1 hp hP0 hP1 B0 B1' hC h
  simp only [Act.put, List.setIfInBounds_toArray, List.set_cons_zero, List.set_cons_succ]
  refine region_inv (LRow1 p p q t s tb op ra rn rc l1 l2 l3 l4 l5 l6 n1 n2 n3 n4 n5 n6 Z0 HA) (by kernel_rfl) (by kernel_rfl) ?_ ?_ ?_
  · exact ⟨false, false, false, false, false, false, false, false, false, false, false, false, false, false, false, false, false, false, undef, undef, undef, undef, undef, undef, undef, undef, undef, undef, undef, undef, undef, undef, undef, undef, undef, 0, 0, 0, 0, 0, 0, 0, 0, 0, 0, 0, 0, 0, rfl, (by simp only [Act.put, List.setIfInBounds_toArray, List.set_cons_zero, List.set_cons_succ]), Below.refl _ _, (fun h => by cases h), (fun h => by cases h), (fun h => by cases h), (fun h => by cases h), (fun h => by cases h), (fun h => by cases h), (fun h => by cases h), (fun h => by cases h), (fun h => by cases h), (fun h => by cases h), (fun h => by cases h), (fun h => by cases h), (fun h => by cases h), (fun h => by cases h), (fun h => by cases h), (fun h => by cases h), (fun h => by cases h), (hP.past (Below.refl _ _).drew), (fun h => by cases h), (fun h => by cases h), (fun h => by cases h), (fun h => by cases h), (fun h => by cases h), (fun h => by cases h), (fun h => by cases h), (fun h1 => hQ.past (Below.refl _ _).drew), (fun h => by cases h)⟩
  · refine ⟨?_, ?_, ?_, ?_, ?_, ?_, ?_, ?_, ?_, ?_, ?_, ?_, ?_, ?_, ?_, ?_, ?_, ?_, trivial⟩
    · rintro L a w ⟨b0, b1, b2, b3, b4, b5, b6, b7, b8, b9, b10, b11, b12, b13, b14, b15, b16, b17, x7, x8, x9, x10, x11, x12, x13, x14, x15, x16, x17, x18, x19, x20, x21, x22, x23, g1, c1, g2, c2, g3, c3, g4, c4, g6, c6, g5, c5, gs, rfl, rfl, hb, cd0, cd1, cd2, cd3, cd4, cd5, cd6, cd7, cd8, cd9, cd10, cd11, cd12, cd13, cd14, cd15, cd16, f_p, f_a, f_b, f_c, f_d, f_e, f_y, f_m, f_z, f_s⟩ hf hd
      have hf' : b0 = false := hf
      subst hf'
      clear hf hd
      have W_p := f_p.out
      try simp only [List.setIfInBounds_toArray, List.set_cons_zero, List.set_cons_succ]
      intro K hK
      rw [if_pos (by rfl)]
      go_simp
      exact hK.out _ _ ⟨true, b1, b2, b3, b4, b5, b6, b7, b8, b9, b10, b11, b12, b13, b14, b15, b16, b17, (.int .i64 t), x8, x9, x10, x11, x12, x13, x14, x15, x16, x17, x18, x19, x20, x21, x22, x23, g1, c1, g2, c2, g3, c3, g4, c4, g6, c6, g5, c5, gs, (by simp only [Act.put, List.setIfInBounds_toArray, List.set_cons_zero, List.set_cons_succ]), (by simp only [Act.put, List.setIfInBounds_toArray, List.set_cons_zero, List.set_cons_succ]), hb, (fun _ => rfl), cd1, cd2, cd3, cd4, cd5, cd6, cd7, cd8, cd9, cd10, cd11, cd12, cd13, cd14, cd15, cd16, f_p, f_a, f_b, f_c, f_d, f_e, f_y, f_m, f_z, f_s⟩
    · rintro L a w ⟨b0, b1, b2, b3, b4, b5, b6, b7, b8, b9, b10, b11, b12, b13, b14, b15, b16, b17, x7, x8, x9, x10, x11, x12, x13, x14, x15, x16, x17, x18, x19, x20, x21, x22, x23, g1, c1, g2, c2, g3, c3, g4, c4, g6, c6, g5, c5, gs, rfl, rfl, hb, cd0, cd1, cd2, cd3, cd4, cd5, cd6, cd7, cd8, cd9, cd10, cd11, cd12, cd13, cd14, cd15, cd16, f_p, f_a, f_b, f_c, f_d, f_e, f_y, f_m, f_z, f_s⟩ hf hd
      have hf' : b1 = false := hf
      subst hf'
      have d0 : b0 = true := hd ⟨0, .data⟩ (by simp) rfl
      subst d0
      obtain rfl := cd0.out rfl
      clear hf hd
      have W_p := f_p.out
      try simp only [List.setIfInBounds_toArray, List.set_cons_zero, List.set_cons_succ]
      intro K hK
      rw [if_pos (by rfl)]
      go_simp
      go_at_call 22
      refine (HI1 _).mono ?_
      rintro e w' ⟨g, c, rfl, o9, bx, _⟩
      exact hK.out _ _ ⟨true, true, b2, b3, b4, b5, b6, b7, b8, b9, b10, b11, b12, b13, b14, b15, b16, b17, .int .i64 t, (.slice (some ⟨g, 0, none⟩) n1 c), x9, x10, x11, x12, x13, x14, x15, x16, x17, x18, x19, x20, x21, x22, x23, g, c, g2, c2, g3, c3, g4, c4, g6, c6, g5, c5, gs, (by simp only [Act.put, List.setIfInBounds_toArray, List.set_cons_zero, List.set_cons_succ]), (by simp only [Act.put, List.setIfInBounds_toArray, List.set_cons_zero, List.set_cons_succ]), hb.trans (bx.mono (Nat.le_trans hB0 hb.size)), (fun _ => rfl), (fun _ => rfl), cd2, cd3, cd4, cd5, cd6, cd7, cd8, cd9, cd10, cd11, cd12, cd13, cd14, cd15, cd16, (f_p.out.past bx), (fun _ _ => o9.isB), (fun h0 h1 => (f_b.out h0 h1).past bx), (fun h0 h1 => (f_c.out h0 h1).past bx), (fun h0 h1 => (f_d.out h0 h1).past bx), (fun h0 h1 => (f_e.out h0 h1).past bx), (fun h0 h1 => (f_y.out h0 h1).past bx), (fun h0 h1 => (f_m.out h0 h1).past bx), (fun h1 => (f_z.out h1).past bx), (fun h0 => (f_s.out h0).past bx)⟩
    · rintro L a w ⟨b0, b1, b2, b3, b4, b5, b6, b7, b8, b9, b10, b11, b12, b13, b14, b15, b16, b17, x7, x8, x9, x10, x11, x12, x13, x14, x15, x16, x17, x18, x19, x20, x21, x22, x23, g1, c1, g2, c2, g3, c3, g4, c4, g6, c6, g5, c5, gs, rfl, rfl, hb, cd0, cd1, cd2, cd3, cd4, cd5, cd6, cd7, cd8, cd9, cd10, cd11, cd12, cd13, cd14, cd15, cd16, f_p, f_a, f_b, f_c, f_d, f_e, f_y, f_m, f_z, f_s⟩ hf hd
      have hf' : b2 = false := hf
      subst hf'
      clear hf hd
      have W_p := f_p.out
      try simp only [List.setIfInBounds_toArray, List.set_cons_zero, List.set_cons_succ]
      intro K hK
      rw [if_pos (by rfl)]
      go_simp
      exact hK.out _ _ ⟨b0, b1, true, b3, b4, b5, b6, b7, b8, b9, b10, b11, b12, b13, b14, b15, b16, b17, x7, x8, (.int .i64 s), x10, x11, x12, x13, x14, x15, x16, x17, x18, x19, x20, x21, x22, x23, g1, c1, g2, c2, g3, c3, g4, c4, g6, c6, g5, c5, gs, (by simp only [Act.put, List.setIfInBounds_toArray, List.set_cons_zero, List.set_cons_succ]), (by simp only [Act.put, List.setIfInBounds_toArray, List.set_cons_zero, List.set_cons_succ]), hb, cd0, cd1, (fun _ => rfl), cd3, cd4, cd5, cd6, cd7, cd8, cd9, cd10, cd11, cd12, cd13, cd14, cd15, cd16, f_p, f_a, f_b, f_c, f_d, f_e, f_y, f_m, f_z, f_s⟩
    · rintro L a w ⟨b0, b1, b2, b3, b4, b5, b6, b7, b8, b9, b10, b11, b12, b13, b14, b15, b16, b17, x7, x8, x9, x10, x11, x12, x13, x14, x15, x16, x17, x18, x19, x20, x21, x22, x23, g1, c1, g2, c2, g3, c3, g4, c4, g6, c6, g5, c5, gs, rfl, rfl, hb, cd0, cd1, cd2, cd3, cd4, cd5, cd6, cd7, cd8, cd9, cd10, cd11, cd12, cd13, cd14, cd15, cd16, f_p, f_a, f_b, f_c, f_d, f_e, f_y, f_m, f_z, f_s⟩ hf hd
      have hf' : b3 = false := hf
      subst hf'
      have d2 : b2 = true := hd ⟨2, .data⟩ (by simp) rfl
      subst d2
      have d1 : b1 = true := hd ⟨1, .chain⟩ (by simp) rfl
      subst d1
      obtain rfl := cd2.out rfl
      obtain rfl := cd1.out rfl
      clear hf hd
      have W_p := f_p.out
      try simp only [List.setIfInBounds_toArray, List.set_cons_zero, List.set_cons_succ]
      intro K hK
      rw [if_pos (by rfl)]
      go_simp
      go_at_call 22
      refine (HI2 _).mono ?_
      rintro e w' ⟨g, c, rfl, o9, bx, _⟩
      exact hK.out _ _ ⟨b0, true, true, true, b4, b5, b6, b7, b8, b9, b10, b11, b12, b13, b14, b15, b16, b17, x7, .slice (some ⟨g1, 0, none⟩) n1 c1, .int .i64 s, (.slice (some ⟨g, 0, none⟩) n2 c), x11, x12, x13, x14, x15, x16, x17, x18, x19, x20, x21, x22, x23, g1, c1, g, c, g3, c3, g4, c4, g6, c6, g5, c5, gs, (by simp only [Act.put, List.setIfInBounds_toArray, List.set_cons_zero, List.set_cons_succ]), (by simp only [Act.put, List.setIfInBounds_toArray, List.set_cons_zero, List.set_cons_succ]), hb.trans (bx.mono (Nat.le_trans hB0 hb.size)), cd0, (fun _ => rfl), (fun _ => rfl), (fun _ => rfl), cd4, cd5, cd6, cd7, cd8, cd9, cd10, cd11, cd12, cd13, cd14, cd15, cd16, (f_p.out.past bx), (fun h0 h1 => (f_a.out h0 h1).past bx), (fun _ _ => o9.isB), (fun h0 h1 => (f_c.out h0 h1).past bx), (fun h0 h1 => (f_d.out h0 h1).past bx), (fun h0 h1 => (f_e.out h0 h1).past bx), (fun h0 h1 => (f_y.out h0 h1).past bx), (fun h0 h1 => (f_m.out h0 h1).past bx), (fun h1 => (f_z.out h1).past bx), (fun h0 => (f_s.out h0).past bx)⟩
    · rintro L a w ⟨b0, b1, b2, b3, b4, b5, b6, b7, b8, b9, b10, b11, b12, b13, b14, b15, b16, b17, x7, x8, x9, x10, x11, x12, x13, x14, x15, x16, x17, x18, x19, x20, x21, x22, x23, g1, c1, g2, c2, g3, c3, g4, c4, g6, c6, g5, c5, gs, rfl, rfl, hb, cd0, cd1, cd2, cd3, cd4, cd5, cd6, cd7, cd8, cd9, cd10, cd11, cd12, cd13, cd14, cd15, cd16, f_p, f_a, f_b, f_c, f_d, f_e, f_y, f_m, f_z, f_s⟩ hf hd
      have hf' : b4 = false := hf
      subst hf'
      clear hf hd
      have W_p := f_p.out
      try simp only [List.setIfInBounds_toArray, List.set_cons_zero, List.set_cons_succ]
      intro K hK
      rw [if_pos (by rfl)]
      go_simp
      exact hK.out _ _ ⟨b0, b1, b2, b3, true, b5, b6, b7, b8, b9, b10, b11, b12, b13, b14, b15, b16, b17, x7, x8, x9, x10, (.pointer (some ⟨p, 1, none⟩)), x12, x13, x14, x15, x16, x17, x18, x19, x20, x21, x22, x23, g1, c1, g2, c2, g3, c3, g4, c4, g6, c6, g5, c5, gs, (by simp only [Act.put, List.setIfInBounds_toArray, List.set_cons_zero, List.set_cons_succ]), (by simp only [Act.put, List.setIfInBounds_toArray, List.set_cons_zero, List.set_cons_succ]), hb, cd0, cd1, cd2, cd3, (fun _ => rfl), cd5, cd6, cd7, cd8, cd9, cd10, cd11, cd12, cd13, cd14, cd15, cd16, f_p, f_a, f_b, f_c, f_d, f_e, f_y, f_m, f_z, f_s⟩
    · rintro L a w ⟨b0, b1, b2, b3, b4, b5, b6, b7, b8, b9, b10, b11, b12, b13, b14, b15, b16, b17, x7, x8, x9, x10, x11, x12, x13, x14, x15, x16, x17, x18, x19, x20, x21, x22, x23, g1, c1, g2, c2, g3, c3, g4, c4, g6, c6, g5, c5, gs, rfl, rfl, hb, cd0, cd1, cd2, cd3, cd4, cd5, cd6, cd7, cd8, cd9, cd10, cd11, cd12, cd13, cd14, cd15, cd16, f_p, f_a, f_b, f_c, f_d, f_e, f_y, f_m, f_z, f_s⟩ hf hd
      have hf' : b5 = false := hf
      subst hf'
      have d4 : b4 = true := hd ⟨4, .data⟩ (by simp) rfl
      subst d4
      obtain rfl := cd4.out rfl
      clear hf hd
      have W_p := f_p.out
      try simp only [List.setIfInBounds_toArray, List.set_cons_zero, List.set_cons_succ]
      obtain ⟨z0, z1, z2⟩ := chg_cells W_p
      intro K hK
      rw [if_pos (by rfl)]
      go_simp
      exact hK.out _ _ ⟨b0, b1, b2, b3, true, true, b6, b7, b8, b9, b10, b11, b12, b13, b14, b15, b16, b17, x7, x8, x9, x10, .pointer (some ⟨p, 1, none⟩), (.int .i64 op), x13, x14, x15, x16, x17, x18, x19, x20, x21, x22, x23, g1, c1, g2, c2, g3, c3, g4, c4, g6, c6, g5, c5, gs, (by simp only [Act.put, List.setIfInBounds_toArray, List.set_cons_zero, List.set_cons_succ]), (by simp only [Act.put, List.setIfInBounds_toArray, List.set_cons_zero, List.set_cons_succ]), hb, cd0, cd1, cd2, cd3, (fun _ => rfl), (fun _ => rfl), cd6, cd7, cd8, cd9, cd10, cd11, cd12, cd13, cd14, cd15, cd16, f_p, f_a, f_b, f_c, f_d, f_e, f_y, f_m, f_z, f_s⟩
    · rintro L a w ⟨b0, b1, b2, b3, b4, b5, b6, b7, b8, b9, b10, b11, b12, b13, b14, b15, b16, b17, x7, x8, x9, x10, x11, x12, x13, x14, x15, x16, x17, x18, x19, x20, x21, x22, x23, g1, c1, g2, c2, g3, c3, g4, c4, g6, c6, g5, c5, gs, rfl, rfl, hb, cd0, cd1, cd2, cd3, cd4, cd5, cd6, cd7, cd8, cd9, cd10, cd11, cd12, cd13, cd14, cd15, cd16, f_p, f_a, f_b, f_c, f_d, f_e, f_y, f_m, f_z, f_s⟩ hf hd
      have hf' : b6 = false := hf
      subst hf'
      have d5 : b5 = true := hd ⟨5, .data⟩ (by simp) rfl
      subst d5
      have d3 : b3 = true := hd ⟨3, .chain⟩ (by simp) rfl
      subst d3
      obtain rfl := cd5.out rfl
      obtain rfl := cd3.out rfl
      clear hf hd
      have W_p := f_p.out
      try simp only [List.setIfInBounds_toArray, List.set_cons_zero, List.set_cons_succ]
      intro K hK
      rw [if_pos (by rfl)]
      go_simp
      go_at_call 23
      refine (HBy _).mono ?_
      rintro e w' ⟨g, c, rfl, o9, bx, _⟩
      exact hK.out _ _ ⟨b0, b1, b2, true, b4, true, true, b7, b8, b9, b10, b11, b12, b13, b14, b15, b16, b17, x7, x8, x9, .slice (some ⟨g2, 0, none⟩) n2 c2, x11, .int .i64 op, (.slice (some ⟨g, 0, none⟩) n3 c), x14, x15, x16, x17, x18, x19, x20, x21, x22, x23, g1, c1, g2, c2, g, c, g4, c4, g6, c6, g5, c5, gs, (by simp only [Act.put, List.setIfInBounds_toArray, List.set_cons_zero, List.set_cons_succ]), (by simp only [Act.put, List.setIfInBounds_toArray, List.set_cons_zero, List.set_cons_succ]), hb.trans (bx.mono (Nat.le_trans hB0 hb.size)), cd0, cd1, cd2, (fun _ => rfl), cd4, (fun _ => rfl), (fun _ => rfl), cd7, cd8, cd9, cd10, cd11, cd12, cd13, cd14, cd15, cd16, (f_p.out.past bx), (fun h0 h1 => (f_a.out h0 h1).past bx), (fun h0 h1 => (f_b.out h0 h1).past bx), (fun _ _ => o9.isB), (fun h0 h1 => (f_d.out h0 h1).past bx), (fun h0 h1 => (f_e.out h0 h1).past bx), (fun h0 h1 => (f_y.out h0 h1).past bx), (fun h0 h1 => (f_m.out h0 h1).past bx), (fun h1 => (f_z.out h1).past bx), (fun h0 => (f_s.out h0).past bx)⟩
    · rintro L a w ⟨b0, b1, b2, b3, b4, b5, b6, b7, b8, b9, b10, b11, b12, b13, b14, b15, b16, b17, x7, x8, x9, x10, x11, x12, x13, x14, x15, x16, x17, x18, x19, x20, x21, x22, x23, g1, c1, g2, c2, g3, c3, g4, c4, g6, c6, g5, c5, gs, rfl, rfl, hb, cd0, cd1, cd2, cd3, cd4, cd5, cd6, cd7, cd8, cd9, cd10, cd11, cd12, cd13, cd14, cd15, cd16, f_p, f_a, f_b, f_c, f_d, f_e, f_y, f_m, f_z, f_s⟩ hf hd
      have hf' : b7 = false := hf
      subst hf'
      clear hf hd
      have W_p := f_p.out
      try simp only [List.setIfInBounds_toArray, List.set_cons_zero, List.set_cons_succ]
      intro K hK
      rw [if_pos (by rfl)]
      go_simp
      exact hK.out _ _ ⟨b0, b1, b2, b3, b4, b5, b6, true, b8, b9, b10, b11, b12, b13, b14, b15, b16, b17, x7, x8, x9, x10, x11, x12, x13, (.pointer (some ⟨p, 0, none⟩)), x15, x16, x17, x18, x19, x20, x21, x22, x23, g1, c1, g2, c2, g3, c3, g4, c4, g6, c6, g5, c5, gs, (by simp only [Act.put, List.setIfInBounds_toArray, List.set_cons_zero, List.set_cons_succ]), (by simp only [Act.put, List.setIfInBounds_toArray, List.set_cons_zero, List.set_cons_succ]), hb, cd0, cd1, cd2, cd3, cd4, cd5, cd6, (fun _ => rfl), cd8, cd9, cd10, cd11, cd12, cd13, cd14, cd15, cd16, f_p, f_a, f_b, f_c, f_d, f_e, f_y, f_m, f_z, f_s⟩
    · rintro L a w ⟨b0, b1, b2, b3, b4, b5, b6, b7, b8, b9, b10, b11, b12, b13, b14, b15, b16, b17, x7, x8, x9, x10, x11, x12, x13, x14, x15, x16, x17, x18, x19, x20, x21, x22, x23, g1, c1, g2, c2, g3, c3, g4, c4, g6, c6, g5, c5, gs, rfl, rfl, hb, cd0, cd1, cd2, cd3, cd4, cd5, cd6, cd7, cd8, cd9, cd10, cd11, cd12, cd13, cd14, cd15, cd16, f_p, f_a, f_b, f_c, f_d, f_e, f_y, f_m, f_z, f_s⟩ hf hd
      have hf' : b8 = false := hf
      subst hf'
      have d7 : b7 = true := hd ⟨7, .data⟩ (by simp) rfl
      subst d7
      obtain rfl := cd7.out rfl
      clear hf hd
      have W_p := f_p.out
      try simp only [List.setIfInBounds_toArray, List.set_cons_zero, List.set_cons_succ]
      obtain ⟨z0, z1, z2⟩ := chg_cells W_p
      intro K hK
      rw [if_pos (by rfl)]
      go_simp
      exact hK.out _ _ ⟨b0, b1, b2, b3, b4, b5, b6, true, true, b9, b10, b11, b12, b13, b14, b15, b16, b17, x7, x8, x9, x10, x11, x12, x13, .pointer (some ⟨p, 0, none⟩), (.string tb), x16, x17, x18, x19, x20, x21, x22, x23, g1, c1, g2, c2, g3, c3, g4, c4, g6, c6, g5, c5, gs, (by simp only [Act.put, List.setIfInBounds_toArray, List.set_cons_zero, List.set_cons_succ]), (by simp only [Act.put, List.setIfInBounds_toArray, List.set_cons_zero, List.set_cons_succ]), hb, cd0, cd1, cd2, cd3, cd4, cd5, cd6, (fun _ => rfl), (fun _ => rfl), cd9, cd10, cd11, cd12, cd13, cd14, cd15, cd16, f_p, f_a, f_b, f_c, f_d, f_e, f_y, f_m, f_z, f_s⟩
    · rintro L a w ⟨b0, b1, b2, b3, b4, b5, b6, b7, b8, b9, b10, b11, b12, b13, b14, b15, b16, b17, x7, x8, x9, x10, x11, x12, x13, x14, x15, x16, x17, x18, x19, x20, x21, x22, x23, g1, c1, g2, c2, g3, c3, g4, c4, g6, c6, g5, c5, gs, rfl, rfl, hb, cd0, cd1, cd2, cd3, cd4, cd5, cd6, cd7, cd8, cd9, cd10, cd11, cd12, cd13, cd14, cd15, cd16, f_p, f_a, f_b, f_c, f_d, f_e, f_y, f_m, f_z, f_s⟩ hf hd
      have hf' : b9 = false := hf
      subst hf'
      have d8 : b8 = true := hd ⟨8, .data⟩ (by simp) rfl
      subst d8
      have d6 : b6 = true := hd ⟨6, .chain⟩ (by simp) rfl
      subst d6
      obtain rfl := cd8.out rfl
      obtain rfl := cd6.out rfl
      clear hf hd
      have W_p := f_p.out
      try simp only [List.setIfInBounds_toArray, List.set_cons_zero, List.set_cons_succ]
      intro K hK
      rw [if_pos (by rfl)]
      go_simp
      go_at_call 24
      refine (HT1 _).mono ?_
      rintro e w' ⟨g, c, rfl, o9, bx, _⟩
      exact hK.out _ _ ⟨b0, b1, b2, b3, b4, b5, true, b7, true, true, b10, b11, b12, b13, b14, b15, b16, b17, x7, x8, x9, x10, x11, x12, .slice (some ⟨g3, 0, none⟩) n3 c3, x14, .string tb, (.slice (some ⟨g, 0, none⟩) n4 c), x17, x18, x19, x20, x21, x22, x23, g1, c1, g2, c2, g3, c3, g, c, g6, c6, g5, c5, gs, (by simp only [Act.put, List.setIfInBounds_toArray, List.set_cons_zero, List.set_cons_succ]), (by simp only [Act.put, List.setIfInBounds_toArray, List.set_cons_zero, List.set_cons_succ]), hb.trans (bx.mono (Nat.le_trans hB0 hb.size)), cd0, cd1, cd2, cd3, cd4, cd5, (fun _ => rfl), cd7, (fun _ => rfl), (fun _ => rfl), cd10, cd11, cd12, cd13, cd14, cd15, cd16, (f_p.out.past bx), (fun h0 h1 => (f_a.out h0 h1).past bx), (fun h0 h1 => (f_b.out h0 h1).past bx), (fun h0 h1 => (f_c.out h0 h1).past bx), (fun _ _ => o9.isB), (fun h0 h1 => (f_e.out h0 h1).past bx), (fun h0 h1 => (f_y.out h0 h1).past bx), (fun h0 h1 => (f_m.out h0 h1).past bx), (fun h1 => (f_z.out h1).past bx), (fun h0 => (f_s.out h0).past bx)⟩
    · rintro L a w ⟨b0, b1, b2, b3, b4, b5, b6, b7, b8, b9, b10, b11, b12, b13, b14, b15, b16, b17, x7, x8, x9, x10, x11, x12, x13, x14, x15, x16, x17, x18, x19, x20, x21, x22, x23, g1, c1, g2, c2, g3, c3, g4, c4, g6, c6, g5, c5, gs, rfl, rfl, hb, cd0, cd1, cd2, cd3, cd4, cd5, cd6, cd7, cd8, cd9, cd10, cd11, cd12, cd13, cd14, cd15, cd16, f_p, f_a, f_b, f_c, f_d, f_e, f_y, f_m, f_z, f_s⟩ hf hd
      have hf' : b10 = false := hf
      subst hf'
      clear hf hd
      have W_p := f_p.out
      try simp only [List.setIfInBounds_toArray, List.set_cons_zero, List.set_cons_succ]
      intro K hK
      rw [if_pos (by rfl)]
      go_simp
      exact hK.out _ _ ⟨b0, b1, b2, b3, b4, b5, b6, b7, b8, b9, true, b11, b12, b13, b14, b15, b16, b17, x7, x8, x9, x10, x11, x12, x13, x14, x15, x16, (.pointer (some ⟨p, 2, none⟩)), x18, x19, x20, x21, x22, x23, g1, c1, g2, c2, g3, c3, g4, c4, g6, c6, g5, c5, gs, (by simp only [Act.put, List.setIfInBounds_toArray, List.set_cons_zero, List.set_cons_succ]), (by simp only [Act.put, List.setIfInBounds_toArray, List.set_cons_zero, List.set_cons_succ]), hb, cd0, cd1, cd2, cd3, cd4, cd5, cd6, cd7, cd8, cd9, (fun _ => rfl), cd11, cd12, cd13, cd14, cd15, cd16, f_p, f_a, f_b, f_c, f_d, f_e, f_y, f_m, f_z, f_s⟩
    · rintro L a w ⟨b0, b1, b2, b3, b4, b5, b6, b7, b8, b9, b10, b11, b12, b13, b14, b15, b16, b17, x7, x8, x9, x10, x11, x12, x13, x14, x15, x16, x17, x18, x19, x20, x21, x22, x23, g1, c1, g2, c2, g3, c3, g4, c4, g6, c6, g5, c5, gs, rfl, rfl, hb, cd0, cd1, cd2, cd3, cd4, cd5, cd6, cd7, cd8, cd9, cd10, cd11, cd12, cd13, cd14, cd15, cd16, f_p, f_a, f_b, f_c, f_d, f_e, f_y, f_m, f_z, f_s⟩ hf hd
      have hf' : b11 = false := hf
      subst hf'
      have d10 : b10 = true := hd ⟨10, .data⟩ (by simp) rfl
      subst d10
      obtain rfl := cd10.out rfl
      clear hf hd
      have W_p := f_p.out
      try simp only [List.setIfInBounds_toArray, List.set_cons_zero, List.set_cons_succ]
      obtain ⟨z0, z1, z2⟩ := chg_cells W_p
      intro K hK
      rw [if_pos (by rfl)]
      go_simp
      exact hK.out _ _ ⟨b0, b1, b2, b3, b4, b5, b6, b7, b8, b9, true, true, b12, b13, b14, b15, b16, b17, x7, x8, x9, x10, x11, x12, x13, x14, x15, x16, .pointer (some ⟨p, 2, none⟩), (.slice ra rn rc), x19, x20, x21, x22, x23, g1, c1, g2, c2, g3, c3, g4, c4, g6, c6, g5, c5, gs, (by simp only [Act.put, List.setIfInBounds_toArray, List.set_cons_zero, List.set_cons_succ]), (by simp only [Act.put, List.setIfInBounds_toArray, List.set_cons_zero, List.set_cons_succ]), hb, cd0, cd1, cd2, cd3, cd4, cd5, cd6, cd7, cd8, cd9, (fun _ => rfl), (fun _ => rfl), cd12, cd13, cd14, cd15, cd16, f_p, f_a, f_b, f_c, f_d, f_e, f_y, f_m, f_z, f_s⟩
    · rintro L a w ⟨b0, b1, b2, b3, b4, b5, b6, b7, b8, b9, b10, b11, b12, b13, b14, b15, b16, b17, x7, x8, x9, x10, x11, x12, x13, x14, x15, x16, x17, x18, x19, x20, x21, x22, x23, g1, c1, g2, c2, g3, c3, g4, c4, g6, c6, g5, c5, gs, rfl, rfl, hb, cd0, cd1, cd2, cd3, cd4, cd5, cd6, cd7, cd8, cd9, cd10, cd11, cd12, cd13, cd14, cd15, cd16, f_p, f_a, f_b, f_c, f_d, f_e, f_y, f_m, f_z, f_s⟩ hf hd
      have hf' : b12 = false := hf
      subst hf'
      have d11 : b11 = true := hd ⟨11, .data⟩ (by simp) rfl
      subst d11
      have d9 : b9 = true := hd ⟨9, .chain⟩ (by simp) rfl
      subst d9
      obtain rfl := cd11.out rfl
      obtain rfl := cd9.out rfl
      clear hf hd
      have W_p := f_p.out
      try simp only [List.setIfInBounds_toArray, List.set_cons_zero, List.set_cons_succ]
      intro K hK
      rw [if_pos (by rfl)]
      go_simp
      go_at_call 25
      refine (HRB _ hb).mono ?_
      rintro e w' ⟨g, c, rfl, o9, bx, _⟩
      exact hK.out _ _ ⟨b0, b1, b2, b3, b4, b5, b6, b7, b8, true, b10, true, true, b13, b14, b15, b16, b17, x7, x8, x9, x10, x11, x12, x13, x14, x15, .slice (some ⟨g4, 0, none⟩) n4 c4, x17, .slice ra rn rc, (.slice (some ⟨g, 0, none⟩) n6 c), x20, x21, x22, x23, g1, c1, g2, c2, g3, c3, g4, c4, g, c, g5, c5, gs, (by simp only [Act.put, List.setIfInBounds_toArray, List.set_cons_zero, List.set_cons_succ]), (by simp only [Act.put, List.setIfInBounds_toArray, List.set_cons_zero, List.set_cons_succ]), hb.trans (bx.mono (Nat.le_trans hB0 hb.size)), cd0, cd1, cd2, cd3, cd4, cd5, cd6, cd7, cd8, (fun _ => rfl), cd10, (fun _ => rfl), (fun _ => rfl), cd13, cd14, cd15, cd16, (f_p.out.past bx), (fun h0 h1 => (f_a.out h0 h1).past bx), (fun h0 h1 => (f_b.out h0 h1).past bx), (fun h0 h1 => (f_c.out h0 h1).past bx), (fun h0 h1 => (f_d.out h0 h1).past bx), (fun h0 h1 => (f_e.out h0 h1).past bx), (fun _ _ => o9.isB), (fun h0 h1 => (f_m.out h0 h1).past bx), (fun h1 => (f_z.out h1).past bx), (fun h0 => (f_s.out h0).past bx)⟩
    · rintro L a w ⟨b0, b1, b2, b3, b4, b5, b6, b7, b8, b9, b10, b11, b12, b13, b14, b15, b16, b17, x7, x8, x9, x10, x11, x12, x13, x14, x15, x16, x17, x18, x19, x20, x21, x22, x23, g1, c1, g2, c2, g3, c3, g4, c4, g6, c6, g5, c5, gs, rfl, rfl, hb, cd0, cd1, cd2, cd3, cd4, cd5, cd6, cd7, cd8, cd9, cd10, cd11, cd12, cd13, cd14, cd15, cd16, f_p, f_a, f_b, f_c, f_d, f_e, f_y, f_m, f_z, f_s⟩ hf hd
      have hf' : b13 = false := hf
      subst hf'
      have d12 : b12 = true := hd ⟨12, .data⟩ (by simp) rfl
      subst d12
      obtain rfl := cd12.out rfl
      clear hf hd
      have W_p := f_p.out
      have W_y := f_y.out rfl rfl
      try simp only [List.setIfInBounds_toArray, List.set_cons_zero, List.set_cons_succ]
      have cv : (convert 44 9 (.slice (some ⟨g6, 0, none⟩) n6 c6)).run Tryd.prog w = .ok (.string (⟨l6.toArray⟩ : ByteArray)) w := W_y.conv byteTy Tryd.underlying9
      intro K hK
      rw [if_pos (by rfl)]
      go_simp
      exact hK.out _ _ ⟨b0, b1, b2, b3, b4, b5, b6, b7, b8, b9, b10, b11, true, true, b14, b15, b16, b17, x7, x8, x9, x10, x11, x12, x13, x14, x15, x16, x17, x18, .slice (some ⟨g6, 0, none⟩) n6 c6, (.string (⟨l6.toArray⟩ : ByteArray)), x21, x22, x23, g1, c1, g2, c2, g3, c3, g4, c4, g6, c6, g5, c5, gs, (by simp only [Act.put, List.setIfInBounds_toArray, List.set_cons_zero, List.set_cons_succ]), (by simp only [Act.put, List.setIfInBounds_toArray, List.set_cons_zero, List.set_cons_succ]), hb, cd0, cd1, cd2, cd3, cd4, cd5, cd6, cd7, cd8, cd9, cd10, cd11, (fun _ => rfl), (fun _ => rfl), cd14, cd15, cd16, f_p, f_a, f_b, f_c, f_d, f_e, (fun _ h => by cases h), f_m, f_z, f_s⟩
    · rintro L a w ⟨b0, b1, b2, b3, b4, b5, b6, b7, b8, b9, b10, b11, b12, b13, b14, b15, b16, b17, x7, x8, x9, x10, x11, x12, x13, x14, x15, x16, x17, x18, x19, x20, x21, x22, x23, g1, c1, g2, c2, g3, c3, g4, c4, g6, c6, g5, c5, gs, rfl, rfl, hb, cd0, cd1, cd2, cd3, cd4, cd5, cd6, cd7, cd8, cd9, cd10, cd11, cd12, cd13, cd14, cd15, cd16, f_p, f_a, f_b, f_c, f_d, f_e, f_y, f_m, f_z, f_s⟩ hf hd
      have hf' : b14 = false := hf
      subst hf'
      have d13 : b13 = true := hd ⟨13, .data⟩ (by simp) rfl
      subst d13
      have d12 : b12 = true := hd ⟨12, .chain⟩ (by simp) rfl
      subst d12
      obtain rfl := cd13.out rfl
      obtain rfl := cd12.out rfl
      clear hf hd
      have W_p := f_p.out
      try simp only [List.setIfInBounds_toArray, List.set_cons_zero, List.set_cons_succ]
      intro K hK
      rw [if_pos (by rfl)]
      go_simp
      go_at_call 24
      refine (HT2 _).mono ?_
      rintro e w' ⟨g, c, rfl, o9, bx, _⟩
      exact hK.out _ _ ⟨b0, b1, b2, b3, b4, b5, b6, b7, b8, b9, b10, b11, true, true, true, b15, b16, b17, x7, x8, x9, x10, x11, x12, x13, x14, x15, x16, x17, x18, .slice (some ⟨g6, 0, none⟩) n6 c6, .string (⟨l6.toArray⟩ : ByteArray), (.slice (some ⟨g, 0, none⟩) n5 c), x22, x23, g1, c1, g2, c2, g3, c3, g4, c4, g6, c6, g, c, gs, (by simp only [Act.put, List.setIfInBounds_toArray, List.set_cons_zero, List.set_cons_succ]), (by simp only [Act.put, List.setIfInBounds_toArray, List.set_cons_zero, List.set_cons_succ]), hb.trans (bx.mono (Nat.le_trans hB0 hb.size)), cd0, cd1, cd2, cd3, cd4, cd5, cd6, cd7, cd8, cd9, cd10, cd11, (fun _ => rfl), (fun _ => rfl), (fun _ => rfl), cd15, cd16, (f_p.out.past bx), (fun h0 h1 => (f_a.out h0 h1).past bx), (fun h0 h1 => (f_b.out h0 h1).past bx), (fun h0 h1 => (f_c.out h0 h1).past bx), (fun h0 h1 => (f_d.out h0 h1).past bx), (fun _ _ => o9.isB), (fun _ h => by cases h), (fun h0 h1 => (f_m.out h0 h1).past bx), (fun h1 => (f_z.out h1).past bx), (fun h0 => (f_s.out h0).past bx)⟩
    · rintro L a w ⟨b0, b1, b2, b3, b4, b5, b6, b7, b8, b9, b10, b11, b12, b13, b14, b15, b16, b17, x7, x8, x9, x10, x11, x12, x13, x14, x15, x16, x17, x18, x19, x20, x21, x22, x23, g1, c1, g2, c2, g3, c3, g4, c4, g6, c6, g5, c5, gs, rfl, rfl, hb, cd0, cd1, cd2, cd3, cd4, cd5, cd6, cd7, cd8, cd9, cd10, cd11, cd12, cd13, cd14, cd15, cd16, f_p, f_a, f_b, f_c, f_d, f_e, f_y, f_m, f_z, f_s⟩ hf hd
      have hf' : b15 = false := hf
      subst hf'
      have d1 : b1 = true := hd ⟨1, .data⟩ (by simp) rfl
      subst d1
      have d3 : b3 = true := hd ⟨3, .data⟩ (by simp) rfl
      subst d3
      have d6 : b6 = true := hd ⟨6, .data⟩ (by simp) rfl
      subst d6
      have d9 : b9 = true := hd ⟨9, .data⟩ (by simp) rfl
      subst d9
      have d14 : b14 = true := hd ⟨14, .data⟩ (by simp) rfl
      subst d14
      obtain rfl := cd1.out rfl
      obtain rfl := cd3.out rfl
      obtain rfl := cd6.out rfl
      obtain rfl := cd9.out rfl
      obtain rfl := cd14.out rfl
      clear hf hd
      have W_p := f_p.out
      have W_a := f_a.out rfl rfl
      have W_b := f_b.out rfl rfl
      have W_c := f_c.out rfl rfl
      have W_d := f_d.out rfl rfl
      have W_e := f_e.out rfl rfl
      try simp only [List.setIfInBounds_toArray, List.set_cons_zero, List.set_cons_succ]
      intro K hK
      rw [if_pos (by rfl)]
      go_simp
      have bx : Below w.heap.size w (w.alloc (.cells #[.slice (some ⟨g1, 0, none⟩) n1 c1, .slice (some ⟨g2, 0, none⟩) n2 c2, .slice (some ⟨g3, 0, none⟩) n3 c3, .slice (some ⟨g4, 0, none⟩) n4 c4, .slice (some ⟨g5, 0, none⟩) n5 c5] 44)) := (Below.refl _ _).alloc (Nat.le_refl _) _
      exact hK.out _ _ ⟨b0, true, b2, true, b4, b5, true, b7, b8, true, b10, b11, b12, b13, true, true, b16, b17, x7, .slice (some ⟨g1, 0, none⟩) n1 c1, x9, .slice (some ⟨g2, 0, none⟩) n2 c2, x11, x12, .slice (some ⟨g3, 0, none⟩) n3 c3, x14, x15, .slice (some ⟨g4, 0, none⟩) n4 c4, x17, x18, x19, x20, .slice (some ⟨g5, 0, none⟩) n5 c5, (.slice (some ⟨(w.heap.size), 0, none⟩) 5 5), x23, g1, c1, g2, c2, g3, c3, g4, c4, g6, c6, g5, c5, w.heap.size, (by simp only [Act.put, List.setIfInBounds_toArray, List.set_cons_zero, List.set_cons_succ]), (by simp only [Act.put, List.setIfInBounds_toArray, List.set_cons_zero, List.set_cons_succ]), hb.trans (bx.mono (Nat.le_trans hB0 hb.size)), cd0, (fun _ => rfl), cd2, (fun _ => rfl), cd4, cd5, (fun _ => rfl), cd7, cd8, (fun _ => rfl), cd10, cd11, cd12, cd13, (fun _ => rfl), (fun _ => rfl), cd16, (f_p.out.past bx), (fun _ h => by cases h), (fun _ h => by cases h), (fun _ h => by cases h), (fun _ h => by cases h), (fun _ h => by cases h), (fun h0 h1 => (f_y.out h0 h1).past bx), (fun _ _ => parts5 w _ ⟨_, _, _⟩ ⟨_, _, _⟩ ⟨_, _, _⟩ ⟨_, _, _⟩ ⟨_, _, _⟩ _ _ _ _ _ W_a.u8 W_b.u8 W_c.u8 W_d.u8 W_e.u8), (fun h1 => (f_z.out h1).past bx), (fun h0 => (f_s.out h0).past bx)⟩
    · rintro L a w ⟨b0, b1, b2, b3, b4, b5, b6, b7, b8, b9, b10, b11, b12, b13, b14, b15, b16, b17, x7, x8, x9, x10, x11, x12, x13, x14, x15, x16, x17, x18, x19, x20, x21, x22, x23, g1, c1, g2, c2, g3, c3, g4, c4, g6, c6, g5, c5, gs, rfl, rfl, hb, cd0, cd1, cd2, cd3, cd4, cd5, cd6, cd7, cd8, cd9, cd10, cd11, cd12, cd13, cd14, cd15, cd16, f_p, f_a, f_b, f_c, f_d, f_e, f_y, f_m, f_z, f_s⟩ hf hd
      have hf' : b16 = false := hf
      subst hf'
      have d15 : b15 = true := hd ⟨15, .data⟩ (by simp) rfl
      subst d15
      have d14 : b14 = true := hd ⟨14, .chain⟩ (by simp) rfl
      subst d14
      obtain rfl := cd15.out rfl
      obtain rfl := cd14.out rfl
      clear hf hd
      have W_p := f_p.out
      have W_m := f_m.out rfl rfl
      try simp only [List.setIfInBounds_toArray, List.set_cons_zero, List.set_cons_succ]
      intro K hK
      rw [if_pos (by rfl)]
      go_simp
      go_at_call 21
      refine (HLf _ hb _ _ _ W_m (by omega)).mono ?_
      rintro e w' ⟨rfl, bx⟩
      exact hK.out _ _ ⟨b0, b1, b2, b3, b4, b5, b6, b7, b8, b9, b10, b11, b12, b13, true, true, true, b17, x7, x8, x9, x10, x11, x12, x13, x14, x15, x16, x17, x18, x19, x20, .slice (some ⟨g5, 0, none⟩) n5 c5, .slice (some ⟨gs, 0, none⟩) 5 5, (.agg HA), g1, c1, g2, c2, g3, c3, g4, c4, g6, c6, g5, c5, gs, (by simp only [Act.put, List.setIfInBounds_toArray, List.set_cons_zero, List.set_cons_succ]), (by simp only [Act.put, List.setIfInBounds_toArray, List.set_cons_zero, List.set_cons_succ]), hb.trans (bx.mono (Nat.le_trans hB0 hb.size)), cd0, cd1, cd2, cd3, cd4, cd5, cd6, cd7, cd8, cd9, cd10, cd11, cd12, cd13, (fun _ => rfl), (fun _ => rfl), (fun _ => rfl), (f_p.out.past bx), (fun _ h => by cases h), (fun _ h => by cases h), (fun _ h => by cases h), (fun _ h => by cases h), (fun _ h => by cases h), (fun h0 h1 => (f_y.out h0 h1).past bx), (fun _ h => by cases h), (fun h1 => (f_z.out h1).past bx), (fun h0 => (f_s.out h0).past bx)⟩
    · rintro L a w ⟨b0, b1, b2, b3, b4, b5, b6, b7, b8, b9, b10, b11, b12, b13, b14, b15, b16, b17, x7, x8, x9, x10, x11, x12, x13, x14, x15, x16, x17, x18, x19, x20, x21, x22, x23, g1, c1, g2, c2, g3, c3, g4, c4, g6, c6, g5, c5, gs, rfl, rfl, hb, cd0, cd1, cd2, cd3, cd4, cd5, cd6, cd7, cd8, cd9, cd10, cd11, cd12, cd13, cd14, cd15, cd16, f_p, f_a, f_b, f_c, f_d, f_e, f_y, f_m, f_z, f_s⟩ hf hd
      have hf' : b17 = false := hf
      subst hf'
      have d16 : b16 = true := hd ⟨16, .data⟩ (by simp) rfl
      subst d16
      have d0 : b0 = true := hd ⟨0, .phase⟩ (by simp) rfl
      subst d0
      have d1 : b1 = true := hd ⟨1, .phase⟩ (by simp) rfl
      subst d1
      have d2 : b2 = true := hd ⟨2, .phase⟩ (by simp) rfl
      subst d2
      have d3 : b3 = true := hd ⟨3, .phase⟩ (by simp) rfl
      subst d3
      have d4 : b4 = true := hd ⟨4, .phase⟩ (by simp) rfl
      subst d4
      have d5 : b5 = true := hd ⟨5, .phase⟩ (by simp) rfl
      subst d5
      have d6 : b6 = true := hd ⟨6, .phase⟩ (by simp) rfl
      subst d6
      have d7 : b7 = true := hd ⟨7, .phase⟩ (by simp) rfl
      subst d7
      have d8 : b8 = true := hd ⟨8, .phase⟩ (by simp) rfl
      subst d8
      have d9 : b9 = true := hd ⟨9, .phase⟩ (by simp) rfl
      subst d9
      have d10 : b10 = true := hd ⟨10, .phase⟩ (by simp) rfl
      subst d10
      have d11 : b11 = true := hd ⟨11, .phase⟩ (by simp) rfl
      subst d11
      have d12 : b12 = true := hd ⟨12, .phase⟩ (by simp) rfl
      subst d12
      have d13 : b13 = true := hd ⟨13, .phase⟩ (by simp) rfl
      subst d13
      have d14 : b14 = true := hd ⟨14, .phase⟩ (by simp) rfl
      subst d14
      have d15 : b15 = true := hd ⟨15, .phase⟩ (by simp) rfl
      subst d15
      obtain rfl := cd16.out rfl
      obtain rfl := cd0.out rfl
      obtain rfl := cd1.out rfl
      obtain rfl := cd2.out rfl
      obtain rfl := cd3.out rfl
      obtain rfl := cd4.out rfl
      obtain rfl := cd5.out rfl
      obtain rfl := cd6.out rfl
      obtain rfl := cd7.out rfl
      obtain rfl := cd8.out rfl
      obtain rfl := cd9.out rfl
      obtain rfl := cd10.out rfl
      obtain rfl := cd11.out rfl
      obtain rfl := cd12.out rfl
      obtain rfl := cd13.out rfl
      obtain rfl := cd14.out rfl
      obtain rfl := cd15.out rfl
      clear hf hd
      have W_p := f_p.out
      have W_z := f_z.out rfl
      try simp only [List.setIfInBounds_toArray, List.set_cons_zero, List.set_cons_succ]
      have ZZ : Hid (w.heap[q]? = some (.cells Z0 47 (0, 0))) := Lib.hid W_z
      intro K hK
      rw [if_pos (by rfl)]
      refine wp_store_blkT 47 _ _ rfl q Z0 HA rfl rfl 47 ZZ 32 sizeHash HZ0.out HA0.out HA1.out fun w2 h8 b8 => ?_
      have hb2 := hb.grown b8 (Nat.le_trans hB0 hb.size) (fun z hz => by cases hz; exact hBq)
      exact hK.out _ _ ⟨true, true, true, true, true, true, true, true, true, true, true, true, true, true, true, true, true, true, .int .i64 t, .slice (some ⟨g1, 0, none⟩) n1 c1, .int .i64 s, .slice (some ⟨g2, 0, none⟩) n2 c2, .pointer (some ⟨p, 1, none⟩), .int .i64 op, .slice (some ⟨g3, 0, none⟩) n3 c3, .pointer (some ⟨p, 0, none⟩), .string tb, .slice (some ⟨g4, 0, none⟩) n4 c4, .pointer (some ⟨p, 2, none⟩), .slice ra rn rc, .slice (some ⟨g6, 0, none⟩) n6 c6, .string (⟨l6.toArray⟩ : ByteArray), .slice (some ⟨g5, 0, none⟩) n5 c5, .slice (some ⟨gs, 0, none⟩) 5 5, .agg HA, g1, c1, g2, c2, g3, c3, g4, c4, g6, c6, g5, c5, gs, (by simp only [Act.put, List.setIfInBounds_toArray, List.set_cons_zero, List.set_cons_succ]), (by simp only [Act.put, List.setIfInBounds_toArray, List.set_cons_zero, List.set_cons_succ]), hb2, (fun _ => rfl), (fun _ => rfl), (fun _ => rfl), (fun _ => rfl), (fun _ => rfl), (fun _ => rfl), (fun _ => rfl), (fun _ => rfl), (fun _ => rfl), (fun _ => rfl), (fun _ => rfl), (fun _ => rfl), (fun _ => rfl), (fun _ => rfl), (fun _ => rfl), (fun _ => rfl), (fun _ => rfl), (Bk.grown f_p.out b8 hpq), (fun _ h => by cases h), (fun _ h => by cases h), (fun _ h => by cases h), (fun _ h => by cases h), (fun _ h => by cases h), (fun _ h => by cases h), (fun _ h => by cases h), (fun h => by cases h), (fun _ => h8.out)⟩
  · rintro act V ⟨b0, b1, b2, b3, b4, b5, b6, b7, b8, b9, b10, b11, b12, b13, b14, b15, b16, b17, x7, x8, x9, x10, x11, x12, x13, x14, x15, x16, x17, x18, x19, x20, x21, x22, x23, g1, c1, g2, c2, g3, c3, g4, c4, g6, c6, g5, c5, gs, hL, rfl, hb, cd0, cd1, cd2, cd3, cd4, cd5, cd6, cd7, cd8, cd9, cd10, cd11, cd12, cd13, cd14, cd15, cd16, f_p, f_a, f_b, f_c, f_d, f_e, f_y, f_m, f_z, f_s⟩
    have hL' : [true, true, true, true, true, true, true, true, true, true, true, true, true, true, true, true, true, true] = [b0, b1, b2, b3, b4, b5, b6, b7, b8, b9, b10, b11, b12, b13, b14, b15, b16, b17] := congrArg Array.toList hL
    simp only [List.cons.injEq, and_true] at hL'
    obtain ⟨rfl, rfl, rfl, rfl, rfl, rfl, rfl, rfl, rfl, rfl, rfl, rfl, rfl, rfl, rfl, rfl, rfl, rfl⟩ := hL'
    obtain rfl := cd0.out rfl
    obtain rfl := cd1.out rfl
    obtain rfl := cd2.out rfl
    obtain rfl := cd3.out rfl
    obtain rfl := cd4.out rfl
    obtain rfl := cd5.out rfl
    obtain rfl := cd6.out rfl
    obtain rfl := cd7.out rfl
    obtain rfl := cd8.out rfl
    obtain rfl := cd9.out rfl
    obtain rfl := cd10.out rfl
    obtain rfl := cd11.out rfl
    obtain rfl := cd12.out rfl
    obtain rfl := cd13.out rfl
    obtain rfl := cd14.out rfl
    obtain rfl := cd15.out rfl
    obtain rfl := cd16.out rfl
    have W_p := f_p.out
    have W_s := f_s.out rfl
    clear hL f_p f_a f_b f_c f_d f_e f_y f_m f_z f_s cd0 cd1 cd2 cd3 cd4 cd5 cd6 cd7 cd8 cd9 cd10 cd11 cd12 cd13 cd14 cd15 cd16
    simp only [List.setIfInBounds_toArray, List.set_cons_zero, List.set_cons_succ]
    have BV : Below p w V := B1.trans ((Below.refl _ _).drew.trans hb)
    clear hb
    go_wp2_with fail
    refine bodyPost_ret (v := .agg HA) (results_cell_row rfl _ _ q _ _ (0, 0) _ rfl W_s Tryd.underlying47 rfl (by rw [sizeHash, HA0.out])) rfl ?_
    exact ⟨rfl, by rw [HG.out]; exact BV⟩
end Go.Proofs.YtdmnjjknkcnkgaaDoor
