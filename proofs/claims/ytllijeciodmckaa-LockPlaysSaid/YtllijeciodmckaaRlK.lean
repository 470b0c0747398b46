/-
  The document's own locks: without, Free, Same; locks as the document's (by gen_rlk.py).
-/
import Derived.Test.YtllijeciodmckaaRdB
import Derived.Test.YtllijeciodmckaaLkH
namespace Go.Proofs.Ytllijeciodmckaa
open Go.RowKit
set_option linter.unusedSimpArgs false
theorem rhd_info : (Try.prog.info? 112).map (fun i => (i.zero, i.size, i.bytes)) = some (some (.agg #[.int .i64 0, .string ⟨#[]⟩, .bool false]), 3, 32) := by kernel_rfl
theorem rowTyRh : RowTy EHd Try.prog 97 112 ⟨0, [], false⟩ := by
  obtain ⟨i, h1, h2, h3, h4⟩ := info_parts rhd_info
  exact ⟨Try.underlying97, i, _, h1, h2, h3, rfl, by rw [h4]; decide⟩
theorem rhd_inf' : ∃ i z, Try.prog.info? 112 = some i ∧ i.zero = some z ∧ i.size = 3 := by
  obtain ⟨i, h1, h2, h3, h4⟩ := info_parts rhd_info
  exact ⟨i, _, h1, h2, h3⟩
theorem szRk : (Try.prog.info? 99).map (·.size) = some 2 := by kernel_rfl
theorem wp_store_rk {w : World} {o : Oper} {a : Act} {K : Act → World → Prop} {Q : Exit → Act → World → Prop} (x y : Operand) (ho : o.op = .store 99 x y)
    (g : Nat) (o1 : Option Addr) (n1 c1 : Nat) (o2 : Option Addr) (n2 c2 : Nat) (hx : a.eval x = .pointer (some ⟨g, 0, none⟩)) (q1 : Option Addr) (m1 d1 : Nat) (q2 : Option Addr) (m2 d2 : Nat) (hy : a.eval y = .agg #[.slice q1 m1 d1, .slice q2 m2 d2]) (hg : Hid (LkB w g o1 n1 c1 o2 n2 c2 99))
    (hK : ∀ w', LkB w' g q1 m1 d1 q2 m2 d2 99 → w.grownBy w' (some g) → K (a.put o.dst undef) w') : o.wp Try.prog a w K Q :=
  wp_store_row 99 x y ho g (lkC q1 m1 d1 q2 m2 d2) hx hy 99 (lkC o1 n1 c1 o2 n2 c2) hg.out (by rw [szRk]; rfl) rfl (lkC_all ..) (hK _ (setRow_heap w g _ _ _ _ hg.out) ⟨rfl, rfl, rfl, by simp, fun k _ hk => setRow_other w g k _ (fun e => hk (by rw [e]))⟩)
/-- A variable of the document's locks that is filled: its rows are the call's own, behind it. -/
def RtAt (w : World) (q : Nat) (HL WL : List Hd) : Prop := ∃ ao1 n1 c1 ao2 n2 c2, LkB w q ao1 n1 c1 ao2 n2 c2 99 ∧ TxtR EHd w 112 (q + 1) ao1 n1 c1 HL ∧ TxtR EHd w 112 (q + 1) ao2 n2 c2 WL ∧ ∀ z, Go.Proofs.Ytllijeciodmckaa.blk ao1 = some z → Go.Proofs.Ytllijeciodmckaa.blk ao2 ≠ some z
/-- What stands while the region's operations come up. -/
inductive ToRefW0 (B : Nat) (p : Nat) (q : Nat) (ao1 : Option Addr) (n1 : Nat) (c1_ : Nat) (ao2 : Option Addr) (n2 : Nat) (c2_ : Nat) (N : Nat) (rb : Nat) (roff : Nat) (hn : Nat) (hc : Nat) (j : Nat) (s : Int) (t : List UInt8) (x : Bool) (ML : List Hd) (OL : List Hd) (a0 : Act) (w0 : World) (L : Array Bool) (a : Act) (w : World) : Prop
  | mk (b0 b1 b2 b3 b4 b5 b6 b7 b8 b9 b10 b11 b12 b13 b14 b15 b16 b17 b18 b19 b20 b21 b22 b23 b24 : Bool) (x14 x15 x16 x17 x18 x19 x20 x21 x22 x23 x24 x25 x26 x27 x28 x29 x30 x31 x32 x33 x34 x35 x36 x37 : Value) (gb : Nat) (g9 : Nat) (c9 : Nat) (hL : L = #[b0, b1, b2, b3, b4, b5, b6, b7, b8, b9, b10, b11, b12, b13, b14, b15, b16, b17, b18, b19, b20, b21, b22, b23, b24]) (ha : a = ⟨((((((((((((((((((((((((a0.tmps.setIfInBounds 14 x14).setIfInBounds 15 x15).setIfInBounds 16 x16).setIfInBounds 17 x17).setIfInBounds 18 x18).setIfInBounds 19 x19).setIfInBounds 20 x20).setIfInBounds 21 x21).setIfInBounds 22 x22).setIfInBounds 23 x23).setIfInBounds 24 x24).setIfInBounds 25 x25).setIfInBounds 26 x26).setIfInBounds 27 x27).setIfInBounds 28 x28).setIfInBounds 29 x29).setIfInBounds 30 x30).setIfInBounds 31 x31).setIfInBounds 32 x32).setIfInBounds 33 x33).setIfInBounds 34 x34).setIfInBounds 35 x35).setIfInBounds 36 x36).setIfInBounds 37 x37), a0.defers⟩) (hb : Below B w0 w) (cd0 : Hid (b0 = true → x14 = .pointer (some ⟨q, 0, none⟩))) (cd1 : Hid (b1 = true → x15 = .slice ao1 n1 c1_)) (cd2 : Hid (b2 = true → x16 = .pointer (some ⟨p, 0, none⟩))) (cd3 : Hid (b3 = true → x17 = .slice (some ⟨rb, roff, none⟩) hn hc)) (cd4 : Hid (b4 = true → x18 = .int .i64 (j : Nat))) (cd5 : Hid (b5 = true → x19 = .pointer (some ⟨rb, roff + j * 3, none⟩))) (cd6 : Hid (b6 = true → x20 = .pointer (some ⟨rb, roff + j * 3, none⟩))) (cd7 : Hid (b7 = true → x21 = .int .i64 s)) (cd8 : Hid (b8 = true → x22 = .pointer (some ⟨p, 0, none⟩))) (cd9 : Hid (b9 = true → x23 = .slice (some ⟨rb, roff, none⟩) hn hc)) (cd10 : Hid (b10 = true → x24 = .int .i64 (j : Nat))) (cd11 : Hid (b11 = true → x25 = .pointer (some ⟨rb, roff + j * 3, none⟩))) (cd12 : Hid (b12 = true → x26 = .pointer (some ⟨rb, roff + j * 3 + 1, none⟩))) (cd13 : Hid (b13 = true → x27 = .string (bsOf t))) (cd14 : Hid (b14 = true → x28 = .pointer (some ⟨p, 0, none⟩))) (cd15 : Hid (b15 = true → x29 = .slice (some ⟨rb, roff, none⟩) hn hc)) (cd16 : Hid (b16 = true → x30 = .int .i64 (j : Nat))) (cd17 : Hid (b17 = true → x31 = .pointer (some ⟨rb, roff + j * 3, none⟩))) (cd18 : Hid (b18 = true → x32 = .pointer (some ⟨rb, roff + j * 3 + 2, none⟩))) (cd19 : Hid (b19 = true → x33 = .bool x)) (cd20 : Hid (b20 = true → x34 = .agg #[.int .i64 s, .string (bsOf t), .bool x])) (cd21 : Hid (b21 = true → x35 = .slice (some ⟨gb, 0, none⟩) 1 1)) (cd22 : Hid (b22 = true → x36 = .slice (some ⟨g9, 0, none⟩) N c9)) (cd23 : Hid (b23 = true → x37 = .pointer (some ⟨q, 0, none⟩))) (f_q : Hid (b24 = false → LkB w q ao1 n1 c1_ ao2 n2 c2_ 99)) (f_m : Hid (b22 = false → TxtR EHd w 112 (q + 1) ao1 n1 c1_ ML)) (f_ot : Hid (TxtR EHd w 112 (q + 1) ao2 n2 c2_ OL)) (f_bl : Hid (b21 = true → b22 = false → OwnR EHd w 112 gb 1 1 [(⟨s, t, x⟩ : Hd)])) (f_q7 : Hid (b22 = true → b21 = true)) (f_r : Hid (b22 = true → TxtR EHd w 112 (q + 1) (some ⟨g9, 0, none⟩) N c9 (ML ++ [(⟨s, t, x⟩ : Hd)]))) (f_ap : Hid (b22 = true → ∀ z, Go.Proofs.Ytllijeciodmckaa.blk ao2 = some z → z ≠ g9)) (f_o : Hid (b24 = true → LkB w q (some ⟨g9, 0, none⟩) N c9 ao2 n2 c2_ 99)) (f_q77 : Hid (b24 = true → b21 = true)) (f_q88 : Hid (b24 = true → b22 = true)) (f_q1 : Hid (b22 = true → b1 = true)) (f_q1s : Hid (b24 = true → b1 = true)) : ToRefW0 B p q ao1 n1 c1_ ao2 n2 c2_ N rb roff hn hc j s t x ML OL a0 w0 L a w

/-- What stands while the region's operations come up. -/
inductive ToRefW1 (B : Nat) (p : Nat) (q : Nat) (ao1 : Option Addr) (n1 : Nat) (c1_ : Nat) (ao2 : Option Addr) (n2 : Nat) (c2_ : Nat) (N : Nat) (rb : Nat) (roff : Nat) (wn : Nat) (wc : Nat) (j : Nat) (s : Int) (t : List UInt8) (x : Bool) (ML : List Hd) (OL : List Hd) (a0 : Act) (w0 : World) (L : Array Bool) (a : Act) (w : World) : Prop
  | mk (b0 b1 b2 b3 b4 b5 b6 b7 b8 b9 b10 b11 b12 b13 b14 b15 b16 b17 b18 b19 b20 b21 b22 b23 b24 : Bool) (x45 x46 x47 x48 x49 x50 x51 x52 x53 x54 x55 x56 x57 x58 x59 x60 x61 x62 x63 x64 x65 x66 x67 x68 : Value) (gb : Nat) (g9 : Nat) (c9 : Nat) (hL : L = #[b0, b1, b2, b3, b4, b5, b6, b7, b8, b9, b10, b11, b12, b13, b14, b15, b16, b17, b18, b19, b20, b21, b22, b23, b24]) (ha : a = ⟨((((((((((((((((((((((((a0.tmps.setIfInBounds 45 x45).setIfInBounds 46 x46).setIfInBounds 47 x47).setIfInBounds 48 x48).setIfInBounds 49 x49).setIfInBounds 50 x50).setIfInBounds 51 x51).setIfInBounds 52 x52).setIfInBounds 53 x53).setIfInBounds 54 x54).setIfInBounds 55 x55).setIfInBounds 56 x56).setIfInBounds 57 x57).setIfInBounds 58 x58).setIfInBounds 59 x59).setIfInBounds 60 x60).setIfInBounds 61 x61).setIfInBounds 62 x62).setIfInBounds 63 x63).setIfInBounds 64 x64).setIfInBounds 65 x65).setIfInBounds 66 x66).setIfInBounds 67 x67).setIfInBounds 68 x68), a0.defers⟩) (hb : Below B w0 w) (cd0 : Hid (b0 = true → x45 = .pointer (some ⟨q, 1, none⟩))) (cd1 : Hid (b1 = true → x46 = .slice ao2 n2 c2_)) (cd2 : Hid (b2 = true → x47 = .pointer (some ⟨p, 1, none⟩))) (cd3 : Hid (b3 = true → x48 = .slice (some ⟨rb, roff, none⟩) wn wc)) (cd4 : Hid (b4 = true → x49 = .int .i64 (j : Nat))) (cd5 : Hid (b5 = true → x50 = .pointer (some ⟨rb, roff + j * 3, none⟩))) (cd6 : Hid (b6 = true → x51 = .pointer (some ⟨rb, roff + j * 3, none⟩))) (cd7 : Hid (b7 = true → x52 = .int .i64 s)) (cd8 : Hid (b8 = true → x53 = .pointer (some ⟨p, 1, none⟩))) (cd9 : Hid (b9 = true → x54 = .slice (some ⟨rb, roff, none⟩) wn wc)) (cd10 : Hid (b10 = true → x55 = .int .i64 (j : Nat))) (cd11 : Hid (b11 = true → x56 = .pointer (some ⟨rb, roff + j * 3, none⟩))) (cd12 : Hid (b12 = true → x57 = .pointer (some ⟨rb, roff + j * 3 + 1, none⟩))) (cd13 : Hid (b13 = true → x58 = .string (bsOf t))) (cd14 : Hid (b14 = true → x59 = .pointer (some ⟨p, 1, none⟩))) (cd15 : Hid (b15 = true → x60 = .slice (some ⟨rb, roff, none⟩) wn wc)) (cd16 : Hid (b16 = true → x61 = .int .i64 (j : Nat))) (cd17 : Hid (b17 = true → x62 = .pointer (some ⟨rb, roff + j * 3, none⟩))) (cd18 : Hid (b18 = true → x63 = .pointer (some ⟨rb, roff + j * 3 + 2, none⟩))) (cd19 : Hid (b19 = true → x64 = .bool x)) (cd20 : Hid (b20 = true → x65 = .agg #[.int .i64 s, .string (bsOf t), .bool x])) (cd21 : Hid (b21 = true → x66 = .slice (some ⟨gb, 0, none⟩) 1 1)) (cd22 : Hid (b22 = true → x67 = .slice (some ⟨g9, 0, none⟩) N c9)) (cd23 : Hid (b23 = true → x68 = .pointer (some ⟨q, 1, none⟩))) (f_q : Hid (b24 = false → LkB w q ao1 n1 c1_ ao2 n2 c2_ 99)) (f_m : Hid (b22 = false → TxtR EHd w 112 (q + 1) ao2 n2 c2_ ML)) (f_ot : Hid (TxtR EHd w 112 (q + 1) ao1 n1 c1_ OL)) (f_bl : Hid (b21 = true → b22 = false → OwnR EHd w 112 gb 1 1 [(⟨s, t, x⟩ : Hd)])) (f_q7 : Hid (b22 = true → b21 = true)) (f_r : Hid (b22 = true → TxtR EHd w 112 (q + 1) (some ⟨g9, 0, none⟩) N c9 (ML ++ [(⟨s, t, x⟩ : Hd)]))) (f_ap : Hid (b22 = true → ∀ z, Go.Proofs.Ytllijeciodmckaa.blk ao1 = some z → z ≠ g9)) (f_o : Hid (b24 = true → LkB w q ao1 n1 c1_ (some ⟨g9, 0, none⟩) N c9 99)) (f_q77 : Hid (b24 = true → b21 = true)) (f_q88 : Hid (b24 = true → b22 = true)) (f_q1 : Hid (b22 = true → b1 = true)) (f_q1s : Hid (b24 = true → b1 = true)) : ToRefW1 B p q ao1 n1 c1_ ao2 n2 c2_ N rb roff wn wc j s t x ML OL a0 w0 L a w
set_option maxRecDepth 100000 in
set_option maxHeartbeats 1000000 in
theorem rwithout_any (w : World) (ao : Option Addr) (n c : Nat) (l : List Hd) (h : IsR EHd w ao n c l) (hn : n ≤ 1000000) (s : Int) :
    Calls Try.prog 101 #[.slice ao n c, .int .i64 s] w fun e w' => ∃ ao' k c', e = .returned (.slice ao' k c') ∧ TxtR EHd w' 112 w.heap.size ao' k c' (wo l s) ∧ Below w.heap.size w w' := by
  have hln := h.len
  have hmx := h.max
  have hle := h.le
  unfold maxLen at hmx
  go_enter Try.func101, Try.ntmps101
  go_wp2_with fail
  go_loopw [5, 6] (fun zo zi wr => ∃ (j : Nat) (ra : Option Addr) (rn rc : Nat), j ≤ n ∧ zo = .slice ra rn rc ∧ zi = .int .i64 (j : Nat) ∧ TxtR EHd wr 112 w.heap.size ra rn rc (wo (l.take j) s) ∧ Below w.heap.size w wr) (fun _ zi _ => n - (intOf zi).toNat)
  case atStart => exact ⟨0, none, 0, 0, by omega, rfl, rfl, TxtR.nil _ _ _, Below.refl _ _⟩
  case round =>
    obtain ⟨j, ra, rn, rc, hj, rfl, rfl, hT, hB⟩ := hrel
    by_cases hlt : j < n
    · have hlti : (j : Int) < (n : Int) := by omega
      obtain ⟨y, hy⟩ : ∃ y, l[j]? = some y := ⟨l[j]'(by omega), List.getElem?_eq_getElem _⟩
      obtain ⟨rb, roff, rfl, hrb, hrc⟩ := h.open (by omega) (by decide)
      obtain ⟨y0_, y1_, y2_⟩ := cells_hd hrc j y hy
      rw [← hB.cell (show (⟨rb, roff + j * 3, none⟩ : Addr).block < w.heap.size from hrb)] at y0_
      rw [← hB.cell (show (⟨rb, roff + j * 3 + 1, none⟩ : Addr).block < w.heap.size from hrb)] at y1_
      rw [← hB.cell (show (⟨rb, roff + j * 3 + 2, none⟩ : Addr).block < w.heap.size from hrb)] at y2_
      have hnw := Lib.hid (wo_take (s := s) hy)
      have hrn : rn ≤ j := by
        have h1 := hT.len
        have h2 := wo_length (l.take j) s
        rw [List.length_take] at h2
        omega
      clear hrc hy
      obtain ⟨ys, yt, yb⟩ := y
      simp only at y0_ y1_ y2_
      by_cases hsS : ys = s
      · subst hsS
        have hne : (ys != ys) = false := by simp
        have hnx := hnw.out
        rw [if_pos rfl, List.append_nil] at hnx
        rw [← hnx] at hT
        clear hnw hnx
        go_wp2_with fail
        go_roundw
        case rel => exact ⟨j + 1, ra, rn, rc, by omega, rfl, by go_num, hT, hB⟩
        case measure => simp [intOf]; omega
      · have hne : (ys != s) = true := by simpa using hsS
        have hnx := hnw.out
        rw [if_neg hsS] at hnx
        have hnx := Lib.hid hnx
        clear hnw
        have b1 : Below wr.heap.size wr (wr.alloc (.cells #[.int .i64 ys, .string (bsOf yt), .bool yb] 112)) := (Below.refl _ _).alloc (Nat.le_refl _) _
        have hLit : IsR EHd (wr.alloc (.cells #[.int .i64 ys, .string (bsOf yt), .bool yb] 112)) (some ⟨wr.heap.size, 0, none⟩) 1 1 [⟨ys, yt, yb⟩] := (OwnR.ofBlk (E := EHd) (l := [⟨ys, yt, yb⟩]) (n := 1) (heap_alloc_new wr _) rfl rfl (by omega)).isR
        have hT9 := hT.past b1
        have hB9 := hB.trans (b1.mono hB.size)
        have hs9 : w.heap.size ≤ (wr.alloc (.cells #[.int .i64 ys, .string (bsOf yt), .bool yb] 112)).heap.size := hB9.size
        obtain ⟨N, HN⟩ : ∃ N, rn + 1 = N := ⟨_, rfl⟩
        go_wp2_with (at_builtin; refine wpList_append_txtR rfl _ _ 97 97 rfl 112 rowTyRh w.heap.size ra rn rc _ rfl hT9 hs9 _ rfl 1 [⟨ys, yt, yb⟩] (hLit.src Try.underlying97) rfl (by omega) ?_; intro a3 d3 w9 o9 b9; rw [HN] at o9 ⊢)
        go_roundw
        case rel => exact ⟨j + 1, a3, N, d3, by omega, rfl, by go_num, by rw [hnx.out]; exact o9, hB9.trans b9⟩
        case measure => simp [intOf]; omega
    · have hlti : ¬ ((j : Int) < (n : Int)) := by omega
      obtain rfl : j = n := by omega
      rw [List.take_of_length_le (by omega)] at hT
      go_wp2_with fail
      go_ret
      exact ⟨ra, rn, rc, rfl, hT, hB⟩
/-- What stands while the region's operations come up. -/
inductive RFreeR (B : Nat) (p : Nat) (r : Nat) (ho : Option Addr) (hn : Nat) (hc : Nat) (wo1 : Option Addr) (wn : Nat) (wc : Nat) (s : Int) (H0 : List Hd) (W0 : List Hd) (a0 : Act) (w0 : World) (L : Array Bool) (a : Act) (w : World) : Prop
  | mk (b0 b1 b2 b3 b4 b5 b6 b7 b8 b9 : Bool) (x5 x6 x7 x8 x9 x10 x11 x12 x13 : Value) (ao1 : Option Addr) (k1 : Nat) (c1 : Nat) (ao2 : Option Addr) (k2 : Nat) (c2 : Nat) (hL : L = #[b0, b1, b2, b3, b4, b5, b6, b7, b8, b9]) (ha : a = ⟨(((((((((a0.tmps.setIfInBounds 5 x5).setIfInBounds 6 x6).setIfInBounds 7 x7).setIfInBounds 8 x8).setIfInBounds 9 x9).setIfInBounds 10 x10).setIfInBounds 11 x11).setIfInBounds 12 x12).setIfInBounds 13 x13), a0.defers⟩) (hb : Below B w0 w) (cd0 : Hid (b0 = true → x5 = .pointer (some ⟨p, 0, none⟩))) (cd1 : Hid (b1 = true → x6 = .slice ho hn hc)) (cd2 : Hid (b2 = true → x7 = .int .i64 s)) (cd3 : Hid (b3 = true → x8 = .slice ao1 k1 c1)) (cd4 : Hid (b4 = true → x9 = .pointer (some ⟨p, 1, none⟩))) (cd5 : Hid (b5 = true → x10 = .slice wo1 wn wc)) (cd6 : Hid (b6 = true → x11 = .int .i64 s)) (cd7 : Hid (b7 = true → x12 = .slice ao2 k2 c2)) (cd8 : Hid (b8 = true → x13 = .agg #[.slice ao1 k1 c1, .slice ao2 k2 c2])) (f_b0 : Hid (LkB w p ho hn hc wo1 wn wc 99)) (f_z : Hid (b9 = false → LkB w r none 0 0 none 0 0 99)) (f_r1 : Hid (b3 = true → TxtR EHd w 112 B ao1 k1 c1 (wo H0 s))) (f_r2 : Hid (b7 = true → TxtR EHd w 112 B ao2 k2 c2 (wo W0 s))) (f_o : Hid (b9 = true → LkB w r ao1 k1 c1 ao2 k2 c2 99)) (f_q3 : Hid (b9 = true → b3 = true)) (f_q7 : Hid (b9 = true → b7 = true)) (w_8_3 : Hid (b8 = true → b3 = true)) (w_8_7 : Hid (b8 = true → b7 = true)) : RFreeR B p r ho hn hc wo1 wn wc s H0 W0 a0 w0 L a w
set_option maxRecDepth 100000 in
set_option maxHeartbeats 1000000 in
theorem rfree_any (w : World) (v : Value) (H0 W0 : List Hd) (h : LkIs w v H0 W0) (hH : H0.length ≤ 100000) (hW : W0.length ≤ 100000) (s : Int) :
    Calls Try.prog 54 #[v, .int .i64 s] w fun e w' => ∃ v', e = .returned v' ∧ LkF w' v' w.heap.size (wo H0 s) (wo W0 s) ∧ Below w.heap.size w w' := by
  obtain ⟨ho, hn, hc, wo1, wn, wc, rfl, h1, h2⟩ := h
  have l1 := h1.len
  have l2 := h2.len
  have X0 := LkB.new w ho hn hc wo1 wn wc 99
  have B0 : Below w.heap.size w (w.alloc (.cells #[.slice ho hn hc, .slice wo1 wn wc] 99)) := (Below.refl _ _).alloc (Nat.le_refl _) _
  have Z1 := LkB.new (w.alloc (.cells #[.slice ho hn hc, .slice wo1 wn wc] 99)) none 0 0 none 0 0 99
  have X1 := X0.past ((Below.refl _ _).alloc (Nat.le_refl _) (.cells #[.slice none 0 0, .slice none 0 0] 99))
  have BA := B0.alloc B0.size (.cells #[.slice none 0 0, .slice none 0 0] 99)
  rw [World.size_alloc] at Z1
  unfold lkV
  clear X0 B0
  go_enter Try.func54, Try.ntmps54
  go_upto_region 1 with fail
  generalize (w.alloc (.cells #[.slice ho hn hc, .slice wo1 wn wc] 99)).alloc (.cells #[.slice none 0 0, .slice none 0 0] 99) = W at X1 Z1 BA ⊢
  obtain ⟨p, hp⟩ : ∃ p, w.heap.size = p := ⟨_, rfl⟩
  have HP := Lib.hid hp
  rw [hp] at X1 Z1 BA
  simp only [hp]
  clear hp
  obtain ⟨r, hr⟩ : ∃ r, p + 1 = r := ⟨_, rfl⟩
  rw [hr] at Z1
  simp only [hr]
  have hpr : p ≠ r := by omega
  have hBr : p ≤ r := by omega
  clear hr
  have hB0 : p ≤ W.heap.size := Nat.le_of_lt X1.lt
  have HW1 := fun (w' : World) (hb : Below p W.drew w') => rwithout_any w' ho hn hc H0 (h1.past (by rw [HP.out]; exact BA.trans ((Below.refl _ _).drew.trans hb))) (by omega) s
  have HW2 := fun (w' : World) (hb : Below p W.drew w') => rwithout_any w' wo1 wn wc W0 (h2.past (by rw [HP.out]; exact BA.trans ((Below.refl _ _).drew.trans hb))) (by omega) s
  clear h1 h2
  refine region_inv (RFreeR p p r ho hn hc wo1 wn wc s H0 W0) (by kernel_rfl) (by kernel_rfl) ?_ ?_ ?_
  · exact ⟨false, false, false, false, false, false, false, false, false, false, undef, undef, undef, undef, undef, undef, undef, undef, undef, none, 0, 0, none, 0, 0, rfl, (by simp only [Act.put, List.setIfInBounds_toArray, List.set_cons_zero, List.set_cons_succ]), Below.refl _ _, (fun h => by cases h), (fun h => by cases h), (fun h => by cases h), (fun h => by cases h), (fun h => by cases h), (fun h => by cases h), (fun h => by cases h), (fun h => by cases h), (fun h => by cases h), (X1.past (Below.refl _ _).drew), (fun h1 => Z1.past (Below.refl _ _).drew), (fun h => by cases h), (fun h => by cases h), (fun h => by cases h), (fun h => by cases h), (fun h => by cases h), (fun h => by cases h), (fun h => by cases h)⟩
  · refine ⟨?_, ?_, ?_, ?_, ?_, ?_, ?_, ?_, ?_, ?_, trivial⟩
    · rintro L a w ⟨b0, b1, b2, b3, b4, b5, b6, b7, b8, b9, x5, x6, x7, x8, x9, x10, x11, x12, x13, ao1, k1, c1, ao2, k2, c2, rfl, rfl, hb, cd0, cd1, cd2, cd3, cd4, cd5, cd6, cd7, cd8, f_b0, f_z, f_r1, f_r2, f_o, f_q3, f_q7, w_8_3, w_8_7⟩ hf hd
      have hf' : b0 = false := hf
      subst hf'
      clear hf hd
      have W_b0 := f_b0.out
      try simp only [List.setIfInBounds_toArray, List.set_cons_zero, List.set_cons_succ]
      intro K hK
      rw [if_pos (by rfl)]
      go_simp
      exact hK.out _ _ ⟨true, b1, b2, b3, b4, b5, b6, b7, b8, b9, (.pointer (some ⟨p, 0, none⟩)), x6, x7, x8, x9, x10, x11, x12, x13, ao1, k1, c1, ao2, k2, c2, (by simp only [Act.put, List.setIfInBounds_toArray, List.set_cons_zero, List.set_cons_succ]), (by simp only [Act.put, List.setIfInBounds_toArray, List.set_cons_zero, List.set_cons_succ]), hb, (fun _ => rfl), cd1, cd2, cd3, cd4, cd5, cd6, cd7, cd8, f_b0, f_z, f_r1, f_r2, f_o, f_q3, f_q7, w_8_3, w_8_7⟩
    · rintro L a w ⟨b0, b1, b2, b3, b4, b5, b6, b7, b8, b9, x5, x6, x7, x8, x9, x10, x11, x12, x13, ao1, k1, c1, ao2, k2, c2, rfl, rfl, hb, cd0, cd1, cd2, cd3, cd4, cd5, cd6, cd7, cd8, f_b0, f_z, f_r1, f_r2, f_o, f_q3, f_q7, w_8_3, w_8_7⟩ hf hd
      have hf' : b1 = false := hf
      subst hf'
      have d0 : b0 = true := hd ⟨0, .data⟩ (by simp) rfl
      subst d0
      obtain rfl := cd0.out rfl
      clear hf hd
      have W_b0 := f_b0.out
      try simp only [List.setIfInBounds_toArray, List.set_cons_zero, List.set_cons_succ]
      obtain ⟨z0, z1⟩ := W_b0.c
      intro K hK
      rw [if_pos (by rfl)]
      go_simp
      exact hK.out _ _ ⟨true, true, b2, b3, b4, b5, b6, b7, b8, b9, .pointer (some ⟨p, 0, none⟩), (.slice ho hn hc), x7, x8, x9, x10, x11, x12, x13, ao1, k1, c1, ao2, k2, c2, (by simp only [Act.put, List.setIfInBounds_toArray, List.set_cons_zero, List.set_cons_succ]), (by simp only [Act.put, List.setIfInBounds_toArray, List.set_cons_zero, List.set_cons_succ]), hb, (fun _ => rfl), (fun _ => rfl), cd2, cd3, cd4, cd5, cd6, cd7, cd8, f_b0, f_z, f_r1, f_r2, f_o, f_q3, f_q7, w_8_3, w_8_7⟩
    · rintro L a w ⟨b0, b1, b2, b3, b4, b5, b6, b7, b8, b9, x5, x6, x7, x8, x9, x10, x11, x12, x13, ao1, k1, c1, ao2, k2, c2, rfl, rfl, hb, cd0, cd1, cd2, cd3, cd4, cd5, cd6, cd7, cd8, f_b0, f_z, f_r1, f_r2, f_o, f_q3, f_q7, w_8_3, w_8_7⟩ hf hd
      have hf' : b2 = false := hf
      subst hf'
      clear hf hd
      have W_b0 := f_b0.out
      try simp only [List.setIfInBounds_toArray, List.set_cons_zero, List.set_cons_succ]
      intro K hK
      rw [if_pos (by rfl)]
      go_simp
      exact hK.out _ _ ⟨b0, b1, true, b3, b4, b5, b6, b7, b8, b9, x5, x6, (.int .i64 s), x8, x9, x10, x11, x12, x13, ao1, k1, c1, ao2, k2, c2, (by simp only [Act.put, List.setIfInBounds_toArray, List.set_cons_zero, List.set_cons_succ]), (by simp only [Act.put, List.setIfInBounds_toArray, List.set_cons_zero, List.set_cons_succ]), hb, cd0, cd1, (fun _ => rfl), cd3, cd4, cd5, cd6, cd7, cd8, f_b0, f_z, f_r1, f_r2, f_o, f_q3, f_q7, w_8_3, w_8_7⟩
    · rintro L a w ⟨b0, b1, b2, b3, b4, b5, b6, b7, b8, b9, x5, x6, x7, x8, x9, x10, x11, x12, x13, ao1, k1, c1, ao2, k2, c2, rfl, rfl, hb, cd0, cd1, cd2, cd3, cd4, cd5, cd6, cd7, cd8, f_b0, f_z, f_r1, f_r2, f_o, f_q3, f_q7, w_8_3, w_8_7⟩ hf hd
      have hf' : b3 = false := hf
      subst hf'
      have d1 : b1 = true := hd ⟨1, .data⟩ (by simp) rfl
      subst d1
      have d2 : b2 = true := hd ⟨2, .data⟩ (by simp) rfl
      subst d2
      obtain rfl := cd1.out rfl
      obtain rfl := cd2.out rfl
      clear hf hd
      have W_b0 := f_b0.out
      try simp only [List.setIfInBounds_toArray, List.set_cons_zero, List.set_cons_succ]
      intro K hK
      rw [if_pos (by rfl)]
      go_simp
      go_at_call 101
      refine (HW1 _ hb).mono ?_
      rintro e w' ⟨ao3, k3, c3, rfl, r9, bx⟩
      have e_8 : b8 = false := by cases hq : b8 with | false => rfl | true => exact absurd (w_8_3.out hq) (by simp)
      subst e_8
      exact hK.out _ _ ⟨b0, true, true, true, b4, b5, b6, b7, false, b9, x5, .slice ho hn hc, .int .i64 s, (.slice ao3 k3 c3), x9, x10, x11, x12, x13, ao3, k3, c3, ao2, k2, c2, (by simp only [Act.put, List.setIfInBounds_toArray, List.set_cons_zero, List.set_cons_succ]), (by simp only [Act.put, List.setIfInBounds_toArray, List.set_cons_zero, List.set_cons_succ]), hb.trans (bx.mono (Nat.le_trans hB0 hb.size)), cd0, (fun _ => rfl), (fun _ => rfl), (fun _ => rfl), cd4, cd5, cd6, cd7, (fun h => by cases h), (f_b0.out.past bx), (fun h1 => (f_z.out h1).past bx), (fun _ => r9.monoB (Nat.le_trans hB0 hb.size)), (fun h0 => (f_r2.out h0).past bx), (fun h0 => absurd (f_q3.out h0) (by simp)), (fun _ => rfl), f_q7, (fun _ => rfl), w_8_7⟩
    · rintro L a w ⟨b0, b1, b2, b3, b4, b5, b6, b7, b8, b9, x5, x6, x7, x8, x9, x10, x11, x12, x13, ao1, k1, c1, ao2, k2, c2, rfl, rfl, hb, cd0, cd1, cd2, cd3, cd4, cd5, cd6, cd7, cd8, f_b0, f_z, f_r1, f_r2, f_o, f_q3, f_q7, w_8_3, w_8_7⟩ hf hd
      have hf' : b4 = false := hf
      subst hf'
      clear hf hd
      have W_b0 := f_b0.out
      try simp only [List.setIfInBounds_toArray, List.set_cons_zero, List.set_cons_succ]
      intro K hK
      rw [if_pos (by rfl)]
      go_simp
      exact hK.out _ _ ⟨b0, b1, b2, b3, true, b5, b6, b7, b8, b9, x5, x6, x7, x8, (.pointer (some ⟨p, 1, none⟩)), x10, x11, x12, x13, ao1, k1, c1, ao2, k2, c2, (by simp only [Act.put, List.setIfInBounds_toArray, List.set_cons_zero, List.set_cons_succ]), (by simp only [Act.put, List.setIfInBounds_toArray, List.set_cons_zero, List.set_cons_succ]), hb, cd0, cd1, cd2, cd3, (fun _ => rfl), cd5, cd6, cd7, cd8, f_b0, f_z, f_r1, f_r2, f_o, f_q3, f_q7, w_8_3, w_8_7⟩
    · rintro L a w ⟨b0, b1, b2, b3, b4, b5, b6, b7, b8, b9, x5, x6, x7, x8, x9, x10, x11, x12, x13, ao1, k1, c1, ao2, k2, c2, rfl, rfl, hb, cd0, cd1, cd2, cd3, cd4, cd5, cd6, cd7, cd8, f_b0, f_z, f_r1, f_r2, f_o, f_q3, f_q7, w_8_3, w_8_7⟩ hf hd
      have hf' : b5 = false := hf
      subst hf'
      have d4 : b4 = true := hd ⟨4, .data⟩ (by simp) rfl
      subst d4
      obtain rfl := cd4.out rfl
      clear hf hd
      have W_b0 := f_b0.out
      try simp only [List.setIfInBounds_toArray, List.set_cons_zero, List.set_cons_succ]
      obtain ⟨z0, z1⟩ := W_b0.c
      intro K hK
      rw [if_pos (by rfl)]
      go_simp
      exact hK.out _ _ ⟨b0, b1, b2, b3, true, true, b6, b7, b8, b9, x5, x6, x7, x8, .pointer (some ⟨p, 1, none⟩), (.slice wo1 wn wc), x11, x12, x13, ao1, k1, c1, ao2, k2, c2, (by simp only [Act.put, List.setIfInBounds_toArray, List.set_cons_zero, List.set_cons_succ]), (by simp only [Act.put, List.setIfInBounds_toArray, List.set_cons_zero, List.set_cons_succ]), hb, cd0, cd1, cd2, cd3, (fun _ => rfl), (fun _ => rfl), cd6, cd7, cd8, f_b0, f_z, f_r1, f_r2, f_o, f_q3, f_q7, w_8_3, w_8_7⟩
    · rintro L a w ⟨b0, b1, b2, b3, b4, b5, b6, b7, b8, b9, x5, x6, x7, x8, x9, x10, x11, x12, x13, ao1, k1, c1, ao2, k2, c2, rfl, rfl, hb, cd0, cd1, cd2, cd3, cd4, cd5, cd6, cd7, cd8, f_b0, f_z, f_r1, f_r2, f_o, f_q3, f_q7, w_8_3, w_8_7⟩ hf hd
      have hf' : b6 = false := hf
      subst hf'
      clear hf hd
      have W_b0 := f_b0.out
      try simp only [List.setIfInBounds_toArray, List.set_cons_zero, List.set_cons_succ]
      intro K hK
      rw [if_pos (by rfl)]
      go_simp
      exact hK.out _ _ ⟨b0, b1, b2, b3, b4, b5, true, b7, b8, b9, x5, x6, x7, x8, x9, x10, (.int .i64 s), x12, x13, ao1, k1, c1, ao2, k2, c2, (by simp only [Act.put, List.setIfInBounds_toArray, List.set_cons_zero, List.set_cons_succ]), (by simp only [Act.put, List.setIfInBounds_toArray, List.set_cons_zero, List.set_cons_succ]), hb, cd0, cd1, cd2, cd3, cd4, cd5, (fun _ => rfl), cd7, cd8, f_b0, f_z, f_r1, f_r2, f_o, f_q3, f_q7, w_8_3, w_8_7⟩
    · rintro L a w ⟨b0, b1, b2, b3, b4, b5, b6, b7, b8, b9, x5, x6, x7, x8, x9, x10, x11, x12, x13, ao1, k1, c1, ao2, k2, c2, rfl, rfl, hb, cd0, cd1, cd2, cd3, cd4, cd5, cd6, cd7, cd8, f_b0, f_z, f_r1, f_r2, f_o, f_q3, f_q7, w_8_3, w_8_7⟩ hf hd
      have hf' : b7 = false := hf
      subst hf'
      have d5 : b5 = true := hd ⟨5, .data⟩ (by simp) rfl
      subst d5
      have d6 : b6 = true := hd ⟨6, .data⟩ (by simp) rfl
      subst d6
      have d3 : b3 = true := hd ⟨3, .chain⟩ (by simp) rfl
      subst d3
      obtain rfl := cd5.out rfl
      obtain rfl := cd6.out rfl
      obtain rfl := cd3.out rfl
      clear hf hd
      have W_b0 := f_b0.out
      have W_r1 := f_r1.out rfl
      try simp only [List.setIfInBounds_toArray, List.set_cons_zero, List.set_cons_succ]
      intro K hK
      rw [if_pos (by rfl)]
      go_simp
      go_at_call 101
      refine (HW2 _ hb).mono ?_
      rintro e w' ⟨ao3, k3, c3, rfl, r9, bx⟩
      have e_8 : b8 = false := by cases hq : b8 with | false => rfl | true => exact absurd (w_8_7.out hq) (by simp)
      subst e_8
      exact hK.out _ _ ⟨b0, b1, b2, true, b4, true, true, true, false, b9, x5, x6, x7, .slice ao1 k1 c1, x9, .slice wo1 wn wc, .int .i64 s, (.slice ao3 k3 c3), x13, ao1, k1, c1, ao3, k3, c3, (by simp only [Act.put, List.setIfInBounds_toArray, List.set_cons_zero, List.set_cons_succ]), (by simp only [Act.put, List.setIfInBounds_toArray, List.set_cons_zero, List.set_cons_succ]), hb.trans (bx.mono (Nat.le_trans hB0 hb.size)), cd0, cd1, cd2, (fun _ => rfl), cd4, (fun _ => rfl), (fun _ => rfl), (fun _ => rfl), (fun h => by cases h), (f_b0.out.past bx), (fun h1 => (f_z.out h1).past bx), (fun h0 => (f_r1.out h0).past bx), (fun _ => r9.monoB (Nat.le_trans hB0 hb.size)), (fun h0 => absurd (f_q7.out h0) (by simp)), f_q3, (fun _ => rfl), (fun _ => rfl), (fun _ => rfl)⟩
    · rintro L a w ⟨b0, b1, b2, b3, b4, b5, b6, b7, b8, b9, x5, x6, x7, x8, x9, x10, x11, x12, x13, ao1, k1, c1, ao2, k2, c2, rfl, rfl, hb, cd0, cd1, cd2, cd3, cd4, cd5, cd6, cd7, cd8, f_b0, f_z, f_r1, f_r2, f_o, f_q3, f_q7, w_8_3, w_8_7⟩ hf hd
      have hf' : b8 = false := hf
      subst hf'
      have d3 : b3 = true := hd ⟨3, .data⟩ (by simp) rfl
      subst d3
      have d7 : b7 = true := hd ⟨7, .data⟩ (by simp) rfl
      subst d7
      obtain rfl := cd3.out rfl
      obtain rfl := cd7.out rfl
      clear hf hd
      have W_b0 := f_b0.out
      have W_r1 := f_r1.out rfl
      have W_r2 := f_r2.out rfl
      try simp only [List.setIfInBounds_toArray, List.set_cons_zero, List.set_cons_succ]
      intro K hK
      rw [if_pos (by rfl)]
      go_simp
      exact hK.out _ _ ⟨b0, b1, b2, true, b4, b5, b6, true, true, b9, x5, x6, x7, .slice ao1 k1 c1, x9, x10, x11, .slice ao2 k2 c2, (.agg #[.slice ao1 k1 c1, .slice ao2 k2 c2]), ao1, k1, c1, ao2, k2, c2, (by simp only [Act.put, List.setIfInBounds_toArray, List.set_cons_zero, List.set_cons_succ]), (by simp only [Act.put, List.setIfInBounds_toArray, List.set_cons_zero, List.set_cons_succ]), hb, cd0, cd1, cd2, (fun _ => rfl), cd4, cd5, cd6, (fun _ => rfl), (fun _ => rfl), f_b0, f_z, f_r1, f_r2, f_o, f_q3, f_q7, (fun _ => rfl), (fun _ => rfl)⟩
    · rintro L a w ⟨b0, b1, b2, b3, b4, b5, b6, b7, b8, b9, x5, x6, x7, x8, x9, x10, x11, x12, x13, ao1, k1, c1, ao2, k2, c2, rfl, rfl, hb, cd0, cd1, cd2, cd3, cd4, cd5, cd6, cd7, cd8, f_b0, f_z, f_r1, f_r2, f_o, f_q3, f_q7, w_8_3, w_8_7⟩ hf hd
      have hf' : b9 = false := hf
      subst hf'
      have d8 : b8 = true := hd ⟨8, .data⟩ (by simp) rfl
      subst d8
      have d7 : b7 = true := hd ⟨7, .chain⟩ (by simp) rfl
      subst d7
      have d0 : b0 = true := hd ⟨0, .phase⟩ (by simp) rfl
      subst d0
      have d1 : b1 = true := hd ⟨1, .phase⟩ (by simp) rfl
      subst d1
      have d2 : b2 = true := hd ⟨2, .phase⟩ (by simp) rfl
      subst d2
      have d3 : b3 = true := hd ⟨3, .phase⟩ (by simp) rfl
      subst d3
      have d4 : b4 = true := hd ⟨4, .phase⟩ (by simp) rfl
      subst d4
      have d5 : b5 = true := hd ⟨5, .phase⟩ (by simp) rfl
      subst d5
      have d6 : b6 = true := hd ⟨6, .phase⟩ (by simp) rfl
      subst d6
      obtain rfl := cd8.out rfl
      obtain rfl := cd7.out rfl
      obtain rfl := cd0.out rfl
      obtain rfl := cd1.out rfl
      obtain rfl := cd2.out rfl
      obtain rfl := cd3.out rfl
      obtain rfl := cd4.out rfl
      obtain rfl := cd5.out rfl
      obtain rfl := cd6.out rfl
      clear hf hd
      have W_b0 := f_b0.out
      have W_z := f_z.out rfl
      have W_r1 := f_r1.out rfl
      have W_r2 := f_r2.out rfl
      try simp only [List.setIfInBounds_toArray, List.set_cons_zero, List.set_cons_succ]
      intro K hK
      rw [if_pos (by rfl)]
      refine wp_store_rk _ _ rfl r none 0 0 none 0 0 rfl ao1 k1 c1 ao2 k2 c2 rfl (Lib.hid W_z) fun w2 h8 g8 => ?_
      have hb2 := hb.grown g8 (Nat.le_trans hB0 hb.size) (fun z hz => by cases hz; exact hBr)
      exact hK.out _ _ ⟨true, true, true, true, true, true, true, true, true, true, .pointer (some ⟨p, 0, none⟩), .slice ho hn hc, .int .i64 s, .slice ao1 k1 c1, .pointer (some ⟨p, 1, none⟩), .slice wo1 wn wc, .int .i64 s, .slice ao2 k2 c2, .agg #[.slice ao1 k1 c1, .slice ao2 k2 c2], ao1, k1, c1, ao2, k2, c2, (by simp only [Act.put, List.setIfInBounds_toArray, List.set_cons_zero, List.set_cons_succ]), (by simp only [Act.put, List.setIfInBounds_toArray, List.set_cons_zero, List.set_cons_succ]), hb2, (fun _ => rfl), (fun _ => rfl), (fun _ => rfl), (fun _ => rfl), (fun _ => rfl), (fun _ => rfl), (fun _ => rfl), (fun _ => rfl), (fun _ => rfl), ((f_b0.out).far g8 hpr), (fun h => by cases h), (fun h0 => ((f_r1.out h0)).farT W_z (by decide) g8), (fun h0 => ((f_r2.out h0)).farT W_z (by decide) g8), (fun _ => h8), (fun _ => w_8_3.out rfl), (fun _ => w_8_7.out rfl), (fun _ => rfl), (fun _ => rfl)⟩
  · rintro act V ⟨b0, b1, b2, b3, b4, b5, b6, b7, b8, b9, x5, x6, x7, x8, x9, x10, x11, x12, x13, ao1, k1, c1, ao2, k2, c2, hL, rfl, hb, cd0, cd1, cd2, cd3, cd4, cd5, cd6, cd7, cd8, f_b0, f_z, f_r1, f_r2, f_o, f_q3, f_q7, w_8_3, w_8_7⟩
    have hL' : [true, true, true, true, true, true, true, true, true, true] = [b0, b1, b2, b3, b4, b5, b6, b7, b8, b9] := congrArg Array.toList hL
    simp only [List.cons.injEq, and_true] at hL'
    obtain ⟨rfl, rfl, rfl, rfl, rfl, rfl, rfl, rfl, rfl, rfl⟩ := hL'
    obtain rfl := cd0.out rfl
    obtain rfl := cd1.out rfl
    obtain rfl := cd2.out rfl
    obtain rfl := cd3.out rfl
    obtain rfl := cd4.out rfl
    obtain rfl := cd5.out rfl
    obtain rfl := cd6.out rfl
    obtain rfl := cd7.out rfl
    obtain rfl := cd8.out rfl
    have W_b0 := f_b0.out
    have W_r1 := f_r1.out rfl
    have W_r2 := f_r2.out rfl
    have W_o := f_o.out rfl
    have W_q3 := f_q3.out rfl
    have W_q7 := f_q7.out rfl
    clear hL f_b0 f_z f_r1 f_r2 f_o f_q3 f_q7 cd0 cd1 cd2 cd3 cd4 cd5 cd6 cd7 cd8 w_8_3 w_8_7
    simp only [List.setIfInBounds_toArray, List.set_cons_zero, List.set_cons_succ]
    go_wp2_with fail
    obtain ⟨y0, y1⟩ := W_o.c
    refine bodyPost_ret (v := .agg #[.slice ao1 k1 c1, .slice ao2 k2 c2]) (by simp [results, Try.results54, go_sem, y0, y1]) rfl ?_
    rw [HP.out]
    refine ⟨_, rfl, ⟨ao1, k1, c1, ao2, k2, c2, rfl, W_r1.isR, W_r2.isR, W_r1.rowO.from2 (Nat.le_refl _), W_r2.rowO.from2 (Nat.le_refl _)⟩, ?_⟩
    exact BA.trans ((Below.refl _ _).drew.trans hb)
set_option maxRecDepth 100000 in
set_option maxHeartbeats 2000000 in
theorem rsame_lk1 (w : World) (ho : Option Addr) (hn hc : Nat) (wo1 : Option Addr) (wn wc : Nat) (ko : Option Addr) (kn kc : Nat) (lo : Option Addr) (ln lc : Nat) (HL WL : List Hd)
    (h1 : IsR EHd w ho hn hc HL) (h2 : IsR EHd w wo1 wn wc WL) (h3 : IsR EHd w ko kn kc HL) (h4 : IsR EHd w lo ln lc WL) :
    Calls Try.prog 57 #[.agg #[.slice ho hn hc, .slice wo1 wn wc], .agg #[.slice ko kn kc, .slice lo ln lc]] w fun e w' => e = .returned (.bool true) ∧ Below w.heap.size w w' := by
  have X0 := LkB.new w ho hn hc wo1 wn wc 99
  have B0 : Below w.heap.size w (w.alloc (.cells #[.slice ho hn hc, .slice wo1 wn wc] 99)) := (Below.refl _ _).alloc (Nat.le_refl _) _
  have Y0 := LkB.new (w.alloc (.cells #[.slice ho hn hc, .slice wo1 wn wc] 99)) ko kn kc lo ln lc 99
  have X1 := X0.past ((Below.refl _ _).alloc (Nat.le_refl _) (.cells #[.slice ko kn kc, .slice lo ln lc] 99))
  have BA := B0.alloc B0.size (.cells #[.slice ko kn kc, .slice lo ln lc] 99)
  rw [World.size_alloc] at Y0
  have e1 := h1.len
  have e2 := h2.len
  have e3 := h3.len
  have e4 := h4.len
  obtain rfl : hn = kn := by omega
  obtain rfl : wn = ln := by omega
  have hm1 := h1.max
  have hm2 := h1.le
  have hm3 := h2.max
  have hm4 := h2.le
  unfold maxLen at hm1 hm3
  have n1 : ((hn : Int) != (hn : Int)) = false := by simp
  have n2 : ((wn : Int) != (wn : Int)) = false := by simp
  have h1 := h1.past BA
  have h2 := h2.past BA
  have h3 := h3.past BA
  have h4 := h4.past BA
  clear X0 B0
  go_enter Try.func57, Try.ntmps57
  go_upto_region 1 with fail
  generalize (w.alloc (.cells #[.slice ho hn hc, .slice wo1 wn wc] 99)).alloc (.cells #[.slice ko hn kc, .slice lo wn lc] 99) = W at X1 Y0 BA h1 h2 h3 h4 ⊢
  have BU0 : Below W.heap.size W W := Below.refl _ _
  obtain ⟨c0, c1⟩ := X1.c
  obtain ⟨d0, d1⟩ := Y0.c
  go_wp2_with fail
  go_loopw [5] (fun zs wr => ∃ j : Nat, j ≤ hn ∧ zs = .int .i64 (j : Nat) ∧ Below W.heap.size W wr) (fun zs _ => hn - (intOf zs).toNat)
  case atStart => exact ⟨0, by omega, rfl, BU0⟩
  case round =>
    clear BU0
    obtain ⟨j, hj, rfl, BU⟩ := hrel
    obtain ⟨c0, c1⟩ := (X1.past BU).c
    obtain ⟨d0, d1⟩ := (Y0.past BU).c
    by_cases hlt : j < hn
    · have hlti : (j : Int) < (hn : Int) := by omega
      obtain ⟨y, hy⟩ : ∃ v, HL[j]? = some v := ⟨HL[j]'(by omega), List.getElem?_eq_getElem _⟩
      obtain ⟨rb, roff, rfl, hrb, hrc⟩ := (h1.past BU).open (by omega) (by decide)
      obtain ⟨y0_, y1_, y2_⟩ := cells_hd hrc j y hy
      obtain ⟨sb, soff, rfl, hsb, hsc⟩ := (h3.past BU).open (by omega) (by decide)
      obtain ⟨x0_, x1_, x2_⟩ := cells_hd hsc j y hy
      clear hrc hsc hy
      obtain ⟨s, t, x⟩ := y
      simp only at y0_ y1_ y2_ x0_ x1_ x2_
      have f1 : ((bsOf t).toList == (bsOf t).toList) = true := by simp
      go_wp2_with fail
      go_region
      all_goals
        go_wp2_with fail
        go_roundw
        case rel => exact ⟨j + 1, by omega, by go_num, BU.drew⟩
        case measure => simp [intOf]; omega
    · have hlti : ¬ ((j : Int) < (hn : Int)) := by omega
      have BU0 := BU
      clear BU
      go_wp2_with fail
      go_loopw [6] (fun zs wr => ∃ j : Nat, j ≤ wn ∧ zs = .int .i64 (j : Nat) ∧ Below W.heap.size W wr) (fun zs _ => wn - (intOf zs).toNat)
      case atStart => exact ⟨0, by omega, rfl, BU0⟩
      case round =>
        clear BU0
        obtain ⟨j, hj, rfl, BU⟩ := hrel
        obtain ⟨c0, c1⟩ := (X1.past BU).c
        obtain ⟨d0, d1⟩ := (Y0.past BU).c
        by_cases hlt : j < wn
        · have hlti : (j : Int) < (wn : Int) := by omega
          obtain ⟨y, hy⟩ : ∃ v, WL[j]? = some v := ⟨WL[j]'(by omega), List.getElem?_eq_getElem _⟩
          obtain ⟨rb, roff, rfl, hrb, hrc⟩ := (h2.past BU).open (by omega) (by decide)
          obtain ⟨y0_, y1_, y2_⟩ := cells_hd hrc j y hy
          obtain ⟨sb, soff, rfl, hsb, hsc⟩ := (h4.past BU).open (by omega) (by decide)
          obtain ⟨x0_, x1_, x2_⟩ := cells_hd hsc j y hy
          clear hrc hsc hy
          obtain ⟨s, t, x⟩ := y
          simp only at y0_ y1_ y2_ x0_ x1_ x2_
          have f1 : ((bsOf t).toList == (bsOf t).toList) = true := by simp
          go_wp2_with fail
          go_region
          all_goals
            go_wp2_with fail
            go_roundw
            case rel => exact ⟨j + 1, by omega, by go_num, BU.drew⟩
            case measure => simp [intOf]; omega
        · have hlti : ¬ ((j : Int) < (wn : Int)) := by omega
          go_wp2_with fail
          go_ret
          exact ⟨rfl, BA.trans (BU.mono BA.size)⟩
set_option maxRecDepth 100000 in
set_option maxHeartbeats 4000000 in
theorem toRef_any (w : World) (ho : Option Addr) (hn hc : Nat) (wq : Option Addr) (wn wc : Nat) (HL WL : List Hd) (h1 : IsR EHd w ho hn hc HL) (h2 : IsR EHd w wq wn wc WL) (hl1 : HL.length ≤ 100000) (hl2 : WL.length ≤ 100000) :
    Calls Try.prog 51 #[.agg #[.slice ho hn hc, .slice wq wn wc]] w fun e w' => ∃ v', e = .returned v' ∧ LkF w' v' w.heap.size HL WL ∧ Below w.heap.size w w' := by
  have X0 := LkB.new w ho hn hc wq wn wc 96
  have B0 : Below w.heap.size w (w.alloc (.cells #[.slice ho hn hc, .slice wq wn wc] 96)) := (Below.refl _ _).alloc (Nat.le_refl _) _
  have gH0 := h1.ltB (by decide)
  have gW0 := h2.ltB (by decide)
  go_enter Try.func51, Try.ntmps51
  go_upto_region 1 with fail
  have Z0 := LkB.new (w.alloc (.cells #[.slice ho hn hc, .slice wq wn wc] 96)) none 0 0 none 0 0 99
  have X1 := X0.past ((Below.refl _ _).alloc (Nat.le_refl _) (.cells #[.slice none 0 0, .slice none 0 0] 99))
  have B1 := B0.alloc B0.size (.cells #[.slice none 0 0, .slice none 0 0] 99)
  rw [World.size_alloc] at Z0
  generalize (w.alloc (.cells #[.slice ho hn hc, .slice wq wn wc] 96)).alloc (.cells #[.slice none 0 0, .slice none 0 0] 99) = U2 at X1 Z0 B1 ⊢
  clear X0 B0
  have bQ : Below U2.heap.size U2 (U2.alloc (.cells #[.slice none 0 0, .slice none 0 0] 99)) := (Below.refl _ _).alloc (Nat.le_refl _) _
  have Q0 := LkB.new U2 none 0 0 none 0 0 99
  have XU := X1.past bQ
  have XRU := Z0.past bQ
  have RDh := (h1.past B1).past bQ
  have RDw := (h2.past B1).past bQ
  have B4 := B1.trans (bQ.mono B1.size)
  have hs2 := Z0.lt
  obtain ⟨f0_, f1_⟩ := Q0.free
  go_upto_region 2 with fail
  generalize U2.alloc (.cells #[.slice none 0 0, .slice none 0 0] 99) = U at Q0 XU XRU RDh RDw B4 ⊢
  obtain ⟨p, hp⟩ : ∃ p, w.heap.size = p := ⟨_, rfl⟩
  have HP := Lib.hid hp
  have hrq0 := hs2
  rw [hp] at XRU hrq0
  obtain ⟨r, hr⟩ : ∃ r, p + 1 = r := ⟨_, rfl⟩
  rw [hr] at XRU hrq0
  have hpq0 := X1.lt
  obtain ⟨q, hq⟩ : ∃ q, U2.heap.size = q := ⟨_, rfl⟩
  rw [hq] at Q0 hrq0 hpq0
  rw [hp] at XU B4 hpq0
  simp only [hq, hp]
  simp only [hr]
  have hpq := hpq0
  have hpq' : p ≤ q := Nat.le_of_lt hpq
  have hpr : p ≤ r := by omega
  have gH : 0 < hn → ∀ a, ho = some a → a.block < q := fun hn0 a ha => by have := gH0 hn0 a ha; omega
  have gW : 0 < wn → ∀ a, wq = some a → a.block < q := fun hn0 a ha => by have := gW0 hn0 a ha; omega
  have hm1 := h1.max
  have hm2 := h1.le
  have hm3 := h2.max
  have hm4 := h2.le
  unfold maxLen at hm1 hm3
  have WT0 : RtAt U q (HL.take 0) [] := ⟨none, 0, 0, none, 0, 0, Q0, TxtR.nil _ _ _, TxtR.nil _ _ _, fun z hz => by cases hz⟩
  have BU : Below q U U := Below.refl _ _
  clear hr hq hp gH0 gW0 Q0 Z0 X1 B1 bQ hs2 hpq0 f0_ f1_ h1 h2
  go_wp2_with fail
  go_loopw [4] (fun zs wr => ∃ j : Nat, j ≤ hn ∧ zs = .int .i64 (j : Nat) ∧ RtAt wr q (HL.take j) [] ∧ Below q U wr) (fun zs _ => hn - (intOf zs).toNat)
  case atStart => exact ⟨0, by omega, rfl, WT0, BU⟩
  case round =>
    clear WT0 BU
    obtain ⟨j, hj, rfl, WT, BQ⟩ := hrel
    have XP := (BQ.block p hpq).trans XU
    have hznl := RDh.len
    obtain ⟨cp0, cp1⟩ := LkB.c XP
    by_cases hlt : j < hn
    · have hlti : (j : Int) < (hn : Int) := by omega
      obtain ⟨y, hy⟩ : ∃ y, HL[j]? = some y := ⟨HL[j]'(by omega), List.getElem?_eq_getElem _⟩
      obtain ⟨rb, roff, rfl, hrb, hrc⟩ := RDh.open (by omega) (by decide)
      have hrq : rb < q := gH (by omega) _ rfl
      obtain ⟨y0_, y1_, y2_⟩ := cells_hd hrc j y hy
      rw [← BQ.cell (show (⟨rb, roff + j * 3, none⟩ : Addr).block < q from hrq)] at y0_
      rw [← BQ.cell (show (⟨rb, roff + j * 3 + 1, none⟩ : Addr).block < q from hrq)] at y1_
      rw [← BQ.cell (show (⟨rb, roff + j * 3 + 2, none⟩ : Addr).block < q from hrq)] at y2_
      have hnx := Lib.hid (show HL.take (j + 1) = HL.take j ++ [y] by rw [List.take_add_one, hy]; rfl)
      clear hrc hy
      obtain ⟨s, t, x⟩ := y
      simp only at y0_ y1_ y2_
      go_upto_region 5 with fail
      obtain ⟨ao1, n1, c1_, ao2, n2, c2_, XQ, T1, T2, AP0⟩ := WT
      generalize wr = W7 at XP XQ T1 T2 BQ y0_ y1_ y2_ cp0 cp1 ⊢
      obtain ⟨ML, hML⟩ : ∃ z_, z_ = HL.take j := ⟨_, rfl⟩
      rw [← hML] at T1 hnx
      obtain ⟨OL, hOL⟩ : ∃ z_, z_ = ([] : List Hd) := ⟨_, rfl⟩
      rw [← hOL] at T2
      have hOLh := Lib.hid hOL
      clear hOL
      have TM := T1
      have TO := T2
      have AP : ∀ z, Go.Proofs.Ytllijeciodmckaa.blk ao1 = some z → Go.Proofs.Ytllijeciodmckaa.blk ao2 ≠ some z := AP0
      have hqW := XQ.lt
      have hB0 : q ≤ W7.heap.size := Nat.le_of_lt hqW
      have hB1 : q + 1 ≤ W7.heap.size := hqW
      have hBq : q ≤ W7.heap.size := hB0
      have hpB := hpq
      have hrB := hrq
      have cp := cp0
      have hMl := TM.len
      have hMl2 : ML.length ≤ 100000 := by
        rw [hML, List.length_take]
        omega
      obtain ⟨N, HN⟩ : ∃ N, n1 + 1 = N := ⟨_, rfl⟩
      have hNm : N ≤ 1000000 := by omega
      clear hML T1 T2 AP0 cp0 cp1
      refine region_inv (ToRefW0 q p q ao1 n1 c1_ ao2 n2 c2_ N rb roff hn hc j s t x ML OL) (by kernel_rfl) (by kernel_rfl) ?_ ?_ ?_
      · exact ⟨false, false, false, false, false, false, false, false, false, false, false, false, false, false, false, false, false, false, false, false, false, false, false, false, false, u14, u15, u16, u17, u18, u19, u20, u21, u22, u23, u24, u25, u26, u27, u28, u29, u30, u31, u32, u33, u34, u35, u36, u37, 0, 0, 0, rfl, (by simp only [Act.put, List.setIfInBounds_toArray, List.set_cons_zero, List.set_cons_succ]), Below.refl _ _, (fun h => by cases h), (fun h => by cases h), (fun h => by cases h), (fun h => by cases h), (fun h => by cases h), (fun h => by cases h), (fun h => by cases h), (fun h => by cases h), (fun h => by cases h), (fun h => by cases h), (fun h => by cases h), (fun h => by cases h), (fun h => by cases h), (fun h => by cases h), (fun h => by cases h), (fun h => by cases h), (fun h => by cases h), (fun h => by cases h), (fun h => by cases h), (fun h => by cases h), (fun h => by cases h), (fun h => by cases h), (fun h => by cases h), (fun h => by cases h), (fun h1 => XQ.past (Below.refl _ _).drew), (fun h1 => TM.past (Below.refl _ _).drew), (TO.past (Below.refl _ _).drew), (fun h => by cases h), (fun h => by cases h), (fun h => by cases h), (fun h => by cases h), (fun h => by cases h), (fun h => by cases h), (fun h => by cases h), (fun h => by cases h), (fun h => by cases h)⟩
      · refine ⟨?_, ?_, ?_, ?_, ?_, ?_, ?_, ?_, ?_, ?_, ?_, ?_, ?_, ?_, ?_, ?_, ?_, ?_, ?_, ?_, ?_, ?_, ?_, ?_, ?_, trivial⟩
        · rintro L a w ⟨b0, b1, b2, b3, b4, b5, b6, b7, b8, b9, b10, b11, b12, b13, b14, b15, b16, b17, b18, b19, b20, b21, b22, b23, b24, x14, x15, x16, x17, x18, x19, x20, x21, x22, x23, x24, x25, x26, x27, x28, x29, x30, x31, x32, x33, x34, x35, x36, x37, gb, g9, c9, rfl, rfl, hb, cd0, cd1, cd2, cd3, cd4, cd5, cd6, cd7, cd8, cd9, cd10, cd11, cd12, cd13, cd14, cd15, cd16, cd17, cd18, cd19, cd20, cd21, cd22, cd23, f_q, f_m, f_ot, f_bl, f_q7, f_r, f_ap, f_o, f_q77, f_q88, f_q1, f_q1s⟩ hf hd
          have hf' : b0 = false := hf
          subst hf'
          clear hf hd
          have W_ot := f_ot.out
          try simp only [List.setIfInBounds_toArray, List.set_cons_zero, List.set_cons_succ]
          intro K hK
          rw [if_pos (by rfl)]
          go_simp
          exact hK.out _ _ ⟨true, b1, b2, b3, b4, b5, b6, b7, b8, b9, b10, b11, b12, b13, b14, b15, b16, b17, b18, b19, b20, b21, b22, b23, b24, (.pointer (some ⟨q, 0, none⟩)), x15, x16, x17, x18, x19, x20, x21, x22, x23, x24, x25, x26, x27, x28, x29, x30, x31, x32, x33, x34, x35, x36, x37, gb, g9, c9, (by simp only [Act.put, List.setIfInBounds_toArray, List.set_cons_zero, List.set_cons_succ]), (by simp only [Act.put, List.setIfInBounds_toArray, List.set_cons_zero, List.set_cons_succ]), hb, (fun _ => rfl), cd1, cd2, cd3, cd4, cd5, cd6, cd7, cd8, cd9, cd10, cd11, cd12, cd13, cd14, cd15, cd16, cd17, cd18, cd19, cd20, cd21, cd22, cd23, f_q, f_m, f_ot, f_bl, f_q7, f_r, f_ap, f_o, f_q77, f_q88, f_q1, f_q1s⟩
        · rintro L a w ⟨b0, b1, b2, b3, b4, b5, b6, b7, b8, b9, b10, b11, b12, b13, b14, b15, b16, b17, b18, b19, b20, b21, b22, b23, b24, x14, x15, x16, x17, x18, x19, x20, x21, x22, x23, x24, x25, x26, x27, x28, x29, x30, x31, x32, x33, x34, x35, x36, x37, gb, g9, c9, rfl, rfl, hb, cd0, cd1, cd2, cd3, cd4, cd5, cd6, cd7, cd8, cd9, cd10, cd11, cd12, cd13, cd14, cd15, cd16, cd17, cd18, cd19, cd20, cd21, cd22, cd23, f_q, f_m, f_ot, f_bl, f_q7, f_r, f_ap, f_o, f_q77, f_q88, f_q1, f_q1s⟩ hf hd
          have hf' : b1 = false := hf
          subst hf'
          have d0 : b0 = true := hd ⟨0, .data⟩ (by simp) rfl
          subst d0
          obtain rfl := cd0.out rfl
          clear hf hd
          have W_ot := f_ot.out
          try simp only [List.setIfInBounds_toArray, List.set_cons_zero, List.set_cons_succ]
          have e_q : b24 = false := by cases hq : b24 with | false => rfl | true => exact absurd (f_q1s.out hq) (by simp)
          have W_q := f_q.out e_q
          obtain ⟨z0, z1⟩ := W_q.c
          intro K hK
          rw [if_pos (by rfl)]
          go_simp
          exact hK.out _ _ ⟨true, true, b2, b3, b4, b5, b6, b7, b8, b9, b10, b11, b12, b13, b14, b15, b16, b17, b18, b19, b20, b21, b22, b23, b24, .pointer (some ⟨q, 0, none⟩), (.slice ao1 n1 c1_), x16, x17, x18, x19, x20, x21, x22, x23, x24, x25, x26, x27, x28, x29, x30, x31, x32, x33, x34, x35, x36, x37, gb, g9, c9, (by simp only [Act.put, List.setIfInBounds_toArray, List.set_cons_zero, List.set_cons_succ]), (by simp only [Act.put, List.setIfInBounds_toArray, List.set_cons_zero, List.set_cons_succ]), hb, (fun _ => rfl), (fun _ => rfl), cd2, cd3, cd4, cd5, cd6, cd7, cd8, cd9, cd10, cd11, cd12, cd13, cd14, cd15, cd16, cd17, cd18, cd19, cd20, cd21, cd22, cd23, f_q, f_m, f_ot, f_bl, f_q7, f_r, f_ap, f_o, f_q77, f_q88, (fun _ => rfl), (fun _ => rfl)⟩
        · rintro L a w ⟨b0, b1, b2, b3, b4, b5, b6, b7, b8, b9, b10, b11, b12, b13, b14, b15, b16, b17, b18, b19, b20, b21, b22, b23, b24, x14, x15, x16, x17, x18, x19, x20, x21, x22, x23, x24, x25, x26, x27, x28, x29, x30, x31, x32, x33, x34, x35, x36, x37, gb, g9, c9, rfl, rfl, hb, cd0, cd1, cd2, cd3, cd4, cd5, cd6, cd7, cd8, cd9, cd10, cd11, cd12, cd13, cd14, cd15, cd16, cd17, cd18, cd19, cd20, cd21, cd22, cd23, f_q, f_m, f_ot, f_bl, f_q7, f_r, f_ap, f_o, f_q77, f_q88, f_q1, f_q1s⟩ hf hd
          have hf' : b2 = false := hf
          subst hf'
          clear hf hd
          have W_ot := f_ot.out
          try simp only [List.setIfInBounds_toArray, List.set_cons_zero, List.set_cons_succ]
          intro K hK
          rw [if_pos (by rfl)]
          go_simp
          exact hK.out _ _ ⟨b0, b1, true, b3, b4, b5, b6, b7, b8, b9, b10, b11, b12, b13, b14, b15, b16, b17, b18, b19, b20, b21, b22, b23, b24, x14, x15, (.pointer (some ⟨p, 0, none⟩)), x17, x18, x19, x20, x21, x22, x23, x24, x25, x26, x27, x28, x29, x30, x31, x32, x33, x34, x35, x36, x37, gb, g9, c9, (by simp only [Act.put, List.setIfInBounds_toArray, List.set_cons_zero, List.set_cons_succ]), (by simp only [Act.put, List.setIfInBounds_toArray, List.set_cons_zero, List.set_cons_succ]), hb, cd0, cd1, (fun _ => rfl), cd3, cd4, cd5, cd6, cd7, cd8, cd9, cd10, cd11, cd12, cd13, cd14, cd15, cd16, cd17, cd18, cd19, cd20, cd21, cd22, cd23, f_q, f_m, f_ot, f_bl, f_q7, f_r, f_ap, f_o, f_q77, f_q88, f_q1, f_q1s⟩
        · rintro L a w ⟨b0, b1, b2, b3, b4, b5, b6, b7, b8, b9, b10, b11, b12, b13, b14, b15, b16, b17, b18, b19, b20, b21, b22, b23, b24, x14, x15, x16, x17, x18, x19, x20, x21, x22, x23, x24, x25, x26, x27, x28, x29, x30, x31, x32, x33, x34, x35, x36, x37, gb, g9, c9, rfl, rfl, hb, cd0, cd1, cd2, cd3, cd4, cd5, cd6, cd7, cd8, cd9, cd10, cd11, cd12, cd13, cd14, cd15, cd16, cd17, cd18, cd19, cd20, cd21, cd22, cd23, f_q, f_m, f_ot, f_bl, f_q7, f_r, f_ap, f_o, f_q77, f_q88, f_q1, f_q1s⟩ hf hd
          have hf' : b3 = false := hf
          subst hf'
          have d2 : b2 = true := hd ⟨2, .data⟩ (by simp) rfl
          subst d2
          obtain rfl := cd2.out rfl
          clear hf hd
          have W_ot := f_ot.out
          try simp only [List.setIfInBounds_toArray, List.set_cons_zero, List.set_cons_succ]
          have z0 := (hb.cell hpB).trans cp
          intro K hK
          rw [if_pos (by rfl)]
          go_simp
          exact hK.out _ _ ⟨b0, b1, true, true, b4, b5, b6, b7, b8, b9, b10, b11, b12, b13, b14, b15, b16, b17, b18, b19, b20, b21, b22, b23, b24, x14, x15, .pointer (some ⟨p, 0, none⟩), (.slice (some ⟨rb, roff, none⟩) hn hc), x18, x19, x20, x21, x22, x23, x24, x25, x26, x27, x28, x29, x30, x31, x32, x33, x34, x35, x36, x37, gb, g9, c9, (by simp only [Act.put, List.setIfInBounds_toArray, List.set_cons_zero, List.set_cons_succ]), (by simp only [Act.put, List.setIfInBounds_toArray, List.set_cons_zero, List.set_cons_succ]), hb, cd0, cd1, (fun _ => rfl), (fun _ => rfl), cd4, cd5, cd6, cd7, cd8, cd9, cd10, cd11, cd12, cd13, cd14, cd15, cd16, cd17, cd18, cd19, cd20, cd21, cd22, cd23, f_q, f_m, f_ot, f_bl, f_q7, f_r, f_ap, f_o, f_q77, f_q88, f_q1, f_q1s⟩
        · rintro L a w ⟨b0, b1, b2, b3, b4, b5, b6, b7, b8, b9, b10, b11, b12, b13, b14, b15, b16, b17, b18, b19, b20, b21, b22, b23, b24, x14, x15, x16, x17, x18, x19, x20, x21, x22, x23, x24, x25, x26, x27, x28, x29, x30, x31, x32, x33, x34, x35, x36, x37, gb, g9, c9, rfl, rfl, hb, cd0, cd1, cd2, cd3, cd4, cd5, cd6, cd7, cd8, cd9, cd10, cd11, cd12, cd13, cd14, cd15, cd16, cd17, cd18, cd19, cd20, cd21, cd22, cd23, f_q, f_m, f_ot, f_bl, f_q7, f_r, f_ap, f_o, f_q77, f_q88, f_q1, f_q1s⟩ hf hd
          have hf' : b4 = false := hf
          subst hf'
          clear hf hd
          have W_ot := f_ot.out
          try simp only [List.setIfInBounds_toArray, List.set_cons_zero, List.set_cons_succ]
          intro K hK
          rw [if_pos (by rfl)]
          go_simp
          exact hK.out _ _ ⟨b0, b1, b2, b3, true, b5, b6, b7, b8, b9, b10, b11, b12, b13, b14, b15, b16, b17, b18, b19, b20, b21, b22, b23, b24, x14, x15, x16, x17, (.int .i64 (j : Nat)), x19, x20, x21, x22, x23, x24, x25, x26, x27, x28, x29, x30, x31, x32, x33, x34, x35, x36, x37, gb, g9, c9, (by simp only [Act.put, List.setIfInBounds_toArray, List.set_cons_zero, List.set_cons_succ]), (by simp only [Act.put, List.setIfInBounds_toArray, List.set_cons_zero, List.set_cons_succ]), hb, cd0, cd1, cd2, cd3, (fun _ => rfl), cd5, cd6, cd7, cd8, cd9, cd10, cd11, cd12, cd13, cd14, cd15, cd16, cd17, cd18, cd19, cd20, cd21, cd22, cd23, f_q, f_m, f_ot, f_bl, f_q7, f_r, f_ap, f_o, f_q77, f_q88, f_q1, f_q1s⟩
        · rintro L a w ⟨b0, b1, b2, b3, b4, b5, b6, b7, b8, b9, b10, b11, b12, b13, b14, b15, b16, b17, b18, b19, b20, b21, b22, b23, b24, x14, x15, x16, x17, x18, x19, x20, x21, x22, x23, x24, x25, x26, x27, x28, x29, x30, x31, x32, x33, x34, x35, x36, x37, gb, g9, c9, rfl, rfl, hb, cd0, cd1, cd2, cd3, cd4, cd5, cd6, cd7, cd8, cd9, cd10, cd11, cd12, cd13, cd14, cd15, cd16, cd17, cd18, cd19, cd20, cd21, cd22, cd23, f_q, f_m, f_ot, f_bl, f_q7, f_r, f_ap, f_o, f_q77, f_q88, f_q1, f_q1s⟩ hf hd
          have hf' : b5 = false := hf
          subst hf'
          have d3 : b3 = true := hd ⟨3, .data⟩ (by simp) rfl
          subst d3
          have d4 : b4 = true := hd ⟨4, .data⟩ (by simp) rfl
          subst d4
          obtain rfl := cd3.out rfl
          obtain rfl := cd4.out rfl
          clear hf hd
          have W_ot := f_ot.out
          try simp only [List.setIfInBounds_toArray, List.set_cons_zero, List.set_cons_succ]
          intro K hK
          rw [if_pos (by rfl)]
          go_simp
          exact hK.out _ _ ⟨b0, b1, b2, true, true, true, b6, b7, b8, b9, b10, b11, b12, b13, b14, b15, b16, b17, b18, b19, b20, b21, b22, b23, b24, x14, x15, x16, .slice (some ⟨rb, roff, none⟩) hn hc, .int .i64 (j : Nat), (.pointer (some ⟨rb, roff + j * 3, none⟩)), x20, x21, x22, x23, x24, x25, x26, x27, x28, x29, x30, x31, x32, x33, x34, x35, x36, x37, gb, g9, c9, (by simp only [Act.put, List.setIfInBounds_toArray, List.set_cons_zero, List.set_cons_succ]), (by simp only [Act.put, List.setIfInBounds_toArray, List.set_cons_zero, List.set_cons_succ]), hb, cd0, cd1, cd2, (fun _ => rfl), (fun _ => rfl), (fun _ => rfl), cd6, cd7, cd8, cd9, cd10, cd11, cd12, cd13, cd14, cd15, cd16, cd17, cd18, cd19, cd20, cd21, cd22, cd23, f_q, f_m, f_ot, f_bl, f_q7, f_r, f_ap, f_o, f_q77, f_q88, f_q1, f_q1s⟩
        · rintro L a w ⟨b0, b1, b2, b3, b4, b5, b6, b7, b8, b9, b10, b11, b12, b13, b14, b15, b16, b17, b18, b19, b20, b21, b22, b23, b24, x14, x15, x16, x17, x18, x19, x20, x21, x22, x23, x24, x25, x26, x27, x28, x29, x30, x31, x32, x33, x34, x35, x36, x37, gb, g9, c9, rfl, rfl, hb, cd0, cd1, cd2, cd3, cd4, cd5, cd6, cd7, cd8, cd9, cd10, cd11, cd12, cd13, cd14, cd15, cd16, cd17, cd18, cd19, cd20, cd21, cd22, cd23, f_q, f_m, f_ot, f_bl, f_q7, f_r, f_ap, f_o, f_q77, f_q88, f_q1, f_q1s⟩ hf hd
          have hf' : b6 = false := hf
          subst hf'
          have d5 : b5 = true := hd ⟨5, .data⟩ (by simp) rfl
          subst d5
          obtain rfl := cd5.out rfl
          clear hf hd
          have W_ot := f_ot.out
          try simp only [List.setIfInBounds_toArray, List.set_cons_zero, List.set_cons_succ]
          intro K hK
          rw [if_pos (by rfl)]
          go_simp
          exact hK.out _ _ ⟨b0, b1, b2, b3, b4, true, true, b7, b8, b9, b10, b11, b12, b13, b14, b15, b16, b17, b18, b19, b20, b21, b22, b23, b24, x14, x15, x16, x17, x18, .pointer (some ⟨rb, roff + j * 3, none⟩), (.pointer (some ⟨rb, roff + j * 3, none⟩)), x21, x22, x23, x24, x25, x26, x27, x28, x29, x30, x31, x32, x33, x34, x35, x36, x37, gb, g9, c9, (by simp only [Act.put, List.setIfInBounds_toArray, List.set_cons_zero, List.set_cons_succ]), (by simp only [Act.put, List.setIfInBounds_toArray, List.set_cons_zero, List.set_cons_succ]), hb, cd0, cd1, cd2, cd3, cd4, (fun _ => rfl), (fun _ => rfl), cd7, cd8, cd9, cd10, cd11, cd12, cd13, cd14, cd15, cd16, cd17, cd18, cd19, cd20, cd21, cd22, cd23, f_q, f_m, f_ot, f_bl, f_q7, f_r, f_ap, f_o, f_q77, f_q88, f_q1, f_q1s⟩
        · rintro L a w ⟨b0, b1, b2, b3, b4, b5, b6, b7, b8, b9, b10, b11, b12, b13, b14, b15, b16, b17, b18, b19, b20, b21, b22, b23, b24, x14, x15, x16, x17, x18, x19, x20, x21, x22, x23, x24, x25, x26, x27, x28, x29, x30, x31, x32, x33, x34, x35, x36, x37, gb, g9, c9, rfl, rfl, hb, cd0, cd1, cd2, cd3, cd4, cd5, cd6, cd7, cd8, cd9, cd10, cd11, cd12, cd13, cd14, cd15, cd16, cd17, cd18, cd19, cd20, cd21, cd22, cd23, f_q, f_m, f_ot, f_bl, f_q7, f_r, f_ap, f_o, f_q77, f_q88, f_q1, f_q1s⟩ hf hd
          have hf' : b7 = false := hf
          subst hf'
          have d6 : b6 = true := hd ⟨6, .data⟩ (by simp) rfl
          subst d6
          obtain rfl := cd6.out rfl
          clear hf hd
          have W_ot := f_ot.out
          try simp only [List.setIfInBounds_toArray, List.set_cons_zero, List.set_cons_succ]
          have z0 := (hb.cell hrB).trans y0_
          intro K hK
          rw [if_pos (by rfl)]
          go_simp
          exact hK.out _ _ ⟨b0, b1, b2, b3, b4, b5, true, true, b8, b9, b10, b11, b12, b13, b14, b15, b16, b17, b18, b19, b20, b21, b22, b23, b24, x14, x15, x16, x17, x18, x19, .pointer (some ⟨rb, roff + j * 3, none⟩), (.int .i64 s), x22, x23, x24, x25, x26, x27, x28, x29, x30, x31, x32, x33, x34, x35, x36, x37, gb, g9, c9, (by simp only [Act.put, List.setIfInBounds_toArray, List.set_cons_zero, List.set_cons_succ]), (by simp only [Act.put, List.setIfInBounds_toArray, List.set_cons_zero, List.set_cons_succ]), hb, cd0, cd1, cd2, cd3, cd4, cd5, (fun _ => rfl), (fun _ => rfl), cd8, cd9, cd10, cd11, cd12, cd13, cd14, cd15, cd16, cd17, cd18, cd19, cd20, cd21, cd22, cd23, f_q, f_m, f_ot, f_bl, f_q7, f_r, f_ap, f_o, f_q77, f_q88, f_q1, f_q1s⟩
        · rintro L a w ⟨b0, b1, b2, b3, b4, b5, b6, b7, b8, b9, b10, b11, b12, b13, b14, b15, b16, b17, b18, b19, b20, b21, b22, b23, b24, x14, x15, x16, x17, x18, x19, x20, x21, x22, x23, x24, x25, x26, x27, x28, x29, x30, x31, x32, x33, x34, x35, x36, x37, gb, g9, c9, rfl, rfl, hb, cd0, cd1, cd2, cd3, cd4, cd5, cd6, cd7, cd8, cd9, cd10, cd11, cd12, cd13, cd14, cd15, cd16, cd17, cd18, cd19, cd20, cd21, cd22, cd23, f_q, f_m, f_ot, f_bl, f_q7, f_r, f_ap, f_o, f_q77, f_q88, f_q1, f_q1s⟩ hf hd
          have hf' : b8 = false := hf
          subst hf'
          clear hf hd
          have W_ot := f_ot.out
          try simp only [List.setIfInBounds_toArray, List.set_cons_zero, List.set_cons_succ]
          intro K hK
          rw [if_pos (by rfl)]
          go_simp
          exact hK.out _ _ ⟨b0, b1, b2, b3, b4, b5, b6, b7, true, b9, b10, b11, b12, b13, b14, b15, b16, b17, b18, b19, b20, b21, b22, b23, b24, x14, x15, x16, x17, x18, x19, x20, x21, (.pointer (some ⟨p, 0, none⟩)), x23, x24, x25, x26, x27, x28, x29, x30, x31, x32, x33, x34, x35, x36, x37, gb, g9, c9, (by simp only [Act.put, List.setIfInBounds_toArray, List.set_cons_zero, List.set_cons_succ]), (by simp only [Act.put, List.setIfInBounds_toArray, List.set_cons_zero, List.set_cons_succ]), hb, cd0, cd1, cd2, cd3, cd4, cd5, cd6, cd7, (fun _ => rfl), cd9, cd10, cd11, cd12, cd13, cd14, cd15, cd16, cd17, cd18, cd19, cd20, cd21, cd22, cd23, f_q, f_m, f_ot, f_bl, f_q7, f_r, f_ap, f_o, f_q77, f_q88, f_q1, f_q1s⟩
        · rintro L a w ⟨b0, b1, b2, b3, b4, b5, b6, b7, b8, b9, b10, b11, b12, b13, b14, b15, b16, b17, b18, b19, b20, b21, b22, b23, b24, x14, x15, x16, x17, x18, x19, x20, x21, x22, x23, x24, x25, x26, x27, x28, x29, x30, x31, x32, x33, x34, x35, x36, x37, gb, g9, c9, rfl, rfl, hb, cd0, cd1, cd2, cd3, cd4, cd5, cd6, cd7, cd8, cd9, cd10, cd11, cd12, cd13, cd14, cd15, cd16, cd17, cd18, cd19, cd20, cd21, cd22, cd23, f_q, f_m, f_ot, f_bl, f_q7, f_r, f_ap, f_o, f_q77, f_q88, f_q1, f_q1s⟩ hf hd
          have hf' : b9 = false := hf
          subst hf'
          have d8 : b8 = true := hd ⟨8, .data⟩ (by simp) rfl
          subst d8
          obtain rfl := cd8.out rfl
          clear hf hd
          have W_ot := f_ot.out
          try simp only [List.setIfInBounds_toArray, List.set_cons_zero, List.set_cons_succ]
          have z0 := (hb.cell hpB).trans cp
          intro K hK
          rw [if_pos (by rfl)]
          go_simp
          exact hK.out _ _ ⟨b0, b1, b2, b3, b4, b5, b6, b7, true, true, b10, b11, b12, b13, b14, b15, b16, b17, b18, b19, b20, b21, b22, b23, b24, x14, x15, x16, x17, x18, x19, x20, x21, .pointer (some ⟨p, 0, none⟩), (.slice (some ⟨rb, roff, none⟩) hn hc), x24, x25, x26, x27, x28, x29, x30, x31, x32, x33, x34, x35, x36, x37, gb, g9, c9, (by simp only [Act.put, List.setIfInBounds_toArray, List.set_cons_zero, List.set_cons_succ]), (by simp only [Act.put, List.setIfInBounds_toArray, List.set_cons_zero, List.set_cons_succ]), hb, cd0, cd1, cd2, cd3, cd4, cd5, cd6, cd7, (fun _ => rfl), (fun _ => rfl), cd10, cd11, cd12, cd13, cd14, cd15, cd16, cd17, cd18, cd19, cd20, cd21, cd22, cd23, f_q, f_m, f_ot, f_bl, f_q7, f_r, f_ap, f_o, f_q77, f_q88, f_q1, f_q1s⟩
        · rintro L a w ⟨b0, b1, b2, b3, b4, b5, b6, b7, b8, b9, b10, b11, b12, b13, b14, b15, b16, b17, b18, b19, b20, b21, b22, b23, b24, x14, x15, x16, x17, x18, x19, x20, x21, x22, x23, x24, x25, x26, x27, x28, x29, x30, x31, x32, x33, x34, x35, x36, x37, gb, g9, c9, rfl, rfl, hb, cd0, cd1, cd2, cd3, cd4, cd5, cd6, cd7, cd8, cd9, cd10, cd11, cd12, cd13, cd14, cd15, cd16, cd17, cd18, cd19, cd20, cd21, cd22, cd23, f_q, f_m, f_ot, f_bl, f_q7, f_r, f_ap, f_o, f_q77, f_q88, f_q1, f_q1s⟩ hf hd
          have hf' : b10 = false := hf
          subst hf'
          clear hf hd
          have W_ot := f_ot.out
          try simp only [List.setIfInBounds_toArray, List.set_cons_zero, List.set_cons_succ]
          intro K hK
          rw [if_pos (by rfl)]
          go_simp
          exact hK.out _ _ ⟨b0, b1, b2, b3, b4, b5, b6, b7, b8, b9, true, b11, b12, b13, b14, b15, b16, b17, b18, b19, b20, b21, b22, b23, b24, x14, x15, x16, x17, x18, x19, x20, x21, x22, x23, (.int .i64 (j : Nat)), x25, x26, x27, x28, x29, x30, x31, x32, x33, x34, x35, x36, x37, gb, g9, c9, (by simp only [Act.put, List.setIfInBounds_toArray, List.set_cons_zero, List.set_cons_succ]), (by simp only [Act.put, List.setIfInBounds_toArray, List.set_cons_zero, List.set_cons_succ]), hb, cd0, cd1, cd2, cd3, cd4, cd5, cd6, cd7, cd8, cd9, (fun _ => rfl), cd11, cd12, cd13, cd14, cd15, cd16, cd17, cd18, cd19, cd20, cd21, cd22, cd23, f_q, f_m, f_ot, f_bl, f_q7, f_r, f_ap, f_o, f_q77, f_q88, f_q1, f_q1s⟩
        · rintro L a w ⟨b0, b1, b2, b3, b4, b5, b6, b7, b8, b9, b10, b11, b12, b13, b14, b15, b16, b17, b18, b19, b20, b21, b22, b23, b24, x14, x15, x16, x17, x18, x19, x20, x21, x22, x23, x24, x25, x26, x27, x28, x29, x30, x31, x32, x33, x34, x35, x36, x37, gb, g9, c9, rfl, rfl, hb, cd0, cd1, cd2, cd3, cd4, cd5, cd6, cd7, cd8, cd9, cd10, cd11, cd12, cd13, cd14, cd15, cd16, cd17, cd18, cd19, cd20, cd21, cd22, cd23, f_q, f_m, f_ot, f_bl, f_q7, f_r, f_ap, f_o, f_q77, f_q88, f_q1, f_q1s⟩ hf hd
          have hf' : b11 = false := hf
          subst hf'
          have d9 : b9 = true := hd ⟨9, .data⟩ (by simp) rfl
          subst d9
          have d10 : b10 = true := hd ⟨10, .data⟩ (by simp) rfl
          subst d10
          obtain rfl := cd9.out rfl
          obtain rfl := cd10.out rfl
          clear hf hd
          have W_ot := f_ot.out
          try simp only [List.setIfInBounds_toArray, List.set_cons_zero, List.set_cons_succ]
          intro K hK
          rw [if_pos (by rfl)]
          go_simp
          exact hK.out _ _ ⟨b0, b1, b2, b3, b4, b5, b6, b7, b8, true, true, true, b12, b13, b14, b15, b16, b17, b18, b19, b20, b21, b22, b23, b24, x14, x15, x16, x17, x18, x19, x20, x21, x22, .slice (some ⟨rb, roff, none⟩) hn hc, .int .i64 (j : Nat), (.pointer (some ⟨rb, roff + j * 3, none⟩)), x26, x27, x28, x29, x30, x31, x32, x33, x34, x35, x36, x37, gb, g9, c9, (by simp only [Act.put, List.setIfInBounds_toArray, List.set_cons_zero, List.set_cons_succ]), (by simp only [Act.put, List.setIfInBounds_toArray, List.set_cons_zero, List.set_cons_succ]), hb, cd0, cd1, cd2, cd3, cd4, cd5, cd6, cd7, cd8, (fun _ => rfl), (fun _ => rfl), (fun _ => rfl), cd12, cd13, cd14, cd15, cd16, cd17, cd18, cd19, cd20, cd21, cd22, cd23, f_q, f_m, f_ot, f_bl, f_q7, f_r, f_ap, f_o, f_q77, f_q88, f_q1, f_q1s⟩
        · rintro L a w ⟨b0, b1, b2, b3, b4, b5, b6, b7, b8, b9, b10, b11, b12, b13, b14, b15, b16, b17, b18, b19, b20, b21, b22, b23, b24, x14, x15, x16, x17, x18, x19, x20, x21, x22, x23, x24, x25, x26, x27, x28, x29, x30, x31, x32, x33, x34, x35, x36, x37, gb, g9, c9, rfl, rfl, hb, cd0, cd1, cd2, cd3, cd4, cd5, cd6, cd7, cd8, cd9, cd10, cd11, cd12, cd13, cd14, cd15, cd16, cd17, cd18, cd19, cd20, cd21, cd22, cd23, f_q, f_m, f_ot, f_bl, f_q7, f_r, f_ap, f_o, f_q77, f_q88, f_q1, f_q1s⟩ hf hd
          have hf' : b12 = false := hf
          subst hf'
          have d11 : b11 = true := hd ⟨11, .data⟩ (by simp) rfl
          subst d11
          obtain rfl := cd11.out rfl
          clear hf hd
          have W_ot := f_ot.out
          try simp only [List.setIfInBounds_toArray, List.set_cons_zero, List.set_cons_succ]
          intro K hK
          rw [if_pos (by rfl)]
          go_simp
          exact hK.out _ _ ⟨b0, b1, b2, b3, b4, b5, b6, b7, b8, b9, b10, true, true, b13, b14, b15, b16, b17, b18, b19, b20, b21, b22, b23, b24, x14, x15, x16, x17, x18, x19, x20, x21, x22, x23, x24, .pointer (some ⟨rb, roff + j * 3, none⟩), (.pointer (some ⟨rb, roff + j * 3 + 1, none⟩)), x27, x28, x29, x30, x31, x32, x33, x34, x35, x36, x37, gb, g9, c9, (by simp only [Act.put, List.setIfInBounds_toArray, List.set_cons_zero, List.set_cons_succ]), (by simp only [Act.put, List.setIfInBounds_toArray, List.set_cons_zero, List.set_cons_succ]), hb, cd0, cd1, cd2, cd3, cd4, cd5, cd6, cd7, cd8, cd9, cd10, (fun _ => rfl), (fun _ => rfl), cd13, cd14, cd15, cd16, cd17, cd18, cd19, cd20, cd21, cd22, cd23, f_q, f_m, f_ot, f_bl, f_q7, f_r, f_ap, f_o, f_q77, f_q88, f_q1, f_q1s⟩
        · rintro L a w ⟨b0, b1, b2, b3, b4, b5, b6, b7, b8, b9, b10, b11, b12, b13, b14, b15, b16, b17, b18, b19, b20, b21, b22, b23, b24, x14, x15, x16, x17, x18, x19, x20, x21, x22, x23, x24, x25, x26, x27, x28, x29, x30, x31, x32, x33, x34, x35, x36, x37, gb, g9, c9, rfl, rfl, hb, cd0, cd1, cd2, cd3, cd4, cd5, cd6, cd7, cd8, cd9, cd10, cd11, cd12, cd13, cd14, cd15, cd16, cd17, cd18, cd19, cd20, cd21, cd22, cd23, f_q, f_m, f_ot, f_bl, f_q7, f_r, f_ap, f_o, f_q77, f_q88, f_q1, f_q1s⟩ hf hd
          have hf' : b13 = false := hf
          subst hf'
          have d12 : b12 = true := hd ⟨12, .data⟩ (by simp) rfl
          subst d12
          obtain rfl := cd12.out rfl
          clear hf hd
          have W_ot := f_ot.out
          try simp only [List.setIfInBounds_toArray, List.set_cons_zero, List.set_cons_succ]
          have z0 := (hb.cell hrB).trans y1_
          intro K hK
          rw [if_pos (by rfl)]
          go_simp
          exact hK.out _ _ ⟨b0, b1, b2, b3, b4, b5, b6, b7, b8, b9, b10, b11, true, true, b14, b15, b16, b17, b18, b19, b20, b21, b22, b23, b24, x14, x15, x16, x17, x18, x19, x20, x21, x22, x23, x24, x25, .pointer (some ⟨rb, roff + j * 3 + 1, none⟩), (.string (bsOf t)), x28, x29, x30, x31, x32, x33, x34, x35, x36, x37, gb, g9, c9, (by simp only [Act.put, List.setIfInBounds_toArray, List.set_cons_zero, List.set_cons_succ]), (by simp only [Act.put, List.setIfInBounds_toArray, List.set_cons_zero, List.set_cons_succ]), hb, cd0, cd1, cd2, cd3, cd4, cd5, cd6, cd7, cd8, cd9, cd10, cd11, (fun _ => rfl), (fun _ => rfl), cd14, cd15, cd16, cd17, cd18, cd19, cd20, cd21, cd22, cd23, f_q, f_m, f_ot, f_bl, f_q7, f_r, f_ap, f_o, f_q77, f_q88, f_q1, f_q1s⟩
        · rintro L a w ⟨b0, b1, b2, b3, b4, b5, b6, b7, b8, b9, b10, b11, b12, b13, b14, b15, b16, b17, b18, b19, b20, b21, b22, b23, b24, x14, x15, x16, x17, x18, x19, x20, x21, x22, x23, x24, x25, x26, x27, x28, x29, x30, x31, x32, x33, x34, x35, x36, x37, gb, g9, c9, rfl, rfl, hb, cd0, cd1, cd2, cd3, cd4, cd5, cd6, cd7, cd8, cd9, cd10, cd11, cd12, cd13, cd14, cd15, cd16, cd17, cd18, cd19, cd20, cd21, cd22, cd23, f_q, f_m, f_ot, f_bl, f_q7, f_r, f_ap, f_o, f_q77, f_q88, f_q1, f_q1s⟩ hf hd
          have hf' : b14 = false := hf
          subst hf'
          clear hf hd
          have W_ot := f_ot.out
          try simp only [List.setIfInBounds_toArray, List.set_cons_zero, List.set_cons_succ]
          intro K hK
          rw [if_pos (by rfl)]
          go_simp
          exact hK.out _ _ ⟨b0, b1, b2, b3, b4, b5, b6, b7, b8, b9, b10, b11, b12, b13, true, b15, b16, b17, b18, b19, b20, b21, b22, b23, b24, x14, x15, x16, x17, x18, x19, x20, x21, x22, x23, x24, x25, x26, x27, (.pointer (some ⟨p, 0, none⟩)), x29, x30, x31, x32, x33, x34, x35, x36, x37, gb, g9, c9, (by simp only [Act.put, List.setIfInBounds_toArray, List.set_cons_zero, List.set_cons_succ]), (by simp only [Act.put, List.setIfInBounds_toArray, List.set_cons_zero, List.set_cons_succ]), hb, cd0, cd1, cd2, cd3, cd4, cd5, cd6, cd7, cd8, cd9, cd10, cd11, cd12, cd13, (fun _ => rfl), cd15, cd16, cd17, cd18, cd19, cd20, cd21, cd22, cd23, f_q, f_m, f_ot, f_bl, f_q7, f_r, f_ap, f_o, f_q77, f_q88, f_q1, f_q1s⟩
        · rintro L a w ⟨b0, b1, b2, b3, b4, b5, b6, b7, b8, b9, b10, b11, b12, b13, b14, b15, b16, b17, b18, b19, b20, b21, b22, b23, b24, x14, x15, x16, x17, x18, x19, x20, x21, x22, x23, x24, x25, x26, x27, x28, x29, x30, x31, x32, x33, x34, x35, x36, x37, gb, g9, c9, rfl, rfl, hb, cd0, cd1, cd2, cd3, cd4, cd5, cd6, cd7, cd8, cd9, cd10, cd11, cd12, cd13, cd14, cd15, cd16, cd17, cd18, cd19, cd20, cd21, cd22, cd23, f_q, f_m, f_ot, f_bl, f_q7, f_r, f_ap, f_o, f_q77, f_q88, f_q1, f_q1s⟩ hf hd
          have hf' : b15 = false := hf
          subst hf'
          have d14 : b14 = true := hd ⟨14, .data⟩ (by simp) rfl
          subst d14
          obtain rfl := cd14.out rfl
          clear hf hd
          have W_ot := f_ot.out
          try simp only [List.setIfInBounds_toArray, List.set_cons_zero, List.set_cons_succ]
          have z0 := (hb.cell hpB).trans cp
          intro K hK
          rw [if_pos (by rfl)]
          go_simp
          exact hK.out _ _ ⟨b0, b1, b2, b3, b4, b5, b6, b7, b8, b9, b10, b11, b12, b13, true, true, b16, b17, b18, b19, b20, b21, b22, b23, b24, x14, x15, x16, x17, x18, x19, x20, x21, x22, x23, x24, x25, x26, x27, .pointer (some ⟨p, 0, none⟩), (.slice (some ⟨rb, roff, none⟩) hn hc), x30, x31, x32, x33, x34, x35, x36, x37, gb, g9, c9, (by simp only [Act.put, List.setIfInBounds_toArray, List.set_cons_zero, List.set_cons_succ]), (by simp only [Act.put, List.setIfInBounds_toArray, List.set_cons_zero, List.set_cons_succ]), hb, cd0, cd1, cd2, cd3, cd4, cd5, cd6, cd7, cd8, cd9, cd10, cd11, cd12, cd13, (fun _ => rfl), (fun _ => rfl), cd16, cd17, cd18, cd19, cd20, cd21, cd22, cd23, f_q, f_m, f_ot, f_bl, f_q7, f_r, f_ap, f_o, f_q77, f_q88, f_q1, f_q1s⟩
        · rintro L a w ⟨b0, b1, b2, b3, b4, b5, b6, b7, b8, b9, b10, b11, b12, b13, b14, b15, b16, b17, b18, b19, b20, b21, b22, b23, b24, x14, x15, x16, x17, x18, x19, x20, x21, x22, x23, x24, x25, x26, x27, x28, x29, x30, x31, x32, x33, x34, x35, x36, x37, gb, g9, c9, rfl, rfl, hb, cd0, cd1, cd2, cd3, cd4, cd5, cd6, cd7, cd8, cd9, cd10, cd11, cd12, cd13, cd14, cd15, cd16, cd17, cd18, cd19, cd20, cd21, cd22, cd23, f_q, f_m, f_ot, f_bl, f_q7, f_r, f_ap, f_o, f_q77, f_q88, f_q1, f_q1s⟩ hf hd
          have hf' : b16 = false := hf
          subst hf'
          clear hf hd
          have W_ot := f_ot.out
          try simp only [List.setIfInBounds_toArray, List.set_cons_zero, List.set_cons_succ]
          intro K hK
          rw [if_pos (by rfl)]
          go_simp
          exact hK.out _ _ ⟨b0, b1, b2, b3, b4, b5, b6, b7, b8, b9, b10, b11, b12, b13, b14, b15, true, b17, b18, b19, b20, b21, b22, b23, b24, x14, x15, x16, x17, x18, x19, x20, x21, x22, x23, x24, x25, x26, x27, x28, x29, (.int .i64 (j : Nat)), x31, x32, x33, x34, x35, x36, x37, gb, g9, c9, (by simp only [Act.put, List.setIfInBounds_toArray, List.set_cons_zero, List.set_cons_succ]), (by simp only [Act.put, List.setIfInBounds_toArray, List.set_cons_zero, List.set_cons_succ]), hb, cd0, cd1, cd2, cd3, cd4, cd5, cd6, cd7, cd8, cd9, cd10, cd11, cd12, cd13, cd14, cd15, (fun _ => rfl), cd17, cd18, cd19, cd20, cd21, cd22, cd23, f_q, f_m, f_ot, f_bl, f_q7, f_r, f_ap, f_o, f_q77, f_q88, f_q1, f_q1s⟩
        · rintro L a w ⟨b0, b1, b2, b3, b4, b5, b6, b7, b8, b9, b10, b11, b12, b13, b14, b15, b16, b17, b18, b19, b20, b21, b22, b23, b24, x14, x15, x16, x17, x18, x19, x20, x21, x22, x23, x24, x25, x26, x27, x28, x29, x30, x31, x32, x33, x34, x35, x36, x37, gb, g9, c9, rfl, rfl, hb, cd0, cd1, cd2, cd3, cd4, cd5, cd6, cd7, cd8, cd9, cd10, cd11, cd12, cd13, cd14, cd15, cd16, cd17, cd18, cd19, cd20, cd21, cd22, cd23, f_q, f_m, f_ot, f_bl, f_q7, f_r, f_ap, f_o, f_q77, f_q88, f_q1, f_q1s⟩ hf hd
          have hf' : b17 = false := hf
          subst hf'
          have d15 : b15 = true := hd ⟨15, .data⟩ (by simp) rfl
          subst d15
          have d16 : b16 = true := hd ⟨16, .data⟩ (by simp) rfl
          subst d16
          obtain rfl := cd15.out rfl
          obtain rfl := cd16.out rfl
          clear hf hd
          have W_ot := f_ot.out
          try simp only [List.setIfInBounds_toArray, List.set_cons_zero, List.set_cons_succ]
          intro K hK
          rw [if_pos (by rfl)]
          go_simp
          exact hK.out _ _ ⟨b0, b1, b2, b3, b4, b5, b6, b7, b8, b9, b10, b11, b12, b13, b14, true, true, true, b18, b19, b20, b21, b22, b23, b24, x14, x15, x16, x17, x18, x19, x20, x21, x22, x23, x24, x25, x26, x27, x28, .slice (some ⟨rb, roff, none⟩) hn hc, .int .i64 (j : Nat), (.pointer (some ⟨rb, roff + j * 3, none⟩)), x32, x33, x34, x35, x36, x37, gb, g9, c9, (by simp only [Act.put, List.setIfInBounds_toArray, List.set_cons_zero, List.set_cons_succ]), (by simp only [Act.put, List.setIfInBounds_toArray, List.set_cons_zero, List.set_cons_succ]), hb, cd0, cd1, cd2, cd3, cd4, cd5, cd6, cd7, cd8, cd9, cd10, cd11, cd12, cd13, cd14, (fun _ => rfl), (fun _ => rfl), (fun _ => rfl), cd18, cd19, cd20, cd21, cd22, cd23, f_q, f_m, f_ot, f_bl, f_q7, f_r, f_ap, f_o, f_q77, f_q88, f_q1, f_q1s⟩
        · rintro L a w ⟨b0, b1, b2, b3, b4, b5, b6, b7, b8, b9, b10, b11, b12, b13, b14, b15, b16, b17, b18, b19, b20, b21, b22, b23, b24, x14, x15, x16, x17, x18, x19, x20, x21, x22, x23, x24, x25, x26, x27, x28, x29, x30, x31, x32, x33, x34, x35, x36, x37, gb, g9, c9, rfl, rfl, hb, cd0, cd1, cd2, cd3, cd4, cd5, cd6, cd7, cd8, cd9, cd10, cd11, cd12, cd13, cd14, cd15, cd16, cd17, cd18, cd19, cd20, cd21, cd22, cd23, f_q, f_m, f_ot, f_bl, f_q7, f_r, f_ap, f_o, f_q77, f_q88, f_q1, f_q1s⟩ hf hd
          have hf' : b18 = false := hf
          subst hf'
          have d17 : b17 = true := hd ⟨17, .data⟩ (by simp) rfl
          subst d17
          obtain rfl := cd17.out rfl
          clear hf hd
          have W_ot := f_ot.out
          try simp only [List.setIfInBounds_toArray, List.set_cons_zero, List.set_cons_succ]
          intro K hK
          rw [if_pos (by rfl)]
          go_simp
          exact hK.out _ _ ⟨b0, b1, b2, b3, b4, b5, b6, b7, b8, b9, b10, b11, b12, b13, b14, b15, b16, true, true, b19, b20, b21, b22, b23, b24, x14, x15, x16, x17, x18, x19, x20, x21, x22, x23, x24, x25, x26, x27, x28, x29, x30, .pointer (some ⟨rb, roff + j * 3, none⟩), (.pointer (some ⟨rb, roff + j * 3 + 2, none⟩)), x33, x34, x35, x36, x37, gb, g9, c9, (by simp only [Act.put, List.setIfInBounds_toArray, List.set_cons_zero, List.set_cons_succ]), (by simp only [Act.put, List.setIfInBounds_toArray, List.set_cons_zero, List.set_cons_succ]), hb, cd0, cd1, cd2, cd3, cd4, cd5, cd6, cd7, cd8, cd9, cd10, cd11, cd12, cd13, cd14, cd15, cd16, (fun _ => rfl), (fun _ => rfl), cd19, cd20, cd21, cd22, cd23, f_q, f_m, f_ot, f_bl, f_q7, f_r, f_ap, f_o, f_q77, f_q88, f_q1, f_q1s⟩
        · rintro L a w ⟨b0, b1, b2, b3, b4, b5, b6, b7, b8, b9, b10, b11, b12, b13, b14, b15, b16, b17, b18, b19, b20, b21, b22, b23, b24, x14, x15, x16, x17, x18, x19, x20, x21, x22, x23, x24, x25, x26, x27, x28, x29, x30, x31, x32, x33, x34, x35, x36, x37, gb, g9, c9, rfl, rfl, hb, cd0, cd1, cd2, cd3, cd4, cd5, cd6, cd7, cd8, cd9, cd10, cd11, cd12, cd13, cd14, cd15, cd16, cd17, cd18, cd19, cd20, cd21, cd22, cd23, f_q, f_m, f_ot, f_bl, f_q7, f_r, f_ap, f_o, f_q77, f_q88, f_q1, f_q1s⟩ hf hd
          have hf' : b19 = false := hf
          subst hf'
          have d18 : b18 = true := hd ⟨18, .data⟩ (by simp) rfl
          subst d18
          obtain rfl := cd18.out rfl
          clear hf hd
          have W_ot := f_ot.out
          try simp only [List.setIfInBounds_toArray, List.set_cons_zero, List.set_cons_succ]
          have z0 := (hb.cell hrB).trans y2_
          intro K hK
          rw [if_pos (by rfl)]
          go_simp
          exact hK.out _ _ ⟨b0, b1, b2, b3, b4, b5, b6, b7, b8, b9, b10, b11, b12, b13, b14, b15, b16, b17, true, true, b20, b21, b22, b23, b24, x14, x15, x16, x17, x18, x19, x20, x21, x22, x23, x24, x25, x26, x27, x28, x29, x30, x31, .pointer (some ⟨rb, roff + j * 3 + 2, none⟩), (.bool x), x34, x35, x36, x37, gb, g9, c9, (by simp only [Act.put, List.setIfInBounds_toArray, List.set_cons_zero, List.set_cons_succ]), (by simp only [Act.put, List.setIfInBounds_toArray, List.set_cons_zero, List.set_cons_succ]), hb, cd0, cd1, cd2, cd3, cd4, cd5, cd6, cd7, cd8, cd9, cd10, cd11, cd12, cd13, cd14, cd15, cd16, cd17, (fun _ => rfl), (fun _ => rfl), cd20, cd21, cd22, cd23, f_q, f_m, f_ot, f_bl, f_q7, f_r, f_ap, f_o, f_q77, f_q88, f_q1, f_q1s⟩
        · rintro L a w ⟨b0, b1, b2, b3, b4, b5, b6, b7, b8, b9, b10, b11, b12, b13, b14, b15, b16, b17, b18, b19, b20, b21, b22, b23, b24, x14, x15, x16, x17, x18, x19, x20, x21, x22, x23, x24, x25, x26, x27, x28, x29, x30, x31, x32, x33, x34, x35, x36, x37, gb, g9, c9, rfl, rfl, hb, cd0, cd1, cd2, cd3, cd4, cd5, cd6, cd7, cd8, cd9, cd10, cd11, cd12, cd13, cd14, cd15, cd16, cd17, cd18, cd19, cd20, cd21, cd22, cd23, f_q, f_m, f_ot, f_bl, f_q7, f_r, f_ap, f_o, f_q77, f_q88, f_q1, f_q1s⟩ hf hd
          have hf' : b20 = false := hf
          subst hf'
          have d7 : b7 = true := hd ⟨7, .data⟩ (by simp) rfl
          subst d7
          have d13 : b13 = true := hd ⟨13, .data⟩ (by simp) rfl
          subst d13
          have d19 : b19 = true := hd ⟨19, .data⟩ (by simp) rfl
          subst d19
          obtain rfl := cd7.out rfl
          obtain rfl := cd13.out rfl
          obtain rfl := cd19.out rfl
          clear hf hd
          have W_ot := f_ot.out
          try simp only [List.setIfInBounds_toArray, List.set_cons_zero, List.set_cons_succ]
          intro K hK
          rw [if_pos (by rfl)]
          go_simp
          exact hK.out _ _ ⟨b0, b1, b2, b3, b4, b5, b6, true, b8, b9, b10, b11, b12, true, b14, b15, b16, b17, b18, true, true, b21, b22, b23, b24, x14, x15, x16, x17, x18, x19, x20, .int .i64 s, x22, x23, x24, x25, x26, .string (bsOf t), x28, x29, x30, x31, x32, .bool x, (.agg #[.int .i64 s, .string (bsOf t), .bool x]), x35, x36, x37, gb, g9, c9, (by simp only [Act.put, List.setIfInBounds_toArray, List.set_cons_zero, List.set_cons_succ]), (by simp only [Act.put, List.setIfInBounds_toArray, List.set_cons_zero, List.set_cons_succ]), hb, cd0, cd1, cd2, cd3, cd4, cd5, cd6, (fun _ => rfl), cd8, cd9, cd10, cd11, cd12, (fun _ => rfl), cd14, cd15, cd16, cd17, cd18, (fun _ => rfl), (fun _ => rfl), cd21, cd22, cd23, f_q, f_m, f_ot, f_bl, f_q7, f_r, f_ap, f_o, f_q77, f_q88, f_q1, f_q1s⟩
        · rintro L a w ⟨b0, b1, b2, b3, b4, b5, b6, b7, b8, b9, b10, b11, b12, b13, b14, b15, b16, b17, b18, b19, b20, b21, b22, b23, b24, x14, x15, x16, x17, x18, x19, x20, x21, x22, x23, x24, x25, x26, x27, x28, x29, x30, x31, x32, x33, x34, x35, x36, x37, gb, g9, c9, rfl, rfl, hb, cd0, cd1, cd2, cd3, cd4, cd5, cd6, cd7, cd8, cd9, cd10, cd11, cd12, cd13, cd14, cd15, cd16, cd17, cd18, cd19, cd20, cd21, cd22, cd23, f_q, f_m, f_ot, f_bl, f_q7, f_r, f_ap, f_o, f_q77, f_q88, f_q1, f_q1s⟩ hf hd
          have hf' : b21 = false := hf
          subst hf'
          have d20 : b20 = true := hd ⟨20, .data⟩ (by simp) rfl
          subst d20
          obtain rfl := cd20.out rfl
          clear hf hd
          have W_ot := f_ot.out
          try simp only [List.setIfInBounds_toArray, List.set_cons_zero, List.set_cons_succ]
          intro K hK
          rw [if_pos (by rfl)]
          refine wp_buildSlice_one 97 112 _ rfl (Hd.cells (⟨s, t, x⟩ : Hd)) 3 rfl rfl (by omega) (by omega) Try.underlying97 rhd_inf' fun w5 hB5 bq5 sq5 => ?_
          have bx := bq5
          exact hK.out _ _ ⟨b0, b1, b2, b3, b4, b5, b6, b7, b8, b9, b10, b11, b12, b13, b14, b15, b16, b17, b18, b19, true, true, b22, b23, b24, x14, x15, x16, x17, x18, x19, x20, x21, x22, x23, x24, x25, x26, x27, x28, x29, x30, x31, x32, x33, .agg #[.int .i64 s, .string (bsOf t), .bool x], (.slice (some ⟨(w.heap.size), 0, none⟩) 1 1), x36, x37, w.heap.size, g9, c9, (by simp only [Act.put, List.setIfInBounds_toArray, List.set_cons_zero, List.set_cons_succ]), (by simp only [Act.put, List.setIfInBounds_toArray, List.set_cons_zero, List.set_cons_succ]), hb.trans (bx.mono (Nat.le_trans hB0 hb.size)), cd0, cd1, cd2, cd3, cd4, cd5, cd6, cd7, cd8, cd9, cd10, cd11, cd12, cd13, cd14, cd15, cd16, cd17, cd18, cd19, (fun _ => rfl), (fun _ => rfl), cd22, cd23, (fun h1 => (f_q.out h1).past bx), (fun h1 => (f_m.out h1).past bx), (f_ot.out.past bx), (fun _ _ => OwnR.ofBlk hB5 rfl rfl (by omega)), (fun _ => rfl), (fun h0 => absurd (f_q7.out h0) (by simp)), (fun h0 => absurd (f_q7.out h0) (by simp)), (fun h0 => absurd (f_q77.out h0) (by simp)), (fun _ => rfl), f_q88, f_q1, f_q1s⟩
        · rintro L a w ⟨b0, b1, b2, b3, b4, b5, b6, b7, b8, b9, b10, b11, b12, b13, b14, b15, b16, b17, b18, b19, b20, b21, b22, b23, b24, x14, x15, x16, x17, x18, x19, x20, x21, x22, x23, x24, x25, x26, x27, x28, x29, x30, x31, x32, x33, x34, x35, x36, x37, gb, g9, c9, rfl, rfl, hb, cd0, cd1, cd2, cd3, cd4, cd5, cd6, cd7, cd8, cd9, cd10, cd11, cd12, cd13, cd14, cd15, cd16, cd17, cd18, cd19, cd20, cd21, cd22, cd23, f_q, f_m, f_ot, f_bl, f_q7, f_r, f_ap, f_o, f_q77, f_q88, f_q1, f_q1s⟩ hf hd
          have hf' : b22 = false := hf
          subst hf'
          have d1 : b1 = true := hd ⟨1, .data⟩ (by simp) rfl
          subst d1
          have d21 : b21 = true := hd ⟨21, .data⟩ (by simp) rfl
          subst d21
          obtain rfl := cd1.out rfl
          obtain rfl := cd21.out rfl
          clear hf hd
          have W_m := f_m.out rfl
          have W_ot := f_ot.out
          have W_bl := f_bl.out rfl rfl
          try simp only [List.setIfInBounds_toArray, List.set_cons_zero, List.set_cons_succ]
          intro K hK
          rw [if_pos (by rfl)]
          refine wp_append_r _ _ 97 97 rfl rowTyRh rfl W_m (Nat.le_trans hB1 hb.size) _ rfl 1 [(⟨s, t, x⟩ : Hd)] (W_bl.isR.src Try.underlying97) rfl (by omega) N HN _ rfl hNm ?_
          intro g10 c10 w2 o10 gr10 q10 bq10
          have hb2 := hb.trans (bq10.mono (Nat.le_succ q))
          have neq : some q ≠ Go.Proofs.Ytllijeciodmckaa.blk ao1 := by have h0 := W_m.from'; intro e; have := h0 q e.symm; omega
          have apP : ∀ z, Go.Proofs.Ytllijeciodmckaa.blk ao2 = some z → z ≠ g10 := fun z hz e => by
            subst e
            rcases q10 with h | h
            · exact AP z h hz
            · have := W_ot.lt z hz; omega
          exact hK.out _ _ ⟨b0, true, b2, b3, b4, b5, b6, b7, b8, b9, b10, b11, b12, b13, b14, b15, b16, b17, b18, b19, b20, true, true, b23, b24, x14, .slice ao1 n1 c1_, x16, x17, x18, x19, x20, x21, x22, x23, x24, x25, x26, x27, x28, x29, x30, x31, x32, x33, x34, .slice (some ⟨gb, 0, none⟩) 1 1, (.slice (some ⟨g10, 0, none⟩) N c10), x37, gb, g10, c10, (by simp only [Act.put, List.setIfInBounds_toArray, List.set_cons_zero, List.set_cons_succ]), (by simp only [Act.put, List.setIfInBounds_toArray, List.set_cons_zero, List.set_cons_succ]), hb2, cd0, (fun _ => rfl), cd2, cd3, cd4, cd5, cd6, cd7, cd8, cd9, cd10, cd11, cd12, cd13, cd14, cd15, cd16, cd17, cd18, cd19, cd20, (fun _ => rfl), (fun _ => rfl), cd23, (fun h1 => (gr10.block q ((f_q.out h1)).lt neq).trans ((f_q.out h1))), (fun h => by cases h), ((f_ot.out).grown gr10 (fun z hz e => AP z e hz)), (fun _ h => by cases h), (fun _ => rfl), (fun _ => o10), (fun _ => apP), (fun h0 => absurd (f_q88.out h0) (by simp)), f_q77, (fun _ => rfl), (fun _ => rfl), f_q1s⟩
        · rintro L a w ⟨b0, b1, b2, b3, b4, b5, b6, b7, b8, b9, b10, b11, b12, b13, b14, b15, b16, b17, b18, b19, b20, b21, b22, b23, b24, x14, x15, x16, x17, x18, x19, x20, x21, x22, x23, x24, x25, x26, x27, x28, x29, x30, x31, x32, x33, x34, x35, x36, x37, gb, g9, c9, rfl, rfl, hb, cd0, cd1, cd2, cd3, cd4, cd5, cd6, cd7, cd8, cd9, cd10, cd11, cd12, cd13, cd14, cd15, cd16, cd17, cd18, cd19, cd20, cd21, cd22, cd23, f_q, f_m, f_ot, f_bl, f_q7, f_r, f_ap, f_o, f_q77, f_q88, f_q1, f_q1s⟩ hf hd
          have hf' : b23 = false := hf
          subst hf'
          have d0 : b0 = true := hd ⟨0, .phase⟩ (by simp) rfl
          subst d0
          have d1 : b1 = true := hd ⟨1, .phase⟩ (by simp) rfl
          subst d1
          have d2 : b2 = true := hd ⟨2, .phase⟩ (by simp) rfl
          subst d2
          have d3 : b3 = true := hd ⟨3, .phase⟩ (by simp) rfl
          subst d3
          have d4 : b4 = true := hd ⟨4, .phase⟩ (by simp) rfl
          subst d4
          have d5 : b5 = true := hd ⟨5, .phase⟩ (by simp) rfl
          subst d5
          have d6 : b6 = true := hd ⟨6, .phase⟩ (by simp) rfl
          subst d6
          have d7 : b7 = true := hd ⟨7, .phase⟩ (by simp) rfl
          subst d7
          have d8 : b8 = true := hd ⟨8, .phase⟩ (by simp) rfl
          subst d8
          have d9 : b9 = true := hd ⟨9, .phase⟩ (by simp) rfl
          subst d9
          have d10 : b10 = true := hd ⟨10, .phase⟩ (by simp) rfl
          subst d10
          have d11 : b11 = true := hd ⟨11, .phase⟩ (by simp) rfl
          subst d11
          have d12 : b12 = true := hd ⟨12, .phase⟩ (by simp) rfl
          subst d12
          have d13 : b13 = true := hd ⟨13, .phase⟩ (by simp) rfl
          subst d13
          have d14 : b14 = true := hd ⟨14, .phase⟩ (by simp) rfl
          subst d14
          have d15 : b15 = true := hd ⟨15, .phase⟩ (by simp) rfl
          subst d15
          have d16 : b16 = true := hd ⟨16, .phase⟩ (by simp) rfl
          subst d16
          have d17 : b17 = true := hd ⟨17, .phase⟩ (by simp) rfl
          subst d17
          have d18 : b18 = true := hd ⟨18, .phase⟩ (by simp) rfl
          subst d18
          have d19 : b19 = true := hd ⟨19, .phase⟩ (by simp) rfl
          subst d19
          have d20 : b20 = true := hd ⟨20, .phase⟩ (by simp) rfl
          subst d20
          have d21 : b21 = true := hd ⟨21, .phase⟩ (by simp) rfl
          subst d21
          have d22 : b22 = true := hd ⟨22, .phase⟩ (by simp) rfl
          subst d22
          obtain rfl := cd0.out rfl
          obtain rfl := cd1.out rfl
          obtain rfl := cd2.out rfl
          obtain rfl := cd3.out rfl
          obtain rfl := cd4.out rfl
          obtain rfl := cd5.out rfl
          obtain rfl := cd6.out rfl
          obtain rfl := cd7.out rfl
          obtain rfl := cd8.out rfl
          obtain rfl := cd9.out rfl
          obtain rfl := cd10.out rfl
          obtain rfl := cd11.out rfl
          obtain rfl := cd12.out rfl
          obtain rfl := cd13.out rfl
          obtain rfl := cd14.out rfl
          obtain rfl := cd15.out rfl
          obtain rfl := cd16.out rfl
          obtain rfl := cd17.out rfl
          obtain rfl := cd18.out rfl
          obtain rfl := cd19.out rfl
          obtain rfl := cd20.out rfl
          obtain rfl := cd21.out rfl
          obtain rfl := cd22.out rfl
          clear hf hd
          have W_ot := f_ot.out
          have W_q7 := f_q7.out rfl
          have W_r := f_r.out rfl
          have W_ap := f_ap.out rfl
          have W_q1 := f_q1.out rfl
          try simp only [List.setIfInBounds_toArray, List.set_cons_zero, List.set_cons_succ]
          intro K hK
          rw [if_pos (by rfl)]
          go_simp
          exact hK.out _ _ ⟨true, true, true, true, true, true, true, true, true, true, true, true, true, true, true, true, true, true, true, true, true, true, true, true, b24, .pointer (some ⟨q, 0, none⟩), .slice ao1 n1 c1_, .pointer (some ⟨p, 0, none⟩), .slice (some ⟨rb, roff, none⟩) hn hc, .int .i64 (j : Nat), .pointer (some ⟨rb, roff + j * 3, none⟩), .pointer (some ⟨rb, roff + j * 3, none⟩), .int .i64 s, .pointer (some ⟨p, 0, none⟩), .slice (some ⟨rb, roff, none⟩) hn hc, .int .i64 (j : Nat), .pointer (some ⟨rb, roff + j * 3, none⟩), .pointer (some ⟨rb, roff + j * 3 + 1, none⟩), .string (bsOf t), .pointer (some ⟨p, 0, none⟩), .slice (some ⟨rb, roff, none⟩) hn hc, .int .i64 (j : Nat), .pointer (some ⟨rb, roff + j * 3, none⟩), .pointer (some ⟨rb, roff + j * 3 + 2, none⟩), .bool x, .agg #[.int .i64 s, .string (bsOf t), .bool x], .slice (some ⟨gb, 0, none⟩) 1 1, .slice (some ⟨g9, 0, none⟩) N c9, (.pointer (some ⟨q, 0, none⟩)), gb, g9, c9, (by simp only [Act.put, List.setIfInBounds_toArray, List.set_cons_zero, List.set_cons_succ]), (by simp only [Act.put, List.setIfInBounds_toArray, List.set_cons_zero, List.set_cons_succ]), hb, (fun _ => rfl), (fun _ => rfl), (fun _ => rfl), (fun _ => rfl), (fun _ => rfl), (fun _ => rfl), (fun _ => rfl), (fun _ => rfl), (fun _ => rfl), (fun _ => rfl), (fun _ => rfl), (fun _ => rfl), (fun _ => rfl), (fun _ => rfl), (fun _ => rfl), (fun _ => rfl), (fun _ => rfl), (fun _ => rfl), (fun _ => rfl), (fun _ => rfl), (fun _ => rfl), (fun _ => rfl), (fun _ => rfl), (fun _ => rfl), f_q, (fun h => by cases h), f_ot, (fun _ h => by cases h), f_q7, f_r, f_ap, f_o, f_q77, f_q88, f_q1, f_q1s⟩
        · rintro L a w ⟨b0, b1, b2, b3, b4, b5, b6, b7, b8, b9, b10, b11, b12, b13, b14, b15, b16, b17, b18, b19, b20, b21, b22, b23, b24, x14, x15, x16, x17, x18, x19, x20, x21, x22, x23, x24, x25, x26, x27, x28, x29, x30, x31, x32, x33, x34, x35, x36, x37, gb, g9, c9, rfl, rfl, hb, cd0, cd1, cd2, cd3, cd4, cd5, cd6, cd7, cd8, cd9, cd10, cd11, cd12, cd13, cd14, cd15, cd16, cd17, cd18, cd19, cd20, cd21, cd22, cd23, f_q, f_m, f_ot, f_bl, f_q7, f_r, f_ap, f_o, f_q77, f_q88, f_q1, f_q1s⟩ hf hd
          have hf' : b24 = false := hf
          subst hf'
          have d23 : b23 = true := hd ⟨23, .data⟩ (by simp) rfl
          subst d23
          have d22 : b22 = true := hd ⟨22, .data⟩ (by simp) rfl
          subst d22
          have d0 : b0 = true := hd ⟨0, .phase⟩ (by simp) rfl
          subst d0
          have d1 : b1 = true := hd ⟨1, .phase⟩ (by simp) rfl
          subst d1
          have d2 : b2 = true := hd ⟨2, .phase⟩ (by simp) rfl
          subst d2
          have d3 : b3 = true := hd ⟨3, .phase⟩ (by simp) rfl
          subst d3
          have d4 : b4 = true := hd ⟨4, .phase⟩ (by simp) rfl
          subst d4
          have d5 : b5 = true := hd ⟨5, .phase⟩ (by simp) rfl
          subst d5
          have d6 : b6 = true := hd ⟨6, .phase⟩ (by simp) rfl
          subst d6
          have d7 : b7 = true := hd ⟨7, .phase⟩ (by simp) rfl
          subst d7
          have d8 : b8 = true := hd ⟨8, .phase⟩ (by simp) rfl
          subst d8
          have d9 : b9 = true := hd ⟨9, .phase⟩ (by simp) rfl
          subst d9
          have d10 : b10 = true := hd ⟨10, .phase⟩ (by simp) rfl
          subst d10
          have d11 : b11 = true := hd ⟨11, .phase⟩ (by simp) rfl
          subst d11
          have d12 : b12 = true := hd ⟨12, .phase⟩ (by simp) rfl
          subst d12
          have d13 : b13 = true := hd ⟨13, .phase⟩ (by simp) rfl
          subst d13
          have d14 : b14 = true := hd ⟨14, .phase⟩ (by simp) rfl
          subst d14
          have d15 : b15 = true := hd ⟨15, .phase⟩ (by simp) rfl
          subst d15
          have d16 : b16 = true := hd ⟨16, .phase⟩ (by simp) rfl
          subst d16
          have d17 : b17 = true := hd ⟨17, .phase⟩ (by simp) rfl
          subst d17
          have d18 : b18 = true := hd ⟨18, .phase⟩ (by simp) rfl
          subst d18
          have d19 : b19 = true := hd ⟨19, .phase⟩ (by simp) rfl
          subst d19
          have d20 : b20 = true := hd ⟨20, .phase⟩ (by simp) rfl
          subst d20
          have d21 : b21 = true := hd ⟨21, .phase⟩ (by simp) rfl
          subst d21
          obtain rfl := cd23.out rfl
          obtain rfl := cd22.out rfl
          obtain rfl := cd0.out rfl
          obtain rfl := cd1.out rfl
          obtain rfl := cd2.out rfl
          obtain rfl := cd3.out rfl
          obtain rfl := cd4.out rfl
          obtain rfl := cd5.out rfl
          obtain rfl := cd6.out rfl
          obtain rfl := cd7.out rfl
          obtain rfl := cd8.out rfl
          obtain rfl := cd9.out rfl
          obtain rfl := cd10.out rfl
          obtain rfl := cd11.out rfl
          obtain rfl := cd12.out rfl
          obtain rfl := cd13.out rfl
          obtain rfl := cd14.out rfl
          obtain rfl := cd15.out rfl
          obtain rfl := cd16.out rfl
          obtain rfl := cd17.out rfl
          obtain rfl := cd18.out rfl
          obtain rfl := cd19.out rfl
          obtain rfl := cd20.out rfl
          obtain rfl := cd21.out rfl
          clear hf hd
          have W_q := f_q.out rfl
          have W_ot := f_ot.out
          have W_q7 := f_q7.out rfl
          have W_r := f_r.out rfl
          have W_ap := f_ap.out rfl
          have W_q1 := f_q1.out rfl
          try simp only [List.setIfInBounds_toArray, List.set_cons_zero, List.set_cons_succ]
          intro K hK
          rw [if_pos (by rfl)]
          obtain ⟨z0, z1⟩ := W_q.c
          obtain ⟨f0, f1⟩ := W_q.free
          go_simp
          have g8 := set1_grown w q 0 (.slice (some ⟨g9, 0, none⟩) N c9)
          have hb2 := hb.grown g8 (Nat.le_trans hBq hb.size) (fun z hz => by cases hz; exact Nat.le_refl _)
          have po := W_q.put0 (some ⟨g9, 0, none⟩) N c9
          exact hK.out _ _ ⟨true, true, true, true, true, true, true, true, true, true, true, true, true, true, true, true, true, true, true, true, true, true, true, true, true, .pointer (some ⟨q, 0, none⟩), .slice ao1 n1 c1_, .pointer (some ⟨p, 0, none⟩), .slice (some ⟨rb, roff, none⟩) hn hc, .int .i64 (j : Nat), .pointer (some ⟨rb, roff + j * 3, none⟩), .pointer (some ⟨rb, roff + j * 3, none⟩), .int .i64 s, .pointer (some ⟨p, 0, none⟩), .slice (some ⟨rb, roff, none⟩) hn hc, .int .i64 (j : Nat), .pointer (some ⟨rb, roff + j * 3, none⟩), .pointer (some ⟨rb, roff + j * 3 + 1, none⟩), .string (bsOf t), .pointer (some ⟨p, 0, none⟩), .slice (some ⟨rb, roff, none⟩) hn hc, .int .i64 (j : Nat), .pointer (some ⟨rb, roff + j * 3, none⟩), .pointer (some ⟨rb, roff + j * 3 + 2, none⟩), .bool x, .agg #[.int .i64 s, .string (bsOf t), .bool x], .slice (some ⟨gb, 0, none⟩) 1 1, .slice (some ⟨g9, 0, none⟩) N c9, .pointer (some ⟨q, 0, none⟩), gb, g9, c9, (by simp only [Act.put, List.setIfInBounds_toArray, List.set_cons_zero, List.set_cons_succ]), (by simp only [Act.put, List.setIfInBounds_toArray, List.set_cons_zero, List.set_cons_succ]), hb2, (fun _ => rfl), (fun _ => rfl), (fun _ => rfl), (fun _ => rfl), (fun _ => rfl), (fun _ => rfl), (fun _ => rfl), (fun _ => rfl), (fun _ => rfl), (fun _ => rfl), (fun _ => rfl), (fun _ => rfl), (fun _ => rfl), (fun _ => rfl), (fun _ => rfl), (fun _ => rfl), (fun _ => rfl), (fun _ => rfl), (fun _ => rfl), (fun _ => rfl), (fun _ => rfl), (fun _ => rfl), (fun _ => rfl), (fun _ => rfl), (fun h => by cases h), (fun h => by cases h), ((f_ot.out).farT W_q (by decide) g8), (fun _ h => by cases h), f_q7, (fun h0 => ((f_r.out h0)).farT W_q (by decide) g8), f_ap, (fun _ => po), (fun _ => rfl), (fun _ => rfl), f_q1, (fun _ => rfl)⟩
      · rintro act V ⟨b0, b1, b2, b3, b4, b5, b6, b7, b8, b9, b10, b11, b12, b13, b14, b15, b16, b17, b18, b19, b20, b21, b22, b23, b24, x14, x15, x16, x17, x18, x19, x20, x21, x22, x23, x24, x25, x26, x27, x28, x29, x30, x31, x32, x33, x34, x35, x36, x37, gb, g9, c9, hL, rfl, hb, cd0, cd1, cd2, cd3, cd4, cd5, cd6, cd7, cd8, cd9, cd10, cd11, cd12, cd13, cd14, cd15, cd16, cd17, cd18, cd19, cd20, cd21, cd22, cd23, f_q, f_m, f_ot, f_bl, f_q7, f_r, f_ap, f_o, f_q77, f_q88, f_q1, f_q1s⟩
        have hL' : [true, true, true, true, true, true, true, true, true, true, true, true, true, true, true, true, true, true, true, true, true, true, true, true, true] = [b0, b1, b2, b3, b4, b5, b6, b7, b8, b9, b10, b11, b12, b13, b14, b15, b16, b17, b18, b19, b20, b21, b22, b23, b24] := congrArg Array.toList hL
        simp only [List.cons.injEq, and_true] at hL'
        obtain ⟨rfl, rfl, rfl, rfl, rfl, rfl, rfl, rfl, rfl, rfl, rfl, rfl, rfl, rfl, rfl, rfl, rfl, rfl, rfl, rfl, rfl, rfl, rfl, rfl, rfl⟩ := hL'
        obtain rfl := cd0.out rfl
        obtain rfl := cd1.out rfl
        obtain rfl := cd2.out rfl
        obtain rfl := cd3.out rfl
        obtain rfl := cd4.out rfl
        obtain rfl := cd5.out rfl
        obtain rfl := cd6.out rfl
        obtain rfl := cd7.out rfl
        obtain rfl := cd8.out rfl
        obtain rfl := cd9.out rfl
        obtain rfl := cd10.out rfl
        obtain rfl := cd11.out rfl
        obtain rfl := cd12.out rfl
        obtain rfl := cd13.out rfl
        obtain rfl := cd14.out rfl
        obtain rfl := cd15.out rfl
        obtain rfl := cd16.out rfl
        obtain rfl := cd17.out rfl
        obtain rfl := cd18.out rfl
        obtain rfl := cd19.out rfl
        obtain rfl := cd20.out rfl
        obtain rfl := cd21.out rfl
        obtain rfl := cd22.out rfl
        obtain rfl := cd23.out rfl
        have W_ot := f_ot.out
        have W_q7 := f_q7.out rfl
        have W_r := f_r.out rfl
        have W_ap := f_ap.out rfl
        have W_o := f_o.out rfl
        have W_q77 := f_q77.out rfl
        have W_q88 := f_q88.out rfl
        have W_q1 := f_q1.out rfl
        have W_q1s := f_q1s.out rfl
        clear hL f_q f_m f_ot f_bl f_q7 f_r f_ap f_o f_q77 f_q88 f_q1 f_q1s cd0 cd1 cd2 cd3 cd4 cd5 cd6 cd7 cd8 cd9 cd10 cd11 cd12 cd13 cd14 cd15 cd16 cd17 cd18 cd19 cd20 cd21 cd22 cd23
        simp only [List.setIfInBounds_toArray, List.set_cons_zero, List.set_cons_succ]
        have WT : RtAt V q (ML ++ [⟨s, t, x⟩]) OL := ⟨some ⟨g9, 0, none⟩, N, c9, ao2, n2, c2_, W_o, W_r, W_ot, (fun z hz e => by cases hz; exact W_ap _ e rfl)⟩
        have BV := BQ.trans (((Below.refl _ _).drew).trans hb)
        clear hb W_o W_r W_ot W_ap W_q77 W_q88 W_q7 W_q1 W_q1s
        go_wp2_with fail
        go_roundw
        case rel => exact ⟨j + 1, by omega, by go_num, by rw [hnx.out]; rw [hOLh.out] at WT; exact WT, BV⟩
        case measure => simp [intOf]; omega
    · have hlti : ¬ ((j : Int) < (hn : Int)) := by omega
      obtain rfl : j = hn := by omega
      rw [List.take_of_length_le (show HL.length ≤ j by omega)] at WT
      have WT0 : RtAt wr q HL (WL.take 0) := WT
      have BU := BQ
      clear WT BQ
      go_wp2_with fail
      go_loopw [5] (fun zs wr => ∃ j : Nat, j ≤ wn ∧ zs = .int .i64 (j : Nat) ∧ RtAt wr q HL (WL.take j) ∧ Below q U wr) (fun zs _ => wn - (intOf zs).toNat)
      case atStart => exact ⟨0, by omega, rfl, WT0, BU⟩
      case round =>
        clear WT0 BU
        obtain ⟨j, hj, rfl, WT, BQ⟩ := hrel
        have XP := (BQ.block p hpq).trans XU
        have hznl := RDw.len
        obtain ⟨cp0, cp1⟩ := LkB.c XP
        by_cases hlt : j < wn
        · have hlti : (j : Int) < (wn : Int) := by omega
          obtain ⟨y, hy⟩ : ∃ y, WL[j]? = some y := ⟨WL[j]'(by omega), List.getElem?_eq_getElem _⟩
          obtain ⟨rb, roff, rfl, hrb, hrc⟩ := RDw.open (by omega) (by decide)
          have hrq : rb < q := gW (by omega) _ rfl
          obtain ⟨y0_, y1_, y2_⟩ := cells_hd hrc j y hy
          rw [← BQ.cell (show (⟨rb, roff + j * 3, none⟩ : Addr).block < q from hrq)] at y0_
          rw [← BQ.cell (show (⟨rb, roff + j * 3 + 1, none⟩ : Addr).block < q from hrq)] at y1_
          rw [← BQ.cell (show (⟨rb, roff + j * 3 + 2, none⟩ : Addr).block < q from hrq)] at y2_
          have hnx := Lib.hid (show WL.take (j + 1) = WL.take j ++ [y] by rw [List.take_add_one, hy]; rfl)
          clear hrc hy
          obtain ⟨s, t, x⟩ := y
          simp only at y0_ y1_ y2_
          go_upto_region 9 with fail
          obtain ⟨ao1, n1, c1_, ao2, n2, c2_, XQ, T1, T2, AP0⟩ := WT
          generalize wr = W7 at XP XQ T1 T2 BQ y0_ y1_ y2_ cp0 cp1 ⊢
          obtain ⟨ML, hML⟩ : ∃ z_, z_ = WL.take j := ⟨_, rfl⟩
          rw [← hML] at T2 hnx
          obtain ⟨OL, hOL⟩ : ∃ z_, z_ = HL := ⟨_, rfl⟩
          rw [← hOL] at T1
          have hOLh := Lib.hid hOL
          clear hOL
          have TM := T2
          have TO := T1
          have AP : ∀ z, Go.Proofs.Ytllijeciodmckaa.blk ao2 = some z → Go.Proofs.Ytllijeciodmckaa.blk ao1 ≠ some z := fun z h1 h2 => AP0 z h2 h1
          have hqW := XQ.lt
          have hB0 : q ≤ W7.heap.size := Nat.le_of_lt hqW
          have hB1 : q + 1 ≤ W7.heap.size := hqW
          have hBq : q ≤ W7.heap.size := hB0
          have hpB := hpq
          have hrB := hrq
          have cp := cp1
          have hMl := TM.len
          have hMl2 : ML.length ≤ 100000 := by
            rw [hML, List.length_take]
            omega
          obtain ⟨N, HN⟩ : ∃ N, n2 + 1 = N := ⟨_, rfl⟩
          have hNm : N ≤ 1000000 := by omega
          clear hML T1 T2 AP0 cp0 cp1
          refine region_inv (ToRefW1 q p q ao1 n1 c1_ ao2 n2 c2_ N rb roff wn wc j s t x ML OL) (by kernel_rfl) (by kernel_rfl) ?_ ?_ ?_
          · exact ⟨false, false, false, false, false, false, false, false, false, false, false, false, false, false, false, false, false, false, false, false, false, false, false, false, false, u45, u46, u47, u48, u49, u50, u51, u52, u53, u54, u55, u56, u57, u58, u59, u60, u61, u62, u63, u64, u65, u66, u67, u68, 0, 0, 0, rfl, (by simp only [Act.put, List.setIfInBounds_toArray, List.set_cons_zero, List.set_cons_succ]), Below.refl _ _, (fun h => by cases h), (fun h => by cases h), (fun h => by cases h), (fun h => by cases h), (fun h => by cases h), (fun h => by cases h), (fun h => by cases h), (fun h => by cases h), (fun h => by cases h), (fun h => by cases h), (fun h => by cases h), (fun h => by cases h), (fun h => by cases h), (fun h => by cases h), (fun h => by cases h), (fun h => by cases h), (fun h => by cases h), (fun h => by cases h), (fun h => by cases h), (fun h => by cases h), (fun h => by cases h), (fun h => by cases h), (fun h => by cases h), (fun h => by cases h), (fun h1 => XQ.past (Below.refl _ _).drew), (fun h1 => TM.past (Below.refl _ _).drew), (TO.past (Below.refl _ _).drew), (fun h => by cases h), (fun h => by cases h), (fun h => by cases h), (fun h => by cases h), (fun h => by cases h), (fun h => by cases h), (fun h => by cases h), (fun h => by cases h), (fun h => by cases h)⟩
          · refine ⟨?_, ?_, ?_, ?_, ?_, ?_, ?_, ?_, ?_, ?_, ?_, ?_, ?_, ?_, ?_, ?_, ?_, ?_, ?_, ?_, ?_, ?_, ?_, ?_, ?_, trivial⟩
            · rintro L a w ⟨b0, b1, b2, b3, b4, b5, b6, b7, b8, b9, b10, b11, b12, b13, b14, b15, b16, b17, b18, b19, b20, b21, b22, b23, b24, x45, x46, x47, x48, x49, x50, x51, x52, x53, x54, x55, x56, x57, x58, x59, x60, x61, x62, x63, x64, x65, x66, x67, x68, gb, g9, c9, rfl, rfl, hb, cd0, cd1, cd2, cd3, cd4, cd5, cd6, cd7, cd8, cd9, cd10, cd11, cd12, cd13, cd14, cd15, cd16, cd17, cd18, cd19, cd20, cd21, cd22, cd23, f_q, f_m, f_ot, f_bl, f_q7, f_r, f_ap, f_o, f_q77, f_q88, f_q1, f_q1s⟩ hf hd
              have hf' : b0 = false := hf
              subst hf'
              clear hf hd
              have W_ot := f_ot.out
              try simp only [List.setIfInBounds_toArray, List.set_cons_zero, List.set_cons_succ]
              intro K hK
              rw [if_pos (by rfl)]
              go_simp
              exact hK.out _ _ ⟨true, b1, b2, b3, b4, b5, b6, b7, b8, b9, b10, b11, b12, b13, b14, b15, b16, b17, b18, b19, b20, b21, b22, b23, b24, (.pointer (some ⟨q, 1, none⟩)), x46, x47, x48, x49, x50, x51, x52, x53, x54, x55, x56, x57, x58, x59, x60, x61, x62, x63, x64, x65, x66, x67, x68, gb, g9, c9, (by simp only [Act.put, List.setIfInBounds_toArray, List.set_cons_zero, List.set_cons_succ]), (by simp only [Act.put, List.setIfInBounds_toArray, List.set_cons_zero, List.set_cons_succ]), hb, (fun _ => rfl), cd1, cd2, cd3, cd4, cd5, cd6, cd7, cd8, cd9, cd10, cd11, cd12, cd13, cd14, cd15, cd16, cd17, cd18, cd19, cd20, cd21, cd22, cd23, f_q, f_m, f_ot, f_bl, f_q7, f_r, f_ap, f_o, f_q77, f_q88, f_q1, f_q1s⟩
            · rintro L a w ⟨b0, b1, b2, b3, b4, b5, b6, b7, b8, b9, b10, b11, b12, b13, b14, b15, b16, b17, b18, b19, b20, b21, b22, b23, b24, x45, x46, x47, x48, x49, x50, x51, x52, x53, x54, x55, x56, x57, x58, x59, x60, x61, x62, x63, x64, x65, x66, x67, x68, gb, g9, c9, rfl, rfl, hb, cd0, cd1, cd2, cd3, cd4, cd5, cd6, cd7, cd8, cd9, cd10, cd11, cd12, cd13, cd14, cd15, cd16, cd17, cd18, cd19, cd20, cd21, cd22, cd23, f_q, f_m, f_ot, f_bl, f_q7, f_r, f_ap, f_o, f_q77, f_q88, f_q1, f_q1s⟩ hf hd
              have hf' : b1 = false := hf
              subst hf'
              have d0 : b0 = true := hd ⟨0, .data⟩ (by simp) rfl
              subst d0
              obtain rfl := cd0.out rfl
              clear hf hd
              have W_ot := f_ot.out
              try simp only [List.setIfInBounds_toArray, List.set_cons_zero, List.set_cons_succ]
              have e_q : b24 = false := by cases hq : b24 with | false => rfl | true => exact absurd (f_q1s.out hq) (by simp)
              have W_q := f_q.out e_q
              obtain ⟨z0, z1⟩ := W_q.c
              intro K hK
              rw [if_pos (by rfl)]
              go_simp
              exact hK.out _ _ ⟨true, true, b2, b3, b4, b5, b6, b7, b8, b9, b10, b11, b12, b13, b14, b15, b16, b17, b18, b19, b20, b21, b22, b23, b24, .pointer (some ⟨q, 1, none⟩), (.slice ao2 n2 c2_), x47, x48, x49, x50, x51, x52, x53, x54, x55, x56, x57, x58, x59, x60, x61, x62, x63, x64, x65, x66, x67, x68, gb, g9, c9, (by simp only [Act.put, List.setIfInBounds_toArray, List.set_cons_zero, List.set_cons_succ]), (by simp only [Act.put, List.setIfInBounds_toArray, List.set_cons_zero, List.set_cons_succ]), hb, (fun _ => rfl), (fun _ => rfl), cd2, cd3, cd4, cd5, cd6, cd7, cd8, cd9, cd10, cd11, cd12, cd13, cd14, cd15, cd16, cd17, cd18, cd19, cd20, cd21, cd22, cd23, f_q, f_m, f_ot, f_bl, f_q7, f_r, f_ap, f_o, f_q77, f_q88, (fun _ => rfl), (fun _ => rfl)⟩
            · rintro L a w ⟨b0, b1, b2, b3, b4, b5, b6, b7, b8, b9, b10, b11, b12, b13, b14, b15, b16, b17, b18, b19, b20, b21, b22, b23, b24, x45, x46, x47, x48, x49, x50, x51, x52, x53, x54, x55, x56, x57, x58, x59, x60, x61, x62, x63, x64, x65, x66, x67, x68, gb, g9, c9, rfl, rfl, hb, cd0, cd1, cd2, cd3, cd4, cd5, cd6, cd7, cd8, cd9, cd10, cd11, cd12, cd13, cd14, cd15, cd16, cd17, cd18, cd19, cd20, cd21, cd22, cd23, f_q, f_m, f_ot, f_bl, f_q7, f_r, f_ap, f_o, f_q77, f_q88, f_q1, f_q1s⟩ hf hd
              have hf' : b2 = false := hf
              subst hf'
              clear hf hd
              have W_ot := f_ot.out
              try simp only [List.setIfInBounds_toArray, List.set_cons_zero, List.set_cons_succ]
              intro K hK
              rw [if_pos (by rfl)]
              go_simp
              exact hK.out _ _ ⟨b0, b1, true, b3, b4, b5, b6, b7, b8, b9, b10, b11, b12, b13, b14, b15, b16, b17, b18, b19, b20, b21, b22, b23, b24, x45, x46, (.pointer (some ⟨p, 1, none⟩)), x48, x49, x50, x51, x52, x53, x54, x55, x56, x57, x58, x59, x60, x61, x62, x63, x64, x65, x66, x67, x68, gb, g9, c9, (by simp only [Act.put, List.setIfInBounds_toArray, List.set_cons_zero, List.set_cons_succ]), (by simp only [Act.put, List.setIfInBounds_toArray, List.set_cons_zero, List.set_cons_succ]), hb, cd0, cd1, (fun _ => rfl), cd3, cd4, cd5, cd6, cd7, cd8, cd9, cd10, cd11, cd12, cd13, cd14, cd15, cd16, cd17, cd18, cd19, cd20, cd21, cd22, cd23, f_q, f_m, f_ot, f_bl, f_q7, f_r, f_ap, f_o, f_q77, f_q88, f_q1, f_q1s⟩
            · rintro L a w ⟨b0, b1, b2, b3, b4, b5, b6, b7, b8, b9, b10, b11, b12, b13, b14, b15, b16, b17, b18, b19, b20, b21, b22, b23, b24, x45, x46, x47, x48, x49, x50, x51, x52, x53, x54, x55, x56, x57, x58, x59, x60, x61, x62, x63, x64, x65, x66, x67, x68, gb, g9, c9, rfl, rfl, hb, cd0, cd1, cd2, cd3, cd4, cd5, cd6, cd7, cd8, cd9, cd10, cd11, cd12, cd13, cd14, cd15, cd16, cd17, cd18, cd19, cd20, cd21, cd22, cd23, f_q, f_m, f_ot, f_bl, f_q7, f_r, f_ap, f_o, f_q77, f_q88, f_q1, f_q1s⟩ hf hd
              have hf' : b3 = false := hf
              subst hf'
              have d2 : b2 = true := hd ⟨2, .data⟩ (by simp) rfl
              subst d2
              obtain rfl := cd2.out rfl
              clear hf hd
              have W_ot := f_ot.out
              try simp only [List.setIfInBounds_toArray, List.set_cons_zero, List.set_cons_succ]
              have z0 := (hb.cell hpB).trans cp
              intro K hK
              rw [if_pos (by rfl)]
              go_simp
              exact hK.out _ _ ⟨b0, b1, true, true, b4, b5, b6, b7, b8, b9, b10, b11, b12, b13, b14, b15, b16, b17, b18, b19, b20, b21, b22, b23, b24, x45, x46, .pointer (some ⟨p, 1, none⟩), (.slice (some ⟨rb, roff, none⟩) wn wc), x49, x50, x51, x52, x53, x54, x55, x56, x57, x58, x59, x60, x61, x62, x63, x64, x65, x66, x67, x68, gb, g9, c9, (by simp only [Act.put, List.setIfInBounds_toArray, List.set_cons_zero, List.set_cons_succ]), (by simp only [Act.put, List.setIfInBounds_toArray, List.set_cons_zero, List.set_cons_succ]), hb, cd0, cd1, (fun _ => rfl), (fun _ => rfl), cd4, cd5, cd6, cd7, cd8, cd9, cd10, cd11, cd12, cd13, cd14, cd15, cd16, cd17, cd18, cd19, cd20, cd21, cd22, cd23, f_q, f_m, f_ot, f_bl, f_q7, f_r, f_ap, f_o, f_q77, f_q88, f_q1, f_q1s⟩
            · rintro L a w ⟨b0, b1, b2, b3, b4, b5, b6, b7, b8, b9, b10, b11, b12, b13, b14, b15, b16, b17, b18, b19, b20, b21, b22, b23, b24, x45, x46, x47, x48, x49, x50, x51, x52, x53, x54, x55, x56, x57, x58, x59, x60, x61, x62, x63, x64, x65, x66, x67, x68, gb, g9, c9, rfl, rfl, hb, cd0, cd1, cd2, cd3, cd4, cd5, cd6, cd7, cd8, cd9, cd10, cd11, cd12, cd13, cd14, cd15, cd16, cd17, cd18, cd19, cd20, cd21, cd22, cd23, f_q, f_m, f_ot, f_bl, f_q7, f_r, f_ap, f_o, f_q77, f_q88, f_q1, f_q1s⟩ hf hd
              have hf' : b4 = false := hf
              subst hf'
              clear hf hd
              have W_ot := f_ot.out
              try simp only [List.setIfInBounds_toArray, List.set_cons_zero, List.set_cons_succ]
              intro K hK
              rw [if_pos (by rfl)]
              go_simp
              exact hK.out _ _ ⟨b0, b1, b2, b3, true, b5, b6, b7, b8, b9, b10, b11, b12, b13, b14, b15, b16, b17, b18, b19, b20, b21, b22, b23, b24, x45, x46, x47, x48, (.int .i64 (j : Nat)), x50, x51, x52, x53, x54, x55, x56, x57, x58, x59, x60, x61, x62, x63, x64, x65, x66, x67, x68, gb, g9, c9, (by simp only [Act.put, List.setIfInBounds_toArray, List.set_cons_zero, List.set_cons_succ]), (by simp only [Act.put, List.setIfInBounds_toArray, List.set_cons_zero, List.set_cons_succ]), hb, cd0, cd1, cd2, cd3, (fun _ => rfl), cd5, cd6, cd7, cd8, cd9, cd10, cd11, cd12, cd13, cd14, cd15, cd16, cd17, cd18, cd19, cd20, cd21, cd22, cd23, f_q, f_m, f_ot, f_bl, f_q7, f_r, f_ap, f_o, f_q77, f_q88, f_q1, f_q1s⟩
            · rintro L a w ⟨b0, b1, b2, b3, b4, b5, b6, b7, b8, b9, b10, b11, b12, b13, b14, b15, b16, b17, b18, b19, b20, b21, b22, b23, b24, x45, x46, x47, x48, x49, x50, x51, x52, x53, x54, x55, x56, x57, x58, x59, x60, x61, x62, x63, x64, x65, x66, x67, x68, gb, g9, c9, rfl, rfl, hb, cd0, cd1, cd2, cd3, cd4, cd5, cd6, cd7, cd8, cd9, cd10, cd11, cd12, cd13, cd14, cd15, cd16, cd17, cd18, cd19, cd20, cd21, cd22, cd23, f_q, f_m, f_ot, f_bl, f_q7, f_r, f_ap, f_o, f_q77, f_q88, f_q1, f_q1s⟩ hf hd
              have hf' : b5 = false := hf
              subst hf'
              have d3 : b3 = true := hd ⟨3, .data⟩ (by simp) rfl
              subst d3
              have d4 : b4 = true := hd ⟨4, .data⟩ (by simp) rfl
              subst d4
              obtain rfl := cd3.out rfl
              obtain rfl := cd4.out rfl
              clear hf hd
              have W_ot := f_ot.out
              try simp only [List.setIfInBounds_toArray, List.set_cons_zero, List.set_cons_succ]
              intro K hK
              rw [if_pos (by rfl)]
              go_simp
              exact hK.out _ _ ⟨b0, b1, b2, true, true, true, b6, b7, b8, b9, b10, b11, b12, b13, b14, b15, b16, b17, b18, b19, b20, b21, b22, b23, b24, x45, x46, x47, .slice (some ⟨rb, roff, none⟩) wn wc, .int .i64 (j : Nat), (.pointer (some ⟨rb, roff + j * 3, none⟩)), x51, x52, x53, x54, x55, x56, x57, x58, x59, x60, x61, x62, x63, x64, x65, x66, x67, x68, gb, g9, c9, (by simp only [Act.put, List.setIfInBounds_toArray, List.set_cons_zero, List.set_cons_succ]), (by simp only [Act.put, List.setIfInBounds_toArray, List.set_cons_zero, List.set_cons_succ]), hb, cd0, cd1, cd2, (fun _ => rfl), (fun _ => rfl), (fun _ => rfl), cd6, cd7, cd8, cd9, cd10, cd11, cd12, cd13, cd14, cd15, cd16, cd17, cd18, cd19, cd20, cd21, cd22, cd23, f_q, f_m, f_ot, f_bl, f_q7, f_r, f_ap, f_o, f_q77, f_q88, f_q1, f_q1s⟩
            · rintro L a w ⟨b0, b1, b2, b3, b4, b5, b6, b7, b8, b9, b10, b11, b12, b13, b14, b15, b16, b17, b18, b19, b20, b21, b22, b23, b24, x45, x46, x47, x48, x49, x50, x51, x52, x53, x54, x55, x56, x57, x58, x59, x60, x61, x62, x63, x64, x65, x66, x67, x68, gb, g9, c9, rfl, rfl, hb, cd0, cd1, cd2, cd3, cd4, cd5, cd6, cd7, cd8, cd9, cd10, cd11, cd12, cd13, cd14, cd15, cd16, cd17, cd18, cd19, cd20, cd21, cd22, cd23, f_q, f_m, f_ot, f_bl, f_q7, f_r, f_ap, f_o, f_q77, f_q88, f_q1, f_q1s⟩ hf hd
              have hf' : b6 = false := hf
              subst hf'
              have d5 : b5 = true := hd ⟨5, .data⟩ (by simp) rfl
              subst d5
              obtain rfl := cd5.out rfl
              clear hf hd
              have W_ot := f_ot.out
              try simp only [List.setIfInBounds_toArray, List.set_cons_zero, List.set_cons_succ]
              intro K hK
              rw [if_pos (by rfl)]
              go_simp
              exact hK.out _ _ ⟨b0, b1, b2, b3, b4, true, true, b7, b8, b9, b10, b11, b12, b13, b14, b15, b16, b17, b18, b19, b20, b21, b22, b23, b24, x45, x46, x47, x48, x49, .pointer (some ⟨rb, roff + j * 3, none⟩), (.pointer (some ⟨rb, roff + j * 3, none⟩)), x52, x53, x54, x55, x56, x57, x58, x59, x60, x61, x62, x63, x64, x65, x66, x67, x68, gb, g9, c9, (by simp only [Act.put, List.setIfInBounds_toArray, List.set_cons_zero, List.set_cons_succ]), (by simp only [Act.put, List.setIfInBounds_toArray, List.set_cons_zero, List.set_cons_succ]), hb, cd0, cd1, cd2, cd3, cd4, (fun _ => rfl), (fun _ => rfl), cd7, cd8, cd9, cd10, cd11, cd12, cd13, cd14, cd15, cd16, cd17, cd18, cd19, cd20, cd21, cd22, cd23, f_q, f_m, f_ot, f_bl, f_q7, f_r, f_ap, f_o, f_q77, f_q88, f_q1, f_q1s⟩
            · rintro L a w ⟨b0, b1, b2, b3, b4, b5, b6, b7, b8, b9, b10, b11, b12, b13, b14, b15, b16, b17, b18, b19, b20, b21, b22, b23, b24, x45, x46, x47, x48, x49, x50, x51, x52, x53, x54, x55, x56, x57, x58, x59, x60, x61, x62, x63, x64, x65, x66, x67, x68, gb, g9, c9, rfl, rfl, hb, cd0, cd1, cd2, cd3, cd4, cd5, cd6, cd7, cd8, cd9, cd10, cd11, cd12, cd13, cd14, cd15, cd16, cd17, cd18, cd19, cd20, cd21, cd22, cd23, f_q, f_m, f_ot, f_bl, f_q7, f_r, f_ap, f_o, f_q77, f_q88, f_q1, f_q1s⟩ hf hd
              have hf' : b7 = false := hf
              subst hf'
              have d6 : b6 = true := hd ⟨6, .data⟩ (by simp) rfl
              subst d6
              obtain rfl := cd6.out rfl
              clear hf hd
              have W_ot := f_ot.out
              try simp only [List.setIfInBounds_toArray, List.set_cons_zero, List.set_cons_succ]
              have z0 := (hb.cell hrB).trans y0_
              intro K hK
              rw [if_pos (by rfl)]
              go_simp
              exact hK.out _ _ ⟨b0, b1, b2, b3, b4, b5, true, true, b8, b9, b10, b11, b12, b13, b14, b15, b16, b17, b18, b19, b20, b21, b22, b23, b24, x45, x46, x47, x48, x49, x50, .pointer (some ⟨rb, roff + j * 3, none⟩), (.int .i64 s), x53, x54, x55, x56, x57, x58, x59, x60, x61, x62, x63, x64, x65, x66, x67, x68, gb, g9, c9, (by simp only [Act.put, List.setIfInBounds_toArray, List.set_cons_zero, List.set_cons_succ]), (by simp only [Act.put, List.setIfInBounds_toArray, List.set_cons_zero, List.set_cons_succ]), hb, cd0, cd1, cd2, cd3, cd4, cd5, (fun _ => rfl), (fun _ => rfl), cd8, cd9, cd10, cd11, cd12, cd13, cd14, cd15, cd16, cd17, cd18, cd19, cd20, cd21, cd22, cd23, f_q, f_m, f_ot, f_bl, f_q7, f_r, f_ap, f_o, f_q77, f_q88, f_q1, f_q1s⟩
            · rintro L a w ⟨b0, b1, b2, b3, b4, b5, b6, b7, b8, b9, b10, b11, b12, b13, b14, b15, b16, b17, b18, b19, b20, b21, b22, b23, b24, x45, x46, x47, x48, x49, x50, x51, x52, x53, x54, x55, x56, x57, x58, x59, x60, x61, x62, x63, x64, x65, x66, x67, x68, gb, g9, c9, rfl, rfl, hb, cd0, cd1, cd2, cd3, cd4, cd5, cd6, cd7, cd8, cd9, cd10, cd11, cd12, cd13, cd14, cd15, cd16, cd17, cd18, cd19, cd20, cd21, cd22, cd23, f_q, f_m, f_ot, f_bl, f_q7, f_r, f_ap, f_o, f_q77, f_q88, f_q1, f_q1s⟩ hf hd
              have hf' : b8 = false := hf
              subst hf'
              clear hf hd
              have W_ot := f_ot.out
              try simp only [List.setIfInBounds_toArray, List.set_cons_zero, List.set_cons_succ]
              intro K hK
              rw [if_pos (by rfl)]
              go_simp
              exact hK.out _ _ ⟨b0, b1, b2, b3, b4, b5, b6, b7, true, b9, b10, b11, b12, b13, b14, b15, b16, b17, b18, b19, b20, b21, b22, b23, b24, x45, x46, x47, x48, x49, x50, x51, x52, (.pointer (some ⟨p, 1, none⟩)), x54, x55, x56, x57, x58, x59, x60, x61, x62, x63, x64, x65, x66, x67, x68, gb, g9, c9, (by simp only [Act.put, List.setIfInBounds_toArray, List.set_cons_zero, List.set_cons_succ]), (by simp only [Act.put, List.setIfInBounds_toArray, List.set_cons_zero, List.set_cons_succ]), hb, cd0, cd1, cd2, cd3, cd4, cd5, cd6, cd7, (fun _ => rfl), cd9, cd10, cd11, cd12, cd13, cd14, cd15, cd16, cd17, cd18, cd19, cd20, cd21, cd22, cd23, f_q, f_m, f_ot, f_bl, f_q7, f_r, f_ap, f_o, f_q77, f_q88, f_q1, f_q1s⟩
            · rintro L a w ⟨b0, b1, b2, b3, b4, b5, b6, b7, b8, b9, b10, b11, b12, b13, b14, b15, b16, b17, b18, b19, b20, b21, b22, b23, b24, x45, x46, x47, x48, x49, x50, x51, x52, x53, x54, x55, x56, x57, x58, x59, x60, x61, x62, x63, x64, x65, x66, x67, x68, gb, g9, c9, rfl, rfl, hb, cd0, cd1, cd2, cd3, cd4, cd5, cd6, cd7, cd8, cd9, cd10, cd11, cd12, cd13, cd14, cd15, cd16, cd17, cd18, cd19, cd20, cd21, cd22, cd23, f_q, f_m, f_ot, f_bl, f_q7, f_r, f_ap, f_o, f_q77, f_q88, f_q1, f_q1s⟩ hf hd
              have hf' : b9 = false := hf
              subst hf'
              have d8 : b8 = true := hd ⟨8, .data⟩ (by simp) rfl
              subst d8
              obtain rfl := cd8.out rfl
              clear hf hd
              have W_ot := f_ot.out
              try simp only [List.setIfInBounds_toArray, List.set_cons_zero, List.set_cons_succ]
              have z0 := (hb.cell hpB).trans cp
              intro K hK
              rw [if_pos (by rfl)]
              go_simp
              exact hK.out _ _ ⟨b0, b1, b2, b3, b4, b5, b6, b7, true, true, b10, b11, b12, b13, b14, b15, b16, b17, b18, b19, b20, b21, b22, b23, b24, x45, x46, x47, x48, x49, x50, x51, x52, .pointer (some ⟨p, 1, none⟩), (.slice (some ⟨rb, roff, none⟩) wn wc), x55, x56, x57, x58, x59, x60, x61, x62, x63, x64, x65, x66, x67, x68, gb, g9, c9, (by simp only [Act.put, List.setIfInBounds_toArray, List.set_cons_zero, List.set_cons_succ]), (by simp only [Act.put, List.setIfInBounds_toArray, List.set_cons_zero, List.set_cons_succ]), hb, cd0, cd1, cd2, cd3, cd4, cd5, cd6, cd7, (fun _ => rfl), (fun _ => rfl), cd10, cd11, cd12, cd13, cd14, cd15, cd16, cd17, cd18, cd19, cd20, cd21, cd22, cd23, f_q, f_m, f_ot, f_bl, f_q7, f_r, f_ap, f_o, f_q77, f_q88, f_q1, f_q1s⟩
            · rintro L a w ⟨b0, b1, b2, b3, b4, b5, b6, b7, b8, b9, b10, b11, b12, b13, b14, b15, b16, b17, b18, b19, b20, b21, b22, b23, b24, x45, x46, x47, x48, x49, x50, x51, x52, x53, x54, x55, x56, x57, x58, x59, x60, x61, x62, x63, x64, x65, x66, x67, x68, gb, g9, c9, rfl, rfl, hb, cd0, cd1, cd2, cd3, cd4, cd5, cd6, cd7, cd8, cd9, cd10, cd11, cd12, cd13, cd14, cd15, cd16, cd17, cd18, cd19, cd20, cd21, cd22, cd23, f_q, f_m, f_ot, f_bl, f_q7, f_r, f_ap, f_o, f_q77, f_q88, f_q1, f_q1s⟩ hf hd
              have hf' : b10 = false := hf
              subst hf'
              clear hf hd
              have W_ot := f_ot.out
              try simp only [List.setIfInBounds_toArray, List.set_cons_zero, List.set_cons_succ]
              intro K hK
              rw [if_pos (by rfl)]
              go_simp
              exact hK.out _ _ ⟨b0, b1, b2, b3, b4, b5, b6, b7, b8, b9, true, b11, b12, b13, b14, b15, b16, b17, b18, b19, b20, b21, b22, b23, b24, x45, x46, x47, x48, x49, x50, x51, x52, x53, x54, (.int .i64 (j : Nat)), x56, x57, x58, x59, x60, x61, x62, x63, x64, x65, x66, x67, x68, gb, g9, c9, (by simp only [Act.put, List.setIfInBounds_toArray, List.set_cons_zero, List.set_cons_succ]), (by simp only [Act.put, List.setIfInBounds_toArray, List.set_cons_zero, List.set_cons_succ]), hb, cd0, cd1, cd2, cd3, cd4, cd5, cd6, cd7, cd8, cd9, (fun _ => rfl), cd11, cd12, cd13, cd14, cd15, cd16, cd17, cd18, cd19, cd20, cd21, cd22, cd23, f_q, f_m, f_ot, f_bl, f_q7, f_r, f_ap, f_o, f_q77, f_q88, f_q1, f_q1s⟩
            · rintro L a w ⟨b0, b1, b2, b3, b4, b5, b6, b7, b8, b9, b10, b11, b12, b13, b14, b15, b16, b17, b18, b19, b20, b21, b22, b23, b24, x45, x46, x47, x48, x49, x50, x51, x52, x53, x54, x55, x56, x57, x58, x59, x60, x61, x62, x63, x64, x65, x66, x67, x68, gb, g9, c9, rfl, rfl, hb, cd0, cd1, cd2, cd3, cd4, cd5, cd6, cd7, cd8, cd9, cd10, cd11, cd12, cd13, cd14, cd15, cd16, cd17, cd18, cd19, cd20, cd21, cd22, cd23, f_q, f_m, f_ot, f_bl, f_q7, f_r, f_ap, f_o, f_q77, f_q88, f_q1, f_q1s⟩ hf hd
              have hf' : b11 = false := hf
              subst hf'
              have d9 : b9 = true := hd ⟨9, .data⟩ (by simp) rfl
              subst d9
              have d10 : b10 = true := hd ⟨10, .data⟩ (by simp) rfl
              subst d10
              obtain rfl := cd9.out rfl
              obtain rfl := cd10.out rfl
              clear hf hd
              have W_ot := f_ot.out
              try simp only [List.setIfInBounds_toArray, List.set_cons_zero, List.set_cons_succ]
              intro K hK
              rw [if_pos (by rfl)]
              go_simp
              exact hK.out _ _ ⟨b0, b1, b2, b3, b4, b5, b6, b7, b8, true, true, true, b12, b13, b14, b15, b16, b17, b18, b19, b20, b21, b22, b23, b24, x45, x46, x47, x48, x49, x50, x51, x52, x53, .slice (some ⟨rb, roff, none⟩) wn wc, .int .i64 (j : Nat), (.pointer (some ⟨rb, roff + j * 3, none⟩)), x57, x58, x59, x60, x61, x62, x63, x64, x65, x66, x67, x68, gb, g9, c9, (by simp only [Act.put, List.setIfInBounds_toArray, List.set_cons_zero, List.set_cons_succ]), (by simp only [Act.put, List.setIfInBounds_toArray, List.set_cons_zero, List.set_cons_succ]), hb, cd0, cd1, cd2, cd3, cd4, cd5, cd6, cd7, cd8, (fun _ => rfl), (fun _ => rfl), (fun _ => rfl), cd12, cd13, cd14, cd15, cd16, cd17, cd18, cd19, cd20, cd21, cd22, cd23, f_q, f_m, f_ot, f_bl, f_q7, f_r, f_ap, f_o, f_q77, f_q88, f_q1, f_q1s⟩
            · rintro L a w ⟨b0, b1, b2, b3, b4, b5, b6, b7, b8, b9, b10, b11, b12, b13, b14, b15, b16, b17, b18, b19, b20, b21, b22, b23, b24, x45, x46, x47, x48, x49, x50, x51, x52, x53, x54, x55, x56, x57, x58, x59, x60, x61, x62, x63, x64, x65, x66, x67, x68, gb, g9, c9, rfl, rfl, hb, cd0, cd1, cd2, cd3, cd4, cd5, cd6, cd7, cd8, cd9, cd10, cd11, cd12, cd13, cd14, cd15, cd16, cd17, cd18, cd19, cd20, cd21, cd22, cd23, f_q, f_m, f_ot, f_bl, f_q7, f_r, f_ap, f_o, f_q77, f_q88, f_q1, f_q1s⟩ hf hd
              have hf' : b12 = false := hf
              subst hf'
              have d11 : b11 = true := hd ⟨11, .data⟩ (by simp) rfl
              subst d11
              obtain rfl := cd11.out rfl
              clear hf hd
              have W_ot := f_ot.out
              try simp only [List.setIfInBounds_toArray, List.set_cons_zero, List.set_cons_succ]
              intro K hK
              rw [if_pos (by rfl)]
              go_simp
              exact hK.out _ _ ⟨b0, b1, b2, b3, b4, b5, b6, b7, b8, b9, b10, true, true, b13, b14, b15, b16, b17, b18, b19, b20, b21, b22, b23, b24, x45, x46, x47, x48, x49, x50, x51, x52, x53, x54, x55, .pointer (some ⟨rb, roff + j * 3, none⟩), (.pointer (some ⟨rb, roff + j * 3 + 1, none⟩)), x58, x59, x60, x61, x62, x63, x64, x65, x66, x67, x68, gb, g9, c9, (by simp only [Act.put, List.setIfInBounds_toArray, List.set_cons_zero, List.set_cons_succ]), (by simp only [Act.put, List.setIfInBounds_toArray, List.set_cons_zero, List.set_cons_succ]), hb, cd0, cd1, cd2, cd3, cd4, cd5, cd6, cd7, cd8, cd9, cd10, (fun _ => rfl), (fun _ => rfl), cd13, cd14, cd15, cd16, cd17, cd18, cd19, cd20, cd21, cd22, cd23, f_q, f_m, f_ot, f_bl, f_q7, f_r, f_ap, f_o, f_q77, f_q88, f_q1, f_q1s⟩
            · rintro L a w ⟨b0, b1, b2, b3, b4, b5, b6, b7, b8, b9, b10, b11, b12, b13, b14, b15, b16, b17, b18, b19, b20, b21, b22, b23, b24, x45, x46, x47, x48, x49, x50, x51, x52, x53, x54, x55, x56, x57, x58, x59, x60, x61, x62, x63, x64, x65, x66, x67, x68, gb, g9, c9, rfl, rfl, hb, cd0, cd1, cd2, cd3, cd4, cd5, cd6, cd7, cd8, cd9, cd10, cd11, cd12, cd13, cd14, cd15, cd16, cd17, cd18, cd19, cd20, cd21, cd22, cd23, f_q, f_m, f_ot, f_bl, f_q7, f_r, f_ap, f_o, f_q77, f_q88, f_q1, f_q1s⟩ hf hd
              have hf' : b13 = false := hf
              subst hf'
              have d12 : b12 = true := hd ⟨12, .data⟩ (by simp) rfl
              subst d12
              obtain rfl := cd12.out rfl
              clear hf hd
              have W_ot := f_ot.out
              try simp only [List.setIfInBounds_toArray, List.set_cons_zero, List.set_cons_succ]
              have z0 := (hb.cell hrB).trans y1_
              intro K hK
              rw [if_pos (by rfl)]
              go_simp
              exact hK.out _ _ ⟨b0, b1, b2, b3, b4, b5, b6, b7, b8, b9, b10, b11, true, true, b14, b15, b16, b17, b18, b19, b20, b21, b22, b23, b24, x45, x46, x47, x48, x49, x50, x51, x52, x53, x54, x55, x56, .pointer (some ⟨rb, roff + j * 3 + 1, none⟩), (.string (bsOf t)), x59, x60, x61, x62, x63, x64, x65, x66, x67, x68, gb, g9, c9, (by simp only [Act.put, List.setIfInBounds_toArray, List.set_cons_zero, List.set_cons_succ]), (by simp only [Act.put, List.setIfInBounds_toArray, List.set_cons_zero, List.set_cons_succ]), hb, cd0, cd1, cd2, cd3, cd4, cd5, cd6, cd7, cd8, cd9, cd10, cd11, (fun _ => rfl), (fun _ => rfl), cd14, cd15, cd16, cd17, cd18, cd19, cd20, cd21, cd22, cd23, f_q, f_m, f_ot, f_bl, f_q7, f_r, f_ap, f_o, f_q77, f_q88, f_q1, f_q1s⟩
            · rintro L a w ⟨b0, b1, b2, b3, b4, b5, b6, b7, b8, b9, b10, b11, b12, b13, b14, b15, b16, b17, b18, b19, b20, b21, b22, b23, b24, x45, x46, x47, x48, x49, x50, x51, x52, x53, x54, x55, x56, x57, x58, x59, x60, x61, x62, x63, x64, x65, x66, x67, x68, gb, g9, c9, rfl, rfl, hb, cd0, cd1, cd2, cd3, cd4, cd5, cd6, cd7, cd8, cd9, cd10, cd11, cd12, cd13, cd14, cd15, cd16, cd17, cd18, cd19, cd20, cd21, cd22, cd23, f_q, f_m, f_ot, f_bl, f_q7, f_r, f_ap, f_o, f_q77, f_q88, f_q1, f_q1s⟩ hf hd
              have hf' : b14 = false := hf
              subst hf'
              clear hf hd
              have W_ot := f_ot.out
              try simp only [List.setIfInBounds_toArray, List.set_cons_zero, List.set_cons_succ]
              intro K hK
              rw [if_pos (by rfl)]
              go_simp
              exact hK.out _ _ ⟨b0, b1, b2, b3, b4, b5, b6, b7, b8, b9, b10, b11, b12, b13, true, b15, b16, b17, b18, b19, b20, b21, b22, b23, b24, x45, x46, x47, x48, x49, x50, x51, x52, x53, x54, x55, x56, x57, x58, (.pointer (some ⟨p, 1, none⟩)), x60, x61, x62, x63, x64, x65, x66, x67, x68, gb, g9, c9, (by simp only [Act.put, List.setIfInBounds_toArray, List.set_cons_zero, List.set_cons_succ]), (by simp only [Act.put, List.setIfInBounds_toArray, List.set_cons_zero, List.set_cons_succ]), hb, cd0, cd1, cd2, cd3, cd4, cd5, cd6, cd7, cd8, cd9, cd10, cd11, cd12, cd13, (fun _ => rfl), cd15, cd16, cd17, cd18, cd19, cd20, cd21, cd22, cd23, f_q, f_m, f_ot, f_bl, f_q7, f_r, f_ap, f_o, f_q77, f_q88, f_q1, f_q1s⟩
            · rintro L a w ⟨b0, b1, b2, b3, b4, b5, b6, b7, b8, b9, b10, b11, b12, b13, b14, b15, b16, b17, b18, b19, b20, b21, b22, b23, b24, x45, x46, x47, x48, x49, x50, x51, x52, x53, x54, x55, x56, x57, x58, x59, x60, x61, x62, x63, x64, x65, x66, x67, x68, gb, g9, c9, rfl, rfl, hb, cd0, cd1, cd2, cd3, cd4, cd5, cd6, cd7, cd8, cd9, cd10, cd11, cd12, cd13, cd14, cd15, cd16, cd17, cd18, cd19, cd20, cd21, cd22, cd23, f_q, f_m, f_ot, f_bl, f_q7, f_r, f_ap, f_o, f_q77, f_q88, f_q1, f_q1s⟩ hf hd
              have hf' : b15 = false := hf
              subst hf'
              have d14 : b14 = true := hd ⟨14, .data⟩ (by simp) rfl
              subst d14
              obtain rfl := cd14.out rfl
              clear hf hd
              have W_ot := f_ot.out
              try simp only [List.setIfInBounds_toArray, List.set_cons_zero, List.set_cons_succ]
              have z0 := (hb.cell hpB).trans cp
              intro K hK
              rw [if_pos (by rfl)]
              go_simp
              exact hK.out _ _ ⟨b0, b1, b2, b3, b4, b5, b6, b7, b8, b9, b10, b11, b12, b13, true, true, b16, b17, b18, b19, b20, b21, b22, b23, b24, x45, x46, x47, x48, x49, x50, x51, x52, x53, x54, x55, x56, x57, x58, .pointer (some ⟨p, 1, none⟩), (.slice (some ⟨rb, roff, none⟩) wn wc), x61, x62, x63, x64, x65, x66, x67, x68, gb, g9, c9, (by simp only [Act.put, List.setIfInBounds_toArray, List.set_cons_zero, List.set_cons_succ]), (by simp only [Act.put, List.setIfInBounds_toArray, List.set_cons_zero, List.set_cons_succ]), hb, cd0, cd1, cd2, cd3, cd4, cd5, cd6, cd7, cd8, cd9, cd10, cd11, cd12, cd13, (fun _ => rfl), (fun _ => rfl), cd16, cd17, cd18, cd19, cd20, cd21, cd22, cd23, f_q, f_m, f_ot, f_bl, f_q7, f_r, f_ap, f_o, f_q77, f_q88, f_q1, f_q1s⟩
            · rintro L a w ⟨b0, b1, b2, b3, b4, b5, b6, b7, b8, b9, b10, b11, b12, b13, b14, b15, b16, b17, b18, b19, b20, b21, b22, b23, b24, x45, x46, x47, x48, x49, x50, x51, x52, x53, x54, x55, x56, x57, x58, x59, x60, x61, x62, x63, x64, x65, x66, x67, x68, gb, g9, c9, rfl, rfl, hb, cd0, cd1, cd2, cd3, cd4, cd5, cd6, cd7, cd8, cd9, cd10, cd11, cd12, cd13, cd14, cd15, cd16, cd17, cd18, cd19, cd20, cd21, cd22, cd23, f_q, f_m, f_ot, f_bl, f_q7, f_r, f_ap, f_o, f_q77, f_q88, f_q1, f_q1s⟩ hf hd
              have hf' : b16 = false := hf
              subst hf'
              clear hf hd
              have W_ot := f_ot.out
              try simp only [List.setIfInBounds_toArray, List.set_cons_zero, List.set_cons_succ]
              intro K hK
              rw [if_pos (by rfl)]
              go_simp
              exact hK.out _ _ ⟨b0, b1, b2, b3, b4, b5, b6, b7, b8, b9, b10, b11, b12, b13, b14, b15, true, b17, b18, b19, b20, b21, b22, b23, b24, x45, x46, x47, x48, x49, x50, x51, x52, x53, x54, x55, x56, x57, x58, x59, x60, (.int .i64 (j : Nat)), x62, x63, x64, x65, x66, x67, x68, gb, g9, c9, (by simp only [Act.put, List.setIfInBounds_toArray, List.set_cons_zero, List.set_cons_succ]), (by simp only [Act.put, List.setIfInBounds_toArray, List.set_cons_zero, List.set_cons_succ]), hb, cd0, cd1, cd2, cd3, cd4, cd5, cd6, cd7, cd8, cd9, cd10, cd11, cd12, cd13, cd14, cd15, (fun _ => rfl), cd17, cd18, cd19, cd20, cd21, cd22, cd23, f_q, f_m, f_ot, f_bl, f_q7, f_r, f_ap, f_o, f_q77, f_q88, f_q1, f_q1s⟩
            · rintro L a w ⟨b0, b1, b2, b3, b4, b5, b6, b7, b8, b9, b10, b11, b12, b13, b14, b15, b16, b17, b18, b19, b20, b21, b22, b23, b24, x45, x46, x47, x48, x49, x50, x51, x52, x53, x54, x55, x56, x57, x58, x59, x60, x61, x62, x63, x64, x65, x66, x67, x68, gb, g9, c9, rfl, rfl, hb, cd0, cd1, cd2, cd3, cd4, cd5, cd6, cd7, cd8, cd9, cd10, cd11, cd12, cd13, cd14, cd15, cd16, cd17, cd18, cd19, cd20, cd21, cd22, cd23, f_q, f_m, f_ot, f_bl, f_q7, f_r, f_ap, f_o, f_q77, f_q88, f_q1, f_q1s⟩ hf hd
              have hf' : b17 = false := hf
              subst hf'
              have d15 : b15 = true := hd ⟨15, .data⟩ (by simp) rfl
              subst d15
              have d16 : b16 = true := hd ⟨16, .data⟩ (by simp) rfl
              subst d16
              obtain rfl := cd15.out rfl
              obtain rfl := cd16.out rfl
              clear hf hd
              have W_ot := f_ot.out
              try simp only [List.setIfInBounds_toArray, List.set_cons_zero, List.set_cons_succ]
              intro K hK
              rw [if_pos (by rfl)]
              go_simp
              exact hK.out _ _ ⟨b0, b1, b2, b3, b4, b5, b6, b7, b8, b9, b10, b11, b12, b13, b14, true, true, true, b18, b19, b20, b21, b22, b23, b24, x45, x46, x47, x48, x49, x50, x51, x52, x53, x54, x55, x56, x57, x58, x59, .slice (some ⟨rb, roff, none⟩) wn wc, .int .i64 (j : Nat), (.pointer (some ⟨rb, roff + j * 3, none⟩)), x63, x64, x65, x66, x67, x68, gb, g9, c9, (by simp only [Act.put, List.setIfInBounds_toArray, List.set_cons_zero, List.set_cons_succ]), (by simp only [Act.put, List.setIfInBounds_toArray, List.set_cons_zero, List.set_cons_succ]), hb, cd0, cd1, cd2, cd3, cd4, cd5, cd6, cd7, cd8, cd9, cd10, cd11, cd12, cd13, cd14, (fun _ => rfl), (fun _ => rfl), (fun _ => rfl), cd18, cd19, cd20, cd21, cd22, cd23, f_q, f_m, f_ot, f_bl, f_q7, f_r, f_ap, f_o, f_q77, f_q88, f_q1, f_q1s⟩
            · rintro L a w ⟨b0, b1, b2, b3, b4, b5, b6, b7, b8, b9, b10, b11, b12, b13, b14, b15, b16, b17, b18, b19, b20, b21, b22, b23, b24, x45, x46, x47, x48, x49, x50, x51, x52, x53, x54, x55, x56, x57, x58, x59, x60, x61, x62, x63, x64, x65, x66, x67, x68, gb, g9, c9, rfl, rfl, hb, cd0, cd1, cd2, cd3, cd4, cd5, cd6, cd7, cd8, cd9, cd10, cd11, cd12, cd13, cd14, cd15, cd16, cd17, cd18, cd19, cd20, cd21, cd22, cd23, f_q, f_m, f_ot, f_bl, f_q7, f_r, f_ap, f_o, f_q77, f_q88, f_q1, f_q1s⟩ hf hd
              have hf' : b18 = false := hf
              subst hf'
              have d17 : b17 = true := hd ⟨17, .data⟩ (by simp) rfl
              subst d17
              obtain rfl := cd17.out rfl
              clear hf hd
              have W_ot := f_ot.out
              try simp only [List.setIfInBounds_toArray, List.set_cons_zero, List.set_cons_succ]
              intro K hK
              rw [if_pos (by rfl)]
              go_simp
              exact hK.out _ _ ⟨b0, b1, b2, b3, b4, b5, b6, b7, b8, b9, b10, b11, b12, b13, b14, b15, b16, true, true, b19, b20, b21, b22, b23, b24, x45, x46, x47, x48, x49, x50, x51, x52, x53, x54, x55, x56, x57, x58, x59, x60, x61, .pointer (some ⟨rb, roff + j * 3, none⟩), (.pointer (some ⟨rb, roff + j * 3 + 2, none⟩)), x64, x65, x66, x67, x68, gb, g9, c9, (by simp only [Act.put, List.setIfInBounds_toArray, List.set_cons_zero, List.set_cons_succ]), (by simp only [Act.put, List.setIfInBounds_toArray, List.set_cons_zero, List.set_cons_succ]), hb, cd0, cd1, cd2, cd3, cd4, cd5, cd6, cd7, cd8, cd9, cd10, cd11, cd12, cd13, cd14, cd15, cd16, (fun _ => rfl), (fun _ => rfl), cd19, cd20, cd21, cd22, cd23, f_q, f_m, f_ot, f_bl, f_q7, f_r, f_ap, f_o, f_q77, f_q88, f_q1, f_q1s⟩
            · rintro L a w ⟨b0, b1, b2, b3, b4, b5, b6, b7, b8, b9, b10, b11, b12, b13, b14, b15, b16, b17, b18, b19, b20, b21, b22, b23, b24, x45, x46, x47, x48, x49, x50, x51, x52, x53, x54, x55, x56, x57, x58, x59, x60, x61, x62, x63, x64, x65, x66, x67, x68, gb, g9, c9, rfl, rfl, hb, cd0, cd1, cd2, cd3, cd4, cd5, cd6, cd7, cd8, cd9, cd10, cd11, cd12, cd13, cd14, cd15, cd16, cd17, cd18, cd19, cd20, cd21, cd22, cd23, f_q, f_m, f_ot, f_bl, f_q7, f_r, f_ap, f_o, f_q77, f_q88, f_q1, f_q1s⟩ hf hd
              have hf' : b19 = false := hf
              subst hf'
              have d18 : b18 = true := hd ⟨18, .data⟩ (by simp) rfl
              subst d18
              obtain rfl := cd18.out rfl
              clear hf hd
              have W_ot := f_ot.out
              try simp only [List.setIfInBounds_toArray, List.set_cons_zero, List.set_cons_succ]
              have z0 := (hb.cell hrB).trans y2_
              intro K hK
              rw [if_pos (by rfl)]
              go_simp
              exact hK.out _ _ ⟨b0, b1, b2, b3, b4, b5, b6, b7, b8, b9, b10, b11, b12, b13, b14, b15, b16, b17, true, true, b20, b21, b22, b23, b24, x45, x46, x47, x48, x49, x50, x51, x52, x53, x54, x55, x56, x57, x58, x59, x60, x61, x62, .pointer (some ⟨rb, roff + j * 3 + 2, none⟩), (.bool x), x65, x66, x67, x68, gb, g9, c9, (by simp only [Act.put, List.setIfInBounds_toArray, List.set_cons_zero, List.set_cons_succ]), (by simp only [Act.put, List.setIfInBounds_toArray, List.set_cons_zero, List.set_cons_succ]), hb, cd0, cd1, cd2, cd3, cd4, cd5, cd6, cd7, cd8, cd9, cd10, cd11, cd12, cd13, cd14, cd15, cd16, cd17, (fun _ => rfl), (fun _ => rfl), cd20, cd21, cd22, cd23, f_q, f_m, f_ot, f_bl, f_q7, f_r, f_ap, f_o, f_q77, f_q88, f_q1, f_q1s⟩
            · rintro L a w ⟨b0, b1, b2, b3, b4, b5, b6, b7, b8, b9, b10, b11, b12, b13, b14, b15, b16, b17, b18, b19, b20, b21, b22, b23, b24, x45, x46, x47, x48, x49, x50, x51, x52, x53, x54, x55, x56, x57, x58, x59, x60, x61, x62, x63, x64, x65, x66, x67, x68, gb, g9, c9, rfl, rfl, hb, cd0, cd1, cd2, cd3, cd4, cd5, cd6, cd7, cd8, cd9, cd10, cd11, cd12, cd13, cd14, cd15, cd16, cd17, cd18, cd19, cd20, cd21, cd22, cd23, f_q, f_m, f_ot, f_bl, f_q7, f_r, f_ap, f_o, f_q77, f_q88, f_q1, f_q1s⟩ hf hd
              have hf' : b20 = false := hf
              subst hf'
              have d7 : b7 = true := hd ⟨7, .data⟩ (by simp) rfl
              subst d7
              have d13 : b13 = true := hd ⟨13, .data⟩ (by simp) rfl
              subst d13
              have d19 : b19 = true := hd ⟨19, .data⟩ (by simp) rfl
              subst d19
              obtain rfl := cd7.out rfl
              obtain rfl := cd13.out rfl
              obtain rfl := cd19.out rfl
              clear hf hd
              have W_ot := f_ot.out
              try simp only [List.setIfInBounds_toArray, List.set_cons_zero, List.set_cons_succ]
              intro K hK
              rw [if_pos (by rfl)]
              go_simp
              exact hK.out _ _ ⟨b0, b1, b2, b3, b4, b5, b6, true, b8, b9, b10, b11, b12, true, b14, b15, b16, b17, b18, true, true, b21, b22, b23, b24, x45, x46, x47, x48, x49, x50, x51, .int .i64 s, x53, x54, x55, x56, x57, .string (bsOf t), x59, x60, x61, x62, x63, .bool x, (.agg #[.int .i64 s, .string (bsOf t), .bool x]), x66, x67, x68, gb, g9, c9, (by simp only [Act.put, List.setIfInBounds_toArray, List.set_cons_zero, List.set_cons_succ]), (by simp only [Act.put, List.setIfInBounds_toArray, List.set_cons_zero, List.set_cons_succ]), hb, cd0, cd1, cd2, cd3, cd4, cd5, cd6, (fun _ => rfl), cd8, cd9, cd10, cd11, cd12, (fun _ => rfl), cd14, cd15, cd16, cd17, cd18, (fun _ => rfl), (fun _ => rfl), cd21, cd22, cd23, f_q, f_m, f_ot, f_bl, f_q7, f_r, f_ap, f_o, f_q77, f_q88, f_q1, f_q1s⟩
            · rintro L a w ⟨b0, b1, b2, b3, b4, b5, b6, b7, b8, b9, b10, b11, b12, b13, b14, b15, b16, b17, b18, b19, b20, b21, b22, b23, b24, x45, x46, x47, x48, x49, x50, x51, x52, x53, x54, x55, x56, x57, x58, x59, x60, x61, x62, x63, x64, x65, x66, x67, x68, gb, g9, c9, rfl, rfl, hb, cd0, cd1, cd2, cd3, cd4, cd5, cd6, cd7, cd8, cd9, cd10, cd11, cd12, cd13, cd14, cd15, cd16, cd17, cd18, cd19, cd20, cd21, cd22, cd23, f_q, f_m, f_ot, f_bl, f_q7, f_r, f_ap, f_o, f_q77, f_q88, f_q1, f_q1s⟩ hf hd
              have hf' : b21 = false := hf
              subst hf'
              have d20 : b20 = true := hd ⟨20, .data⟩ (by simp) rfl
              subst d20
              obtain rfl := cd20.out rfl
              clear hf hd
              have W_ot := f_ot.out
              try simp only [List.setIfInBounds_toArray, List.set_cons_zero, List.set_cons_succ]
              intro K hK
              rw [if_pos (by rfl)]
              refine wp_buildSlice_one 97 112 _ rfl (Hd.cells (⟨s, t, x⟩ : Hd)) 3 rfl rfl (by omega) (by omega) Try.underlying97 rhd_inf' fun w5 hB5 bq5 sq5 => ?_
              have bx := bq5
              exact hK.out _ _ ⟨b0, b1, b2, b3, b4, b5, b6, b7, b8, b9, b10, b11, b12, b13, b14, b15, b16, b17, b18, b19, true, true, b22, b23, b24, x45, x46, x47, x48, x49, x50, x51, x52, x53, x54, x55, x56, x57, x58, x59, x60, x61, x62, x63, x64, .agg #[.int .i64 s, .string (bsOf t), .bool x], (.slice (some ⟨(w.heap.size), 0, none⟩) 1 1), x67, x68, w.heap.size, g9, c9, (by simp only [Act.put, List.setIfInBounds_toArray, List.set_cons_zero, List.set_cons_succ]), (by simp only [Act.put, List.setIfInBounds_toArray, List.set_cons_zero, List.set_cons_succ]), hb.trans (bx.mono (Nat.le_trans hB0 hb.size)), cd0, cd1, cd2, cd3, cd4, cd5, cd6, cd7, cd8, cd9, cd10, cd11, cd12, cd13, cd14, cd15, cd16, cd17, cd18, cd19, (fun _ => rfl), (fun _ => rfl), cd22, cd23, (fun h1 => (f_q.out h1).past bx), (fun h1 => (f_m.out h1).past bx), (f_ot.out.past bx), (fun _ _ => OwnR.ofBlk hB5 rfl rfl (by omega)), (fun _ => rfl), (fun h0 => absurd (f_q7.out h0) (by simp)), (fun h0 => absurd (f_q7.out h0) (by simp)), (fun h0 => absurd (f_q77.out h0) (by simp)), (fun _ => rfl), f_q88, f_q1, f_q1s⟩
            · rintro L a w ⟨b0, b1, b2, b3, b4, b5, b6, b7, b8, b9, b10, b11, b12, b13, b14, b15, b16, b17, b18, b19, b20, b21, b22, b23, b24, x45, x46, x47, x48, x49, x50, x51, x52, x53, x54, x55, x56, x57, x58, x59, x60, x61, x62, x63, x64, x65, x66, x67, x68, gb, g9, c9, rfl, rfl, hb, cd0, cd1, cd2, cd3, cd4, cd5, cd6, cd7, cd8, cd9, cd10, cd11, cd12, cd13, cd14, cd15, cd16, cd17, cd18, cd19, cd20, cd21, cd22, cd23, f_q, f_m, f_ot, f_bl, f_q7, f_r, f_ap, f_o, f_q77, f_q88, f_q1, f_q1s⟩ hf hd
              have hf' : b22 = false := hf
              subst hf'
              have d1 : b1 = true := hd ⟨1, .data⟩ (by simp) rfl
              subst d1
              have d21 : b21 = true := hd ⟨21, .data⟩ (by simp) rfl
              subst d21
              obtain rfl := cd1.out rfl
              obtain rfl := cd21.out rfl
              clear hf hd
              have W_m := f_m.out rfl
              have W_ot := f_ot.out
              have W_bl := f_bl.out rfl rfl
              try simp only [List.setIfInBounds_toArray, List.set_cons_zero, List.set_cons_succ]
              intro K hK
              rw [if_pos (by rfl)]
              refine wp_append_r _ _ 97 97 rfl rowTyRh rfl W_m (Nat.le_trans hB1 hb.size) _ rfl 1 [(⟨s, t, x⟩ : Hd)] (W_bl.isR.src Try.underlying97) rfl (by omega) N HN _ rfl hNm ?_
              intro g10 c10 w2 o10 gr10 q10 bq10
              have hb2 := hb.trans (bq10.mono (Nat.le_succ q))
              have neq : some q ≠ Go.Proofs.Ytllijeciodmckaa.blk ao2 := by have h0 := W_m.from'; intro e; have := h0 q e.symm; omega
              have apP : ∀ z, Go.Proofs.Ytllijeciodmckaa.blk ao1 = some z → z ≠ g10 := fun z hz e => by
                subst e
                rcases q10 with h | h
                · exact AP z h hz
                · have := W_ot.lt z hz; omega
              exact hK.out _ _ ⟨b0, true, b2, b3, b4, b5, b6, b7, b8, b9, b10, b11, b12, b13, b14, b15, b16, b17, b18, b19, b20, true, true, b23, b24, x45, .slice ao2 n2 c2_, x47, x48, x49, x50, x51, x52, x53, x54, x55, x56, x57, x58, x59, x60, x61, x62, x63, x64, x65, .slice (some ⟨gb, 0, none⟩) 1 1, (.slice (some ⟨g10, 0, none⟩) N c10), x68, gb, g10, c10, (by simp only [Act.put, List.setIfInBounds_toArray, List.set_cons_zero, List.set_cons_succ]), (by simp only [Act.put, List.setIfInBounds_toArray, List.set_cons_zero, List.set_cons_succ]), hb2, cd0, (fun _ => rfl), cd2, cd3, cd4, cd5, cd6, cd7, cd8, cd9, cd10, cd11, cd12, cd13, cd14, cd15, cd16, cd17, cd18, cd19, cd20, (fun _ => rfl), (fun _ => rfl), cd23, (fun h1 => (gr10.block q ((f_q.out h1)).lt neq).trans ((f_q.out h1))), (fun h => by cases h), ((f_ot.out).grown gr10 (fun z hz e => AP z e hz)), (fun _ h => by cases h), (fun _ => rfl), (fun _ => o10), (fun _ => apP), (fun h0 => absurd (f_q88.out h0) (by simp)), f_q77, (fun _ => rfl), (fun _ => rfl), f_q1s⟩
            · rintro L a w ⟨b0, b1, b2, b3, b4, b5, b6, b7, b8, b9, b10, b11, b12, b13, b14, b15, b16, b17, b18, b19, b20, b21, b22, b23, b24, x45, x46, x47, x48, x49, x50, x51, x52, x53, x54, x55, x56, x57, x58, x59, x60, x61, x62, x63, x64, x65, x66, x67, x68, gb, g9, c9, rfl, rfl, hb, cd0, cd1, cd2, cd3, cd4, cd5, cd6, cd7, cd8, cd9, cd10, cd11, cd12, cd13, cd14, cd15, cd16, cd17, cd18, cd19, cd20, cd21, cd22, cd23, f_q, f_m, f_ot, f_bl, f_q7, f_r, f_ap, f_o, f_q77, f_q88, f_q1, f_q1s⟩ hf hd
              have hf' : b23 = false := hf
              subst hf'
              have d0 : b0 = true := hd ⟨0, .phase⟩ (by simp) rfl
              subst d0
              have d1 : b1 = true := hd ⟨1, .phase⟩ (by simp) rfl
              subst d1
              have d2 : b2 = true := hd ⟨2, .phase⟩ (by simp) rfl
              subst d2
              have d3 : b3 = true := hd ⟨3, .phase⟩ (by simp) rfl
              subst d3
              have d4 : b4 = true := hd ⟨4, .phase⟩ (by simp) rfl
              subst d4
              have d5 : b5 = true := hd ⟨5, .phase⟩ (by simp) rfl
              subst d5
              have d6 : b6 = true := hd ⟨6, .phase⟩ (by simp) rfl
              subst d6
              have d7 : b7 = true := hd ⟨7, .phase⟩ (by simp) rfl
              subst d7
              have d8 : b8 = true := hd ⟨8, .phase⟩ (by simp) rfl
              subst d8
              have d9 : b9 = true := hd ⟨9, .phase⟩ (by simp) rfl
              subst d9
              have d10 : b10 = true := hd ⟨10, .phase⟩ (by simp) rfl
              subst d10
              have d11 : b11 = true := hd ⟨11, .phase⟩ (by simp) rfl
              subst d11
              have d12 : b12 = true := hd ⟨12, .phase⟩ (by simp) rfl
              subst d12
              have d13 : b13 = true := hd ⟨13, .phase⟩ (by simp) rfl
              subst d13
              have d14 : b14 = true := hd ⟨14, .phase⟩ (by simp) rfl
              subst d14
              have d15 : b15 = true := hd ⟨15, .phase⟩ (by simp) rfl
              subst d15
              have d16 : b16 = true := hd ⟨16, .phase⟩ (by simp) rfl
              subst d16
              have d17 : b17 = true := hd ⟨17, .phase⟩ (by simp) rfl
              subst d17
              have d18 : b18 = true := hd ⟨18, .phase⟩ (by simp) rfl
              subst d18
              have d19 : b19 = true := hd ⟨19, .phase⟩ (by simp) rfl
              subst d19
              have d20 : b20 = true := hd ⟨20, .phase⟩ (by simp) rfl
              subst d20
              have d21 : b21 = true := hd ⟨21, .phase⟩ (by simp) rfl
              subst d21
              have d22 : b22 = true := hd ⟨22, .phase⟩ (by simp) rfl
              subst d22
              obtain rfl := cd0.out rfl
              obtain rfl := cd1.out rfl
              obtain rfl := cd2.out rfl
              obtain rfl := cd3.out rfl
              obtain rfl := cd4.out rfl
              obtain rfl := cd5.out rfl
              obtain rfl := cd6.out rfl
              obtain rfl := cd7.out rfl
              obtain rfl := cd8.out rfl
              obtain rfl := cd9.out rfl
              obtain rfl := cd10.out rfl
              obtain rfl := cd11.out rfl
              obtain rfl := cd12.out rfl
              obtain rfl := cd13.out rfl
              obtain rfl := cd14.out rfl
              obtain rfl := cd15.out rfl
              obtain rfl := cd16.out rfl
              obtain rfl := cd17.out rfl
              obtain rfl := cd18.out rfl
              obtain rfl := cd19.out rfl
              obtain rfl := cd20.out rfl
              obtain rfl := cd21.out rfl
              obtain rfl := cd22.out rfl
              clear hf hd
              have W_ot := f_ot.out
              have W_q7 := f_q7.out rfl
              have W_r := f_r.out rfl
              have W_ap := f_ap.out rfl
              have W_q1 := f_q1.out rfl
              try simp only [List.setIfInBounds_toArray, List.set_cons_zero, List.set_cons_succ]
              intro K hK
              rw [if_pos (by rfl)]
              go_simp
              exact hK.out _ _ ⟨true, true, true, true, true, true, true, true, true, true, true, true, true, true, true, true, true, true, true, true, true, true, true, true, b24, .pointer (some ⟨q, 1, none⟩), .slice ao2 n2 c2_, .pointer (some ⟨p, 1, none⟩), .slice (some ⟨rb, roff, none⟩) wn wc, .int .i64 (j : Nat), .pointer (some ⟨rb, roff + j * 3, none⟩), .pointer (some ⟨rb, roff + j * 3, none⟩), .int .i64 s, .pointer (some ⟨p, 1, none⟩), .slice (some ⟨rb, roff, none⟩) wn wc, .int .i64 (j : Nat), .pointer (some ⟨rb, roff + j * 3, none⟩), .pointer (some ⟨rb, roff + j * 3 + 1, none⟩), .string (bsOf t), .pointer (some ⟨p, 1, none⟩), .slice (some ⟨rb, roff, none⟩) wn wc, .int .i64 (j : Nat), .pointer (some ⟨rb, roff + j * 3, none⟩), .pointer (some ⟨rb, roff + j * 3 + 2, none⟩), .bool x, .agg #[.int .i64 s, .string (bsOf t), .bool x], .slice (some ⟨gb, 0, none⟩) 1 1, .slice (some ⟨g9, 0, none⟩) N c9, (.pointer (some ⟨q, 1, none⟩)), gb, g9, c9, (by simp only [Act.put, List.setIfInBounds_toArray, List.set_cons_zero, List.set_cons_succ]), (by simp only [Act.put, List.setIfInBounds_toArray, List.set_cons_zero, List.set_cons_succ]), hb, (fun _ => rfl), (fun _ => rfl), (fun _ => rfl), (fun _ => rfl), (fun _ => rfl), (fun _ => rfl), (fun _ => rfl), (fun _ => rfl), (fun _ => rfl), (fun _ => rfl), (fun _ => rfl), (fun _ => rfl), (fun _ => rfl), (fun _ => rfl), (fun _ => rfl), (fun _ => rfl), (fun _ => rfl), (fun _ => rfl), (fun _ => rfl), (fun _ => rfl), (fun _ => rfl), (fun _ => rfl), (fun _ => rfl), (fun _ => rfl), f_q, (fun h => by cases h), f_ot, (fun _ h => by cases h), f_q7, f_r, f_ap, f_o, f_q77, f_q88, f_q1, f_q1s⟩
            · rintro L a w ⟨b0, b1, b2, b3, b4, b5, b6, b7, b8, b9, b10, b11, b12, b13, b14, b15, b16, b17, b18, b19, b20, b21, b22, b23, b24, x45, x46, x47, x48, x49, x50, x51, x52, x53, x54, x55, x56, x57, x58, x59, x60, x61, x62, x63, x64, x65, x66, x67, x68, gb, g9, c9, rfl, rfl, hb, cd0, cd1, cd2, cd3, cd4, cd5, cd6, cd7, cd8, cd9, cd10, cd11, cd12, cd13, cd14, cd15, cd16, cd17, cd18, cd19, cd20, cd21, cd22, cd23, f_q, f_m, f_ot, f_bl, f_q7, f_r, f_ap, f_o, f_q77, f_q88, f_q1, f_q1s⟩ hf hd
              have hf' : b24 = false := hf
              subst hf'
              have d23 : b23 = true := hd ⟨23, .data⟩ (by simp) rfl
              subst d23
              have d22 : b22 = true := hd ⟨22, .data⟩ (by simp) rfl
              subst d22
              have d0 : b0 = true := hd ⟨0, .phase⟩ (by simp) rfl
              subst d0
              have d1 : b1 = true := hd ⟨1, .phase⟩ (by simp) rfl
              subst d1
              have d2 : b2 = true := hd ⟨2, .phase⟩ (by simp) rfl
              subst d2
              have d3 : b3 = true := hd ⟨3, .phase⟩ (by simp) rfl
              subst d3
              have d4 : b4 = true := hd ⟨4, .phase⟩ (by simp) rfl
              subst d4
              have d5 : b5 = true := hd ⟨5, .phase⟩ (by simp) rfl
              subst d5
              have d6 : b6 = true := hd ⟨6, .phase⟩ (by simp) rfl
              subst d6
              have d7 : b7 = true := hd ⟨7, .phase⟩ (by simp) rfl
              subst d7
              have d8 : b8 = true := hd ⟨8, .phase⟩ (by simp) rfl
              subst d8
              have d9 : b9 = true := hd ⟨9, .phase⟩ (by simp) rfl
              subst d9
              have d10 : b10 = true := hd ⟨10, .phase⟩ (by simp) rfl
              subst d10
              have d11 : b11 = true := hd ⟨11, .phase⟩ (by simp) rfl
              subst d11
              have d12 : b12 = true := hd ⟨12, .phase⟩ (by simp) rfl
              subst d12
              have d13 : b13 = true := hd ⟨13, .phase⟩ (by simp) rfl
              subst d13
              have d14 : b14 = true := hd ⟨14, .phase⟩ (by simp) rfl
              subst d14
              have d15 : b15 = true := hd ⟨15, .phase⟩ (by simp) rfl
              subst d15
              have d16 : b16 = true := hd ⟨16, .phase⟩ (by simp) rfl
              subst d16
              have d17 : b17 = true := hd ⟨17, .phase⟩ (by simp) rfl
              subst d17
              have d18 : b18 = true := hd ⟨18, .phase⟩ (by simp) rfl
              subst d18
              have d19 : b19 = true := hd ⟨19, .phase⟩ (by simp) rfl
              subst d19
              have d20 : b20 = true := hd ⟨20, .phase⟩ (by simp) rfl
              subst d20
              have d21 : b21 = true := hd ⟨21, .phase⟩ (by simp) rfl
              subst d21
              obtain rfl := cd23.out rfl
              obtain rfl := cd22.out rfl
              obtain rfl := cd0.out rfl
              obtain rfl := cd1.out rfl
              obtain rfl := cd2.out rfl
              obtain rfl := cd3.out rfl
              obtain rfl := cd4.out rfl
              obtain rfl := cd5.out rfl
              obtain rfl := cd6.out rfl
              obtain rfl := cd7.out rfl
              obtain rfl := cd8.out rfl
              obtain rfl := cd9.out rfl
              obtain rfl := cd10.out rfl
              obtain rfl := cd11.out rfl
              obtain rfl := cd12.out rfl
              obtain rfl := cd13.out rfl
              obtain rfl := cd14.out rfl
              obtain rfl := cd15.out rfl
              obtain rfl := cd16.out rfl
              obtain rfl := cd17.out rfl
              obtain rfl := cd18.out rfl
              obtain rfl := cd19.out rfl
              obtain rfl := cd20.out rfl
              obtain rfl := cd21.out rfl
              clear hf hd
              have W_q := f_q.out rfl
              have W_ot := f_ot.out
              have W_q7 := f_q7.out rfl
              have W_r := f_r.out rfl
              have W_ap := f_ap.out rfl
              have W_q1 := f_q1.out rfl
              try simp only [List.setIfInBounds_toArray, List.set_cons_zero, List.set_cons_succ]
              intro K hK
              rw [if_pos (by rfl)]
              obtain ⟨z0, z1⟩ := W_q.c
              obtain ⟨f0, f1⟩ := W_q.free
              go_simp
              have g8 := set1_grown w q 1 (.slice (some ⟨g9, 0, none⟩) N c9)
              have hb2 := hb.grown g8 (Nat.le_trans hBq hb.size) (fun z hz => by cases hz; exact Nat.le_refl _)
              have po := W_q.put1 (some ⟨g9, 0, none⟩) N c9
              exact hK.out _ _ ⟨true, true, true, true, true, true, true, true, true, true, true, true, true, true, true, true, true, true, true, true, true, true, true, true, true, .pointer (some ⟨q, 1, none⟩), .slice ao2 n2 c2_, .pointer (some ⟨p, 1, none⟩), .slice (some ⟨rb, roff, none⟩) wn wc, .int .i64 (j : Nat), .pointer (some ⟨rb, roff + j * 3, none⟩), .pointer (some ⟨rb, roff + j * 3, none⟩), .int .i64 s, .pointer (some ⟨p, 1, none⟩), .slice (some ⟨rb, roff, none⟩) wn wc, .int .i64 (j : Nat), .pointer (some ⟨rb, roff + j * 3, none⟩), .pointer (some ⟨rb, roff + j * 3 + 1, none⟩), .string (bsOf t), .pointer (some ⟨p, 1, none⟩), .slice (some ⟨rb, roff, none⟩) wn wc, .int .i64 (j : Nat), .pointer (some ⟨rb, roff + j * 3, none⟩), .pointer (some ⟨rb, roff + j * 3 + 2, none⟩), .bool x, .agg #[.int .i64 s, .string (bsOf t), .bool x], .slice (some ⟨gb, 0, none⟩) 1 1, .slice (some ⟨g9, 0, none⟩) N c9, .pointer (some ⟨q, 1, none⟩), gb, g9, c9, (by simp only [Act.put, List.setIfInBounds_toArray, List.set_cons_zero, List.set_cons_succ]), (by simp only [Act.put, List.setIfInBounds_toArray, List.set_cons_zero, List.set_cons_succ]), hb2, (fun _ => rfl), (fun _ => rfl), (fun _ => rfl), (fun _ => rfl), (fun _ => rfl), (fun _ => rfl), (fun _ => rfl), (fun _ => rfl), (fun _ => rfl), (fun _ => rfl), (fun _ => rfl), (fun _ => rfl), (fun _ => rfl), (fun _ => rfl), (fun _ => rfl), (fun _ => rfl), (fun _ => rfl), (fun _ => rfl), (fun _ => rfl), (fun _ => rfl), (fun _ => rfl), (fun _ => rfl), (fun _ => rfl), (fun _ => rfl), (fun h => by cases h), (fun h => by cases h), ((f_ot.out).farT W_q (by decide) g8), (fun _ h => by cases h), f_q7, (fun h0 => ((f_r.out h0)).farT W_q (by decide) g8), f_ap, (fun _ => po), (fun _ => rfl), (fun _ => rfl), f_q1, (fun _ => rfl)⟩
          · rintro act V ⟨b0, b1, b2, b3, b4, b5, b6, b7, b8, b9, b10, b11, b12, b13, b14, b15, b16, b17, b18, b19, b20, b21, b22, b23, b24, x45, x46, x47, x48, x49, x50, x51, x52, x53, x54, x55, x56, x57, x58, x59, x60, x61, x62, x63, x64, x65, x66, x67, x68, gb, g9, c9, hL, rfl, hb, cd0, cd1, cd2, cd3, cd4, cd5, cd6, cd7, cd8, cd9, cd10, cd11, cd12, cd13, cd14, cd15, cd16, cd17, cd18, cd19, cd20, cd21, cd22, cd23, f_q, f_m, f_ot, f_bl, f_q7, f_r, f_ap, f_o, f_q77, f_q88, f_q1, f_q1s⟩
            have hL' : [true, true, true, true, true, true, true, true, true, true, true, true, true, true, true, true, true, true, true, true, true, true, true, true, true] = [b0, b1, b2, b3, b4, b5, b6, b7, b8, b9, b10, b11, b12, b13, b14, b15, b16, b17, b18, b19, b20, b21, b22, b23, b24] := congrArg Array.toList hL
            simp only [List.cons.injEq, and_true] at hL'
            obtain ⟨rfl, rfl, rfl, rfl, rfl, rfl, rfl, rfl, rfl, rfl, rfl, rfl, rfl, rfl, rfl, rfl, rfl, rfl, rfl, rfl, rfl, rfl, rfl, rfl, rfl⟩ := hL'
            obtain rfl := cd0.out rfl
            obtain rfl := cd1.out rfl
            obtain rfl := cd2.out rfl
            obtain rfl := cd3.out rfl
            obtain rfl := cd4.out rfl
            obtain rfl := cd5.out rfl
            obtain rfl := cd6.out rfl
            obtain rfl := cd7.out rfl
            obtain rfl := cd8.out rfl
            obtain rfl := cd9.out rfl
            obtain rfl := cd10.out rfl
            obtain rfl := cd11.out rfl
            obtain rfl := cd12.out rfl
            obtain rfl := cd13.out rfl
            obtain rfl := cd14.out rfl
            obtain rfl := cd15.out rfl
            obtain rfl := cd16.out rfl
            obtain rfl := cd17.out rfl
            obtain rfl := cd18.out rfl
            obtain rfl := cd19.out rfl
            obtain rfl := cd20.out rfl
            obtain rfl := cd21.out rfl
            obtain rfl := cd22.out rfl
            obtain rfl := cd23.out rfl
            have W_ot := f_ot.out
            have W_q7 := f_q7.out rfl
            have W_r := f_r.out rfl
            have W_ap := f_ap.out rfl
            have W_o := f_o.out rfl
            have W_q77 := f_q77.out rfl
            have W_q88 := f_q88.out rfl
            have W_q1 := f_q1.out rfl
            have W_q1s := f_q1s.out rfl
            clear hL f_q f_m f_ot f_bl f_q7 f_r f_ap f_o f_q77 f_q88 f_q1 f_q1s cd0 cd1 cd2 cd3 cd4 cd5 cd6 cd7 cd8 cd9 cd10 cd11 cd12 cd13 cd14 cd15 cd16 cd17 cd18 cd19 cd20 cd21 cd22 cd23
            simp only [List.setIfInBounds_toArray, List.set_cons_zero, List.set_cons_succ]
            have WT : RtAt V q OL (ML ++ [⟨s, t, x⟩]) := ⟨ao1, n1, c1_, some ⟨g9, 0, none⟩, N, c9, W_o, W_ot, W_r, (fun z hz e => by cases e; exact W_ap _ hz rfl)⟩
            have BV := BQ.trans (((Below.refl _ _).drew).trans hb)
            clear hb W_o W_r W_ot W_ap W_q77 W_q88 W_q7 W_q1 W_q1s
            go_wp2_with fail
            go_roundw
            case rel => exact ⟨j + 1, by omega, by go_num, by rw [hnx.out]; rw [hOLh.out] at WT; exact WT, BV⟩
            case measure => simp [intOf]; omega
        · have hlti : ¬ ((j : Int) < (wn : Int)) := by omega
          obtain rfl : j = wn := by omega
          rw [List.take_of_length_le (show WL.length ≤ j by omega)] at WT
          obtain ⟨ao1, n1, c1_, ao2, n2, c2_, XQ, T1, T2, AP0⟩ := WT
          have XR : LkB wr r none 0 0 none 0 0 99 := (BQ.block r hrq0).trans XRU
          obtain ⟨w0_, w1_⟩ := XQ.c
          obtain ⟨r0_, r1_⟩ := XR.c
          obtain ⟨f0_, f1_⟩ := XR.free
          have hB9 : p ≤ wr.heap.size := Nat.le_trans hpq' (Nat.le_of_lt XQ.lt)
          have Y := (XR.put0 ao1 n1 c1_).put1 ao2 n2 c2_
          have k1 := (T1.farT XR (by decide) (set1_grown wr r 0 (.slice ao1 n1 c1_))).farT (XR.put0 ao1 n1 c1_) (by decide) (set1_grown _ r 1 (.slice ao2 n2 c2_))
          have k2 := (T2.farT XR (by decide) (set1_grown wr r 0 (.slice ao1 n1 c1_))).farT (XR.put0 ao1 n1 c1_) (by decide) (set1_grown _ r 1 (.slice ao2 n2 c2_))
          have BZ := LkAt.below (B4.trans (BQ.mono hpq')) r hpr hB9 (.slice ao1 n1 c1_) (.slice ao2 n2 c2_)
          obtain ⟨z0_, z1_⟩ := Y.c
          clear AP0 XQ XR T1 T2
          go_wp2_with fail
          refine bodyPost_ret (v := .agg #[.slice ao1 n1 c1_, .slice ao2 n2 c2_]) (by simp [results, Try.results51, go_sem, z0_, z1_]) rfl ?_
          rw [HP.out]
          exact ⟨_, rfl, ⟨ao1, n1, c1_, ao2, n2, c2_, rfl, k1.isR, k2.isR, k1.rowO.from2 (by omega), k2.rowO.from2 (by omega)⟩, BZ⟩
end Go.Proofs.Ytllijeciodmckaa
