/-
  The document's own locks: Ask, walked (by gen_rlx.py).
-/
import Derived.Test.YtllijeciodmckaaRlX0
namespace Go.Proofs.Ytllijeciodmckaa
open Go.RowKit
set_option linter.unusedSimpArgs false
set_option maxRecDepth 100000 in
set_option maxHeartbeats 8000000 in
theorem rask_any (w : World) (ho : Option Addr) (hn hc : Nat) (wq : Option Addr) (wn wc : Nat) (H W : List Hd) (h1 : IsR EHd w ho hn hc H) (h2 : IsR EHd w wq wn wc W) (hl1 : hn ≤ 10000) (hl2 : wn ≤ 10000) (hApt : Hid (Apt H)) (h : Hd) :
    Calls Try.prog 56 #[.agg #[.slice ho hn hc, .slice wq wn wc], h.val] w fun e w' => RAskPost w ho hn (askH H h) (askW H W h) (askB H h) e w' := by
  have X0 := LkB.new w ho hn hc wq wn wc 99
  have B0 : Below w.heap.size w (w.alloc (.cells #[.slice ho hn hc, .slice wq wn wc] 99)) := (Below.refl _ _).alloc (Nat.le_refl _) _
  have b1 : Below (w.alloc (.cells #[.slice ho hn hc, .slice wq wn wc] 99)).heap.size _ ((w.alloc (.cells #[.slice ho hn hc, .slice wq wn wc] 99)).alloc (.cells #[.int .i64 h.s, .string (bsOf h.t), .bool h.x] 112)) := (Below.refl _ _).alloc (Nat.le_refl _) _
  have Z0 := HdB.new (w.alloc (.cells #[.slice ho hn hc, .slice wq wn wc] 99)) h 112
  replace X0 := X0.past b1
  replace B0 := B0.trans (b1.mono B0.size)
  rw [World.size_alloc] at Z0
  have hlH := h1.len
  have hlW := h2.len
  obtain ⟨A1, hA1⟩ : ∃ z_, z_ = askH H h := ⟨_, rfl⟩
  obtain ⟨A2, hA2⟩ : ∃ z_, z_ = askW H W h := ⟨_, rfl⟩
  obtain ⟨A3, hA3⟩ : ∃ z_, z_ = askB H h := ⟨_, rfl⟩
  rw [← hA1, ← hA2, ← hA3]
  have hR := Lib.hid (And.intro hA1 (And.intro hA2 hA3))
  clear hA1 hA2 hA3
  obtain ⟨s, t, x⟩ := h
  unfold Hd.val
  simp only at Z0 X0 B0 ⊢
  clear b1
  go_enter Try.func56, Try.ntmps56
  go_upto_region 1 with fail
  have T0 := LkB.new ((w.alloc (.cells #[.slice ho hn hc, .slice wq wn wc] 99)).alloc (.cells #[.int .i64 s, .string (bsOf t), .bool x] 112)) none 0 0 none 0 0 99
  have b2 : Below ((w.alloc (.cells #[.slice ho hn hc, .slice wq wn wc] 99)).alloc (.cells #[.int .i64 s, .string (bsOf t), .bool x] 112)).heap.size _ (((w.alloc (.cells #[.slice ho hn hc, .slice wq wn wc] 99)).alloc (.cells #[.int .i64 s, .string (bsOf t), .bool x] 112)).alloc (.cells #[.slice none 0 0, .slice none 0 0] 99)) := (Below.refl _ _).alloc (Nat.le_refl _) _
  replace X0 := X0.past b2
  replace Z0 := Z0.past b2
  replace B0 := B0.trans (b2.mono B0.size)
  rw [World.size_alloc, World.size_alloc] at T0
  clear b2
  generalize ((w.alloc (.cells #[.slice ho hn hc, .slice wq wn wc] 99)).alloc (.cells #[.int .i64 s, .string (bsOf t), .bool x] 112)).alloc (.cells #[.slice none 0 0, .slice none 0 0] 99) = U at X0 Z0 T0 B0 ⊢
  have hU1 := h1.past B0
  obtain ⟨p, hp⟩ : ∃ p, w.heap.size = p := ⟨_, rfl⟩
  have HP := Lib.hid hp
  rw [hp] at X0 B0 Z0 T0
  simp only [hp]
  clear hp
  obtain ⟨r, hr⟩ : ∃ r, p + 1 = r := ⟨_, rfl⟩
  rw [hr] at Z0 T0
  simp only [hr]
  obtain ⟨g, hg⟩ : ∃ g, r + 1 = g := ⟨_, rfl⟩
  rw [hg] at T0
  simp only [hg]
  have hpg : p ≠ g := by omega
  have hpr : p ≠ r := by omega
  have hrg : r ≠ g := by omega
  have hpr2 : p ≤ r := by omega
  have hpg2 : p ≤ g := by omega
  clear hr hg
  have BU0 : Below U.heap.size U U := Below.refl _ _
  go_wp2_with fail
  go_loopw [6, 7, 8] (fun zo zf zi wr => ∃ (o : Int) (fr : Bool) (i : Nat), zo = .int .i64 o ∧ zf = .bool fr ∧ zi = .int .i64 (i : Nat) ∧ i ≤ hn ∧ Hid (At (H.take i) ⟨s, t, x⟩ o) ∧ Hid (fr = (H.take i).all (fun k => !clash k ⟨s, t, x⟩)) ∧ Below U.heap.size U wr) (fun _ _ zi _ => hn - (intOf zi).toNat)
  case atStart => exact ⟨-1, true, 0, rfl, rfl, rfl, by omega, Lib.hid (.inl ⟨rfl, by simp⟩), Lib.hid (by simp), BU0⟩
  case round =>
    clear BU0
    obtain ⟨o, fr, i, rfl, rfl, rfl, hi, hA, hF, BU⟩ := hrel
    obtain ⟨c0, c1⟩ := (X0.past BU).c
    by_cases hlt : i < hn
    · have hlti : (i : Int) < (hn : Int) := by omega
      obtain ⟨y, hy⟩ : ∃ v, H[i]? = some v := ⟨H[i]'(by omega), List.getElem?_eq_getElem _⟩
      obtain ⟨rb, roff, rfl, hrb, hrc⟩ := hU1.open (by omega) (by decide)
      obtain ⟨yu0, yu1, yu2⟩ := cells_hd hrc i y hy
      have hyh := Lib.hid hy
      clear hrc hy
      obtain ⟨ys, yt, yx⟩ := y
      simp only at yu0 yu1 yu2
      have HC := fun w' => ragainst_any w' ⟨ys, yt, yx⟩ ⟨s, t, x⟩
      obtain ⟨cl, hcl⟩ : ∃ cl, clash ⟨ys, yt, yx⟩ ⟨s, t, x⟩ = cl := ⟨_, rfl⟩
      simp only [hcl] at HC
      have hclh := Lib.hid hcl
      clear hcl
      unfold Hd.val at HC
      simp only at HC
      go_upto_region 6 with fail
      generalize wr = W7 at BU ⊢
      obtain ⟨c0_, c1_⟩ := (X0.past BU).c
      obtain ⟨z0_, z1_, z2_⟩ := (Z0.past BU).c
      simp only at z0_ z1_ z2_
      have y0_ := (BU.cell (show (⟨rb, roff + i * 3, none⟩ : Addr).block < U.heap.size from hrb)).trans yu0
      have y1_ := (BU.cell (show (⟨rb, roff + i * 3 + 1, none⟩ : Addr).block < U.heap.size from hrb)).trans yu1
      have y2_ := (BU.cell (show (⟨rb, roff + i * 3 + 2, none⟩ : Addr).block < U.heap.size from hrb)).trans yu2
      have hpB := Nat.lt_of_lt_of_le X0.lt BU.size
      have hrB := Nat.lt_of_lt_of_le Z0.lt BU.size
      have hbB := Nat.lt_of_lt_of_le hrb BU.size
      have hB0 : W7.heap.size ≤ W7.heap.size := Nat.le_refl _
      by_cases q1 : s = ys
      · subst q1
        have f0 : (s == s) = true := by simp
        by_cases q2 : t = yt
        · subst q2
          have f1 : ((bsOf t).toList == (bsOf t).toList) = true := by simp
          have hA2 := Lib.hid (At.hit (h := ⟨s, t, x⟩) hyh.out rfl rfl)
          clear hA
          refine region_inv (Ask6B W7.heap.size p r rb roff hn hc i s t) (by kernel_rfl) (by kernel_rfl) ?_ ?_ ?_
          · exact ⟨false, false, false, false, false, false, false, false, false, false, false, false, false, false, false, false, false, false, false, false, u17, u18, u19, u20, u21, u22, u23, u24, u25, u26, u27, u28, u29, u30, u31, u32, u33, u34, u35, u36, rfl, (by simp only [Act.put, List.setIfInBounds_toArray, List.set_cons_zero, List.set_cons_succ]), Below.refl _ _, (fun h => by cases h), (fun h => by cases h), (fun h => by cases h), (fun h => by cases h), (fun h => by cases h), (fun h => by cases h), (fun h => by cases h), (fun h => by cases h), (fun h => by cases h), (fun h => by cases h), (fun h => by cases h), (fun h => by cases h), (fun h => by cases h), (fun h => by cases h), (fun h => by cases h), (fun h => by cases h), (fun h => by cases h), (fun h => by cases h), (fun h => by cases h), (fun h => by cases h)⟩
          · refine ⟨?_, ?_, ?_, ?_, ?_, ?_, ?_, ?_, ?_, ?_, ?_, ?_, ?_, ?_, ?_, ?_, ?_, ?_, ?_, ?_, trivial⟩
            · rintro L a w ⟨b0, b1, b2, b3, b4, b5, b6, b7, b8, b9, b10, b11, b12, b13, b14, b15, b16, b17, b18, b19, x17, x18, x19, x20, x21, x22, x23, x24, x25, x26, x27, x28, x29, x30, x31, x32, x33, x34, x35, x36, rfl, rfl, hb, cd0, cd1, cd2, cd3, cd4, cd5, cd6, cd7, cd8, cd9, cd10, cd11, cd12, cd13, cd14, cd15, cd16, cd17, cd18, cd19⟩ hf hd
              have hf' : b0 = false := hf
              subst hf'
              clear hf hd
              try simp only [List.setIfInBounds_toArray, List.set_cons_zero, List.set_cons_succ]
              intro K hK
              rw [if_pos (by rfl)]
              go_simp
              exact hK.out _ _ ⟨true, b1, b2, b3, b4, b5, b6, b7, b8, b9, b10, b11, b12, b13, b14, b15, b16, b17, b18, b19, (.pointer (some ⟨p, 0, none⟩)), x18, x19, x20, x21, x22, x23, x24, x25, x26, x27, x28, x29, x30, x31, x32, x33, x34, x35, x36, (by simp only [Act.put, List.setIfInBounds_toArray, List.set_cons_zero, List.set_cons_succ]), (by simp only [Act.put, List.setIfInBounds_toArray, List.set_cons_zero, List.set_cons_succ]), hb, (fun _ => rfl), cd1, cd2, cd3, cd4, cd5, cd6, cd7, cd8, cd9, cd10, cd11, cd12, cd13, cd14, cd15, cd16, cd17, cd18, cd19⟩
            · rintro L a w ⟨b0, b1, b2, b3, b4, b5, b6, b7, b8, b9, b10, b11, b12, b13, b14, b15, b16, b17, b18, b19, x17, x18, x19, x20, x21, x22, x23, x24, x25, x26, x27, x28, x29, x30, x31, x32, x33, x34, x35, x36, rfl, rfl, hb, cd0, cd1, cd2, cd3, cd4, cd5, cd6, cd7, cd8, cd9, cd10, cd11, cd12, cd13, cd14, cd15, cd16, cd17, cd18, cd19⟩ hf hd
              have hf' : b1 = false := hf
              subst hf'
              have d0 : b0 = true := hd ⟨0, .data⟩ (by simp) rfl
              subst d0
              obtain rfl := cd0.out rfl
              clear hf hd
              try simp only [List.setIfInBounds_toArray, List.set_cons_zero, List.set_cons_succ]
              have z0 := (hb.cell hpB).trans c0_
              intro K hK
              rw [if_pos (by rfl)]
              go_simp
              exact hK.out _ _ ⟨true, true, b2, b3, b4, b5, b6, b7, b8, b9, b10, b11, b12, b13, b14, b15, b16, b17, b18, b19, .pointer (some ⟨p, 0, none⟩), (.slice (some ⟨rb, roff, none⟩) hn hc), x19, x20, x21, x22, x23, x24, x25, x26, x27, x28, x29, x30, x31, x32, x33, x34, x35, x36, (by simp only [Act.put, List.setIfInBounds_toArray, List.set_cons_zero, List.set_cons_succ]), (by simp only [Act.put, List.setIfInBounds_toArray, List.set_cons_zero, List.set_cons_succ]), hb, (fun _ => rfl), (fun _ => rfl), cd2, cd3, cd4, cd5, cd6, cd7, cd8, cd9, cd10, cd11, cd12, cd13, cd14, cd15, cd16, cd17, cd18, cd19⟩
            · rintro L a w ⟨b0, b1, b2, b3, b4, b5, b6, b7, b8, b9, b10, b11, b12, b13, b14, b15, b16, b17, b18, b19, x17, x18, x19, x20, x21, x22, x23, x24, x25, x26, x27, x28, x29, x30, x31, x32, x33, x34, x35, x36, rfl, rfl, hb, cd0, cd1, cd2, cd3, cd4, cd5, cd6, cd7, cd8, cd9, cd10, cd11, cd12, cd13, cd14, cd15, cd16, cd17, cd18, cd19⟩ hf hd
              have hf' : b2 = false := hf
              subst hf'
              clear hf hd
              try simp only [List.setIfInBounds_toArray, List.set_cons_zero, List.set_cons_succ]
              intro K hK
              rw [if_pos (by rfl)]
              go_simp
              exact hK.out _ _ ⟨b0, b1, true, b3, b4, b5, b6, b7, b8, b9, b10, b11, b12, b13, b14, b15, b16, b17, b18, b19, x17, x18, (.int .i64 (i : Nat)), x20, x21, x22, x23, x24, x25, x26, x27, x28, x29, x30, x31, x32, x33, x34, x35, x36, (by simp only [Act.put, List.setIfInBounds_toArray, List.set_cons_zero, List.set_cons_succ]), (by simp only [Act.put, List.setIfInBounds_toArray, List.set_cons_zero, List.set_cons_succ]), hb, cd0, cd1, (fun _ => rfl), cd3, cd4, cd5, cd6, cd7, cd8, cd9, cd10, cd11, cd12, cd13, cd14, cd15, cd16, cd17, cd18, cd19⟩
            · rintro L a w ⟨b0, b1, b2, b3, b4, b5, b6, b7, b8, b9, b10, b11, b12, b13, b14, b15, b16, b17, b18, b19, x17, x18, x19, x20, x21, x22, x23, x24, x25, x26, x27, x28, x29, x30, x31, x32, x33, x34, x35, x36, rfl, rfl, hb, cd0, cd1, cd2, cd3, cd4, cd5, cd6, cd7, cd8, cd9, cd10, cd11, cd12, cd13, cd14, cd15, cd16, cd17, cd18, cd19⟩ hf hd
              have hf' : b3 = false := hf
              subst hf'
              have d1 : b1 = true := hd ⟨1, .data⟩ (by simp) rfl
              subst d1
              have d2 : b2 = true := hd ⟨2, .data⟩ (by simp) rfl
              subst d2
              obtain rfl := cd1.out rfl
              obtain rfl := cd2.out rfl
              clear hf hd
              try simp only [List.setIfInBounds_toArray, List.set_cons_zero, List.set_cons_succ]
              intro K hK
              rw [if_pos (by rfl)]
              go_simp
              exact hK.out _ _ ⟨b0, true, true, true, b4, b5, b6, b7, b8, b9, b10, b11, b12, b13, b14, b15, b16, b17, b18, b19, x17, .slice (some ⟨rb, roff, none⟩) hn hc, .int .i64 (i : Nat), (.pointer (some ⟨rb, roff + i * 3, none⟩)), x21, x22, x23, x24, x25, x26, x27, x28, x29, x30, x31, x32, x33, x34, x35, x36, (by simp only [Act.put, List.setIfInBounds_toArray, List.set_cons_zero, List.set_cons_succ]), (by simp only [Act.put, List.setIfInBounds_toArray, List.set_cons_zero, List.set_cons_succ]), hb, cd0, (fun _ => rfl), (fun _ => rfl), (fun _ => rfl), cd4, cd5, cd6, cd7, cd8, cd9, cd10, cd11, cd12, cd13, cd14, cd15, cd16, cd17, cd18, cd19⟩
            · rintro L a w ⟨b0, b1, b2, b3, b4, b5, b6, b7, b8, b9, b10, b11, b12, b13, b14, b15, b16, b17, b18, b19, x17, x18, x19, x20, x21, x22, x23, x24, x25, x26, x27, x28, x29, x30, x31, x32, x33, x34, x35, x36, rfl, rfl, hb, cd0, cd1, cd2, cd3, cd4, cd5, cd6, cd7, cd8, cd9, cd10, cd11, cd12, cd13, cd14, cd15, cd16, cd17, cd18, cd19⟩ hf hd
              have hf' : b4 = false := hf
              subst hf'
              have d3 : b3 = true := hd ⟨3, .data⟩ (by simp) rfl
              subst d3
              obtain rfl := cd3.out rfl
              clear hf hd
              try simp only [List.setIfInBounds_toArray, List.set_cons_zero, List.set_cons_succ]
              intro K hK
              rw [if_pos (by rfl)]
              go_simp
              exact hK.out _ _ ⟨b0, b1, b2, true, true, b5, b6, b7, b8, b9, b10, b11, b12, b13, b14, b15, b16, b17, b18, b19, x17, x18, x19, .pointer (some ⟨rb, roff + i * 3, none⟩), (.pointer (some ⟨rb, roff + i * 3, none⟩)), x22, x23, x24, x25, x26, x27, x28, x29, x30, x31, x32, x33, x34, x35, x36, (by simp only [Act.put, List.setIfInBounds_toArray, List.set_cons_zero, List.set_cons_succ]), (by simp only [Act.put, List.setIfInBounds_toArray, List.set_cons_zero, List.set_cons_succ]), hb, cd0, cd1, cd2, (fun _ => rfl), (fun _ => rfl), cd5, cd6, cd7, cd8, cd9, cd10, cd11, cd12, cd13, cd14, cd15, cd16, cd17, cd18, cd19⟩
            · rintro L a w ⟨b0, b1, b2, b3, b4, b5, b6, b7, b8, b9, b10, b11, b12, b13, b14, b15, b16, b17, b18, b19, x17, x18, x19, x20, x21, x22, x23, x24, x25, x26, x27, x28, x29, x30, x31, x32, x33, x34, x35, x36, rfl, rfl, hb, cd0, cd1, cd2, cd3, cd4, cd5, cd6, cd7, cd8, cd9, cd10, cd11, cd12, cd13, cd14, cd15, cd16, cd17, cd18, cd19⟩ hf hd
              have hf' : b5 = false := hf
              subst hf'
              have d4 : b4 = true := hd ⟨4, .data⟩ (by simp) rfl
              subst d4
              obtain rfl := cd4.out rfl
              clear hf hd
              try simp only [List.setIfInBounds_toArray, List.set_cons_zero, List.set_cons_succ]
              have z0 := (hb.cell hbB).trans y0_
              intro K hK
              rw [if_pos (by rfl)]
              go_simp
              exact hK.out _ _ ⟨b0, b1, b2, b3, true, true, b6, b7, b8, b9, b10, b11, b12, b13, b14, b15, b16, b17, b18, b19, x17, x18, x19, x20, .pointer (some ⟨rb, roff + i * 3, none⟩), (.int .i64 s), x23, x24, x25, x26, x27, x28, x29, x30, x31, x32, x33, x34, x35, x36, (by simp only [Act.put, List.setIfInBounds_toArray, List.set_cons_zero, List.set_cons_succ]), (by simp only [Act.put, List.setIfInBounds_toArray, List.set_cons_zero, List.set_cons_succ]), hb, cd0, cd1, cd2, cd3, (fun _ => rfl), (fun _ => rfl), cd6, cd7, cd8, cd9, cd10, cd11, cd12, cd13, cd14, cd15, cd16, cd17, cd18, cd19⟩
            · rintro L a w ⟨b0, b1, b2, b3, b4, b5, b6, b7, b8, b9, b10, b11, b12, b13, b14, b15, b16, b17, b18, b19, x17, x18, x19, x20, x21, x22, x23, x24, x25, x26, x27, x28, x29, x30, x31, x32, x33, x34, x35, x36, rfl, rfl, hb, cd0, cd1, cd2, cd3, cd4, cd5, cd6, cd7, cd8, cd9, cd10, cd11, cd12, cd13, cd14, cd15, cd16, cd17, cd18, cd19⟩ hf hd
              have hf' : b6 = false := hf
              subst hf'
              clear hf hd
              try simp only [List.setIfInBounds_toArray, List.set_cons_zero, List.set_cons_succ]
              intro K hK
              rw [if_pos (by rfl)]
              go_simp
              exact hK.out _ _ ⟨b0, b1, b2, b3, b4, b5, true, b7, b8, b9, b10, b11, b12, b13, b14, b15, b16, b17, b18, b19, x17, x18, x19, x20, x21, x22, (.pointer (some ⟨r, 0, none⟩)), x24, x25, x26, x27, x28, x29, x30, x31, x32, x33, x34, x35, x36, (by simp only [Act.put, List.setIfInBounds_toArray, List.set_cons_zero, List.set_cons_succ]), (by simp only [Act.put, List.setIfInBounds_toArray, List.set_cons_zero, List.set_cons_succ]), hb, cd0, cd1, cd2, cd3, cd4, cd5, (fun _ => rfl), cd7, cd8, cd9, cd10, cd11, cd12, cd13, cd14, cd15, cd16, cd17, cd18, cd19⟩
            · rintro L a w ⟨b0, b1, b2, b3, b4, b5, b6, b7, b8, b9, b10, b11, b12, b13, b14, b15, b16, b17, b18, b19, x17, x18, x19, x20, x21, x22, x23, x24, x25, x26, x27, x28, x29, x30, x31, x32, x33, x34, x35, x36, rfl, rfl, hb, cd0, cd1, cd2, cd3, cd4, cd5, cd6, cd7, cd8, cd9, cd10, cd11, cd12, cd13, cd14, cd15, cd16, cd17, cd18, cd19⟩ hf hd
              have hf' : b7 = false := hf
              subst hf'
              have d6 : b6 = true := hd ⟨6, .data⟩ (by simp) rfl
              subst d6
              obtain rfl := cd6.out rfl
              clear hf hd
              try simp only [List.setIfInBounds_toArray, List.set_cons_zero, List.set_cons_succ]
              have z0 := (hb.cell hrB).trans z0_
              intro K hK
              rw [if_pos (by rfl)]
              go_simp
              exact hK.out _ _ ⟨b0, b1, b2, b3, b4, b5, true, true, b8, b9, b10, b11, b12, b13, b14, b15, b16, b17, b18, b19, x17, x18, x19, x20, x21, x22, .pointer (some ⟨r, 0, none⟩), (.int .i64 s), x25, x26, x27, x28, x29, x30, x31, x32, x33, x34, x35, x36, (by simp only [Act.put, List.setIfInBounds_toArray, List.set_cons_zero, List.set_cons_succ]), (by simp only [Act.put, List.setIfInBounds_toArray, List.set_cons_zero, List.set_cons_succ]), hb, cd0, cd1, cd2, cd3, cd4, cd5, (fun _ => rfl), (fun _ => rfl), cd8, cd9, cd10, cd11, cd12, cd13, cd14, cd15, cd16, cd17, cd18, cd19⟩
            · rintro L a w ⟨b0, b1, b2, b3, b4, b5, b6, b7, b8, b9, b10, b11, b12, b13, b14, b15, b16, b17, b18, b19, x17, x18, x19, x20, x21, x22, x23, x24, x25, x26, x27, x28, x29, x30, x31, x32, x33, x34, x35, x36, rfl, rfl, hb, cd0, cd1, cd2, cd3, cd4, cd5, cd6, cd7, cd8, cd9, cd10, cd11, cd12, cd13, cd14, cd15, cd16, cd17, cd18, cd19⟩ hf hd
              have hf' : b8 = false := hf
              subst hf'
              have d5 : b5 = true := hd ⟨5, .data⟩ (by simp) rfl
              subst d5
              have d7 : b7 = true := hd ⟨7, .data⟩ (by simp) rfl
              subst d7
              obtain rfl := cd5.out rfl
              obtain rfl := cd7.out rfl
              clear hf hd
              try simp only [List.setIfInBounds_toArray, List.set_cons_zero, List.set_cons_succ]
              intro K hK
              rw [if_pos (by rfl)]
              go_simp
              exact hK.out _ _ ⟨b0, b1, b2, b3, b4, true, b6, true, true, b9, b10, b11, b12, b13, b14, b15, b16, b17, b18, b19, x17, x18, x19, x20, x21, .int .i64 s, x23, .int .i64 s, (.bool true), x26, x27, x28, x29, x30, x31, x32, x33, x34, x35, x36, (by simp only [Act.put, List.setIfInBounds_toArray, List.set_cons_zero, List.set_cons_succ]), (by simp only [Act.put, List.setIfInBounds_toArray, List.set_cons_zero, List.set_cons_succ]), hb, cd0, cd1, cd2, cd3, cd4, (fun _ => rfl), cd6, (fun _ => rfl), (fun _ => rfl), cd9, cd10, cd11, cd12, cd13, cd14, cd15, cd16, cd17, cd18, cd19⟩
            · rintro L a w ⟨b0, b1, b2, b3, b4, b5, b6, b7, b8, b9, b10, b11, b12, b13, b14, b15, b16, b17, b18, b19, x17, x18, x19, x20, x21, x22, x23, x24, x25, x26, x27, x28, x29, x30, x31, x32, x33, x34, x35, x36, rfl, rfl, hb, cd0, cd1, cd2, cd3, cd4, cd5, cd6, cd7, cd8, cd9, cd10, cd11, cd12, cd13, cd14, cd15, cd16, cd17, cd18, cd19⟩ hf hd
              have hf' : b9 = false := hf
              subst hf'
              have d8 : b8 = true := hd ⟨8, .data⟩ (by simp) rfl
              subst d8
              obtain rfl := cd8.out rfl
              clear hf hd
              try simp only [List.setIfInBounds_toArray, List.set_cons_zero, List.set_cons_succ]
              intro K hK
              rw [if_pos (by rfl)]
              go_simp
              exact hK.out _ _ ⟨b0, b1, b2, b3, b4, b5, b6, b7, true, true, b10, b11, b12, b13, b14, b15, b16, b17, b18, b19, x17, x18, x19, x20, x21, x22, x23, x24, .bool true, (.bool true), x27, x28, x29, x30, x31, x32, x33, x34, x35, x36, (by simp only [Act.put, List.setIfInBounds_toArray, List.set_cons_zero, List.set_cons_succ]), (by simp only [Act.put, List.setIfInBounds_toArray, List.set_cons_zero, List.set_cons_succ]), hb, cd0, cd1, cd2, cd3, cd4, cd5, cd6, cd7, (fun _ => rfl), (fun _ => rfl), cd10, cd11, cd12, cd13, cd14, cd15, cd16, cd17, cd18, cd19⟩
            · rintro L a w ⟨b0, b1, b2, b3, b4, b5, b6, b7, b8, b9, b10, b11, b12, b13, b14, b15, b16, b17, b18, b19, x17, x18, x19, x20, x21, x22, x23, x24, x25, x26, x27, x28, x29, x30, x31, x32, x33, x34, x35, x36, rfl, rfl, hb, cd0, cd1, cd2, cd3, cd4, cd5, cd6, cd7, cd8, cd9, cd10, cd11, cd12, cd13, cd14, cd15, cd16, cd17, cd18, cd19⟩ hf hd
              have hf' : b10 = false := hf
              subst hf'
              have d9 : b9 = true := hd ⟨9, .guard⟩ (by simp) rfl
              subst d9
              obtain rfl := cd9.out rfl
              clear hf hd
              try simp only [List.setIfInBounds_toArray, List.set_cons_zero, List.set_cons_succ]
              intro K hK
              rw [if_pos (by rfl)]
              go_simp
              exact hK.out _ _ ⟨b0, b1, b2, b3, b4, b5, b6, b7, b8, true, true, b11, b12, b13, b14, b15, b16, b17, b18, b19, x17, x18, x19, x20, x21, x22, x23, x24, x25, .bool true, (.pointer (some ⟨p, 0, none⟩)), x28, x29, x30, x31, x32, x33, x34, x35, x36, (by simp only [Act.put, List.setIfInBounds_toArray, List.set_cons_zero, List.set_cons_succ]), (by simp only [Act.put, List.setIfInBounds_toArray, List.set_cons_zero, List.set_cons_succ]), hb, cd0, cd1, cd2, cd3, cd4, cd5, cd6, cd7, cd8, (fun _ => rfl), (fun _ => rfl), cd11, cd12, cd13, cd14, cd15, cd16, cd17, cd18, cd19⟩
            · rintro L a w ⟨b0, b1, b2, b3, b4, b5, b6, b7, b8, b9, b10, b11, b12, b13, b14, b15, b16, b17, b18, b19, x17, x18, x19, x20, x21, x22, x23, x24, x25, x26, x27, x28, x29, x30, x31, x32, x33, x34, x35, x36, rfl, rfl, hb, cd0, cd1, cd2, cd3, cd4, cd5, cd6, cd7, cd8, cd9, cd10, cd11, cd12, cd13, cd14, cd15, cd16, cd17, cd18, cd19⟩ hf hd
              have hf' : b11 = false := hf
              subst hf'
              have d10 : b10 = true := hd ⟨10, .data⟩ (by simp) rfl
              subst d10
              have d9 : b9 = true := hd ⟨9, .guard⟩ (by simp) rfl
              subst d9
              obtain rfl := cd10.out rfl
              obtain rfl := cd9.out rfl
              clear hf hd
              try simp only [List.setIfInBounds_toArray, List.set_cons_zero, List.set_cons_succ]
              have z0 := (hb.cell hpB).trans c0_
              intro K hK
              rw [if_pos (by rfl)]
              go_simp
              exact hK.out _ _ ⟨b0, b1, b2, b3, b4, b5, b6, b7, b8, true, true, true, b12, b13, b14, b15, b16, b17, b18, b19, x17, x18, x19, x20, x21, x22, x23, x24, x25, .bool true, .pointer (some ⟨p, 0, none⟩), (.slice (some ⟨rb, roff, none⟩) hn hc), x29, x30, x31, x32, x33, x34, x35, x36, (by simp only [Act.put, List.setIfInBounds_toArray, List.set_cons_zero, List.set_cons_succ]), (by simp only [Act.put, List.setIfInBounds_toArray, List.set_cons_zero, List.set_cons_succ]), hb, cd0, cd1, cd2, cd3, cd4, cd5, cd6, cd7, cd8, (fun _ => rfl), (fun _ => rfl), (fun _ => rfl), cd12, cd13, cd14, cd15, cd16, cd17, cd18, cd19⟩
            · rintro L a w ⟨b0, b1, b2, b3, b4, b5, b6, b7, b8, b9, b10, b11, b12, b13, b14, b15, b16, b17, b18, b19, x17, x18, x19, x20, x21, x22, x23, x24, x25, x26, x27, x28, x29, x30, x31, x32, x33, x34, x35, x36, rfl, rfl, hb, cd0, cd1, cd2, cd3, cd4, cd5, cd6, cd7, cd8, cd9, cd10, cd11, cd12, cd13, cd14, cd15, cd16, cd17, cd18, cd19⟩ hf hd
              have hf' : b12 = false := hf
              subst hf'
              have d9 : b9 = true := hd ⟨9, .guard⟩ (by simp) rfl
              subst d9
              obtain rfl := cd9.out rfl
              clear hf hd
              try simp only [List.setIfInBounds_toArray, List.set_cons_zero, List.set_cons_succ]
              intro K hK
              rw [if_pos (by rfl)]
              go_simp
              exact hK.out _ _ ⟨b0, b1, b2, b3, b4, b5, b6, b7, b8, true, b10, b11, true, b13, b14, b15, b16, b17, b18, b19, x17, x18, x19, x20, x21, x22, x23, x24, x25, .bool true, x27, x28, (.int .i64 (i : Nat)), x30, x31, x32, x33, x34, x35, x36, (by simp only [Act.put, List.setIfInBounds_toArray, List.set_cons_zero, List.set_cons_succ]), (by simp only [Act.put, List.setIfInBounds_toArray, List.set_cons_zero, List.set_cons_succ]), hb, cd0, cd1, cd2, cd3, cd4, cd5, cd6, cd7, cd8, (fun _ => rfl), cd10, cd11, (fun _ => rfl), cd13, cd14, cd15, cd16, cd17, cd18, cd19⟩
            · rintro L a w ⟨b0, b1, b2, b3, b4, b5, b6, b7, b8, b9, b10, b11, b12, b13, b14, b15, b16, b17, b18, b19, x17, x18, x19, x20, x21, x22, x23, x24, x25, x26, x27, x28, x29, x30, x31, x32, x33, x34, x35, x36, rfl, rfl, hb, cd0, cd1, cd2, cd3, cd4, cd5, cd6, cd7, cd8, cd9, cd10, cd11, cd12, cd13, cd14, cd15, cd16, cd17, cd18, cd19⟩ hf hd
              have hf' : b13 = false := hf
              subst hf'
              have d11 : b11 = true := hd ⟨11, .data⟩ (by simp) rfl
              subst d11
              have d12 : b12 = true := hd ⟨12, .data⟩ (by simp) rfl
              subst d12
              have d9 : b9 = true := hd ⟨9, .guard⟩ (by simp) rfl
              subst d9
              obtain rfl := cd11.out rfl
              obtain rfl := cd12.out rfl
              obtain rfl := cd9.out rfl
              clear hf hd
              try simp only [List.setIfInBounds_toArray, List.set_cons_zero, List.set_cons_succ]
              intro K hK
              rw [if_pos (by rfl)]
              go_simp
              exact hK.out _ _ ⟨b0, b1, b2, b3, b4, b5, b6, b7, b8, true, b10, true, true, true, b14, b15, b16, b17, b18, b19, x17, x18, x19, x20, x21, x22, x23, x24, x25, .bool true, x27, .slice (some ⟨rb, roff, none⟩) hn hc, .int .i64 (i : Nat), (.pointer (some ⟨rb, roff + i * 3, none⟩)), x31, x32, x33, x34, x35, x36, (by simp only [Act.put, List.setIfInBounds_toArray, List.set_cons_zero, List.set_cons_succ]), (by simp only [Act.put, List.setIfInBounds_toArray, List.set_cons_zero, List.set_cons_succ]), hb, cd0, cd1, cd2, cd3, cd4, cd5, cd6, cd7, cd8, (fun _ => rfl), cd10, (fun _ => rfl), (fun _ => rfl), (fun _ => rfl), cd14, cd15, cd16, cd17, cd18, cd19⟩
            · rintro L a w ⟨b0, b1, b2, b3, b4, b5, b6, b7, b8, b9, b10, b11, b12, b13, b14, b15, b16, b17, b18, b19, x17, x18, x19, x20, x21, x22, x23, x24, x25, x26, x27, x28, x29, x30, x31, x32, x33, x34, x35, x36, rfl, rfl, hb, cd0, cd1, cd2, cd3, cd4, cd5, cd6, cd7, cd8, cd9, cd10, cd11, cd12, cd13, cd14, cd15, cd16, cd17, cd18, cd19⟩ hf hd
              have hf' : b14 = false := hf
              subst hf'
              have d13 : b13 = true := hd ⟨13, .data⟩ (by simp) rfl
              subst d13
              have d9 : b9 = true := hd ⟨9, .guard⟩ (by simp) rfl
              subst d9
              obtain rfl := cd13.out rfl
              obtain rfl := cd9.out rfl
              clear hf hd
              try simp only [List.setIfInBounds_toArray, List.set_cons_zero, List.set_cons_succ]
              intro K hK
              rw [if_pos (by rfl)]
              go_simp
              exact hK.out _ _ ⟨b0, b1, b2, b3, b4, b5, b6, b7, b8, true, b10, b11, b12, true, true, b15, b16, b17, b18, b19, x17, x18, x19, x20, x21, x22, x23, x24, x25, .bool true, x27, x28, x29, .pointer (some ⟨rb, roff + i * 3, none⟩), (.pointer (some ⟨rb, roff + i * 3 + 1, none⟩)), x32, x33, x34, x35, x36, (by simp only [Act.put, List.setIfInBounds_toArray, List.set_cons_zero, List.set_cons_succ]), (by simp only [Act.put, List.setIfInBounds_toArray, List.set_cons_zero, List.set_cons_succ]), hb, cd0, cd1, cd2, cd3, cd4, cd5, cd6, cd7, cd8, (fun _ => rfl), cd10, cd11, cd12, (fun _ => rfl), (fun _ => rfl), cd15, cd16, cd17, cd18, cd19⟩
            · rintro L a w ⟨b0, b1, b2, b3, b4, b5, b6, b7, b8, b9, b10, b11, b12, b13, b14, b15, b16, b17, b18, b19, x17, x18, x19, x20, x21, x22, x23, x24, x25, x26, x27, x28, x29, x30, x31, x32, x33, x34, x35, x36, rfl, rfl, hb, cd0, cd1, cd2, cd3, cd4, cd5, cd6, cd7, cd8, cd9, cd10, cd11, cd12, cd13, cd14, cd15, cd16, cd17, cd18, cd19⟩ hf hd
              have hf' : b15 = false := hf
              subst hf'
              have d14 : b14 = true := hd ⟨14, .data⟩ (by simp) rfl
              subst d14
              have d9 : b9 = true := hd ⟨9, .guard⟩ (by simp) rfl
              subst d9
              obtain rfl := cd14.out rfl
              obtain rfl := cd9.out rfl
              clear hf hd
              try simp only [List.setIfInBounds_toArray, List.set_cons_zero, List.set_cons_succ]
              have z0 := (hb.cell hbB).trans y1_
              intro K hK
              rw [if_pos (by rfl)]
              go_simp
              exact hK.out _ _ ⟨b0, b1, b2, b3, b4, b5, b6, b7, b8, true, b10, b11, b12, b13, true, true, b16, b17, b18, b19, x17, x18, x19, x20, x21, x22, x23, x24, x25, .bool true, x27, x28, x29, x30, .pointer (some ⟨rb, roff + i * 3 + 1, none⟩), (.string (bsOf t)), x33, x34, x35, x36, (by simp only [Act.put, List.setIfInBounds_toArray, List.set_cons_zero, List.set_cons_succ]), (by simp only [Act.put, List.setIfInBounds_toArray, List.set_cons_zero, List.set_cons_succ]), hb, cd0, cd1, cd2, cd3, cd4, cd5, cd6, cd7, cd8, (fun _ => rfl), cd10, cd11, cd12, cd13, (fun _ => rfl), (fun _ => rfl), cd16, cd17, cd18, cd19⟩
            · rintro L a w ⟨b0, b1, b2, b3, b4, b5, b6, b7, b8, b9, b10, b11, b12, b13, b14, b15, b16, b17, b18, b19, x17, x18, x19, x20, x21, x22, x23, x24, x25, x26, x27, x28, x29, x30, x31, x32, x33, x34, x35, x36, rfl, rfl, hb, cd0, cd1, cd2, cd3, cd4, cd5, cd6, cd7, cd8, cd9, cd10, cd11, cd12, cd13, cd14, cd15, cd16, cd17, cd18, cd19⟩ hf hd
              have hf' : b16 = false := hf
              subst hf'
              have d9 : b9 = true := hd ⟨9, .guard⟩ (by simp) rfl
              subst d9
              obtain rfl := cd9.out rfl
              clear hf hd
              try simp only [List.setIfInBounds_toArray, List.set_cons_zero, List.set_cons_succ]
              intro K hK
              rw [if_pos (by rfl)]
              go_simp
              exact hK.out _ _ ⟨b0, b1, b2, b3, b4, b5, b6, b7, b8, true, b10, b11, b12, b13, b14, b15, true, b17, b18, b19, x17, x18, x19, x20, x21, x22, x23, x24, x25, .bool true, x27, x28, x29, x30, x31, x32, (.pointer (some ⟨r, 1, none⟩)), x34, x35, x36, (by simp only [Act.put, List.setIfInBounds_toArray, List.set_cons_zero, List.set_cons_succ]), (by simp only [Act.put, List.setIfInBounds_toArray, List.set_cons_zero, List.set_cons_succ]), hb, cd0, cd1, cd2, cd3, cd4, cd5, cd6, cd7, cd8, (fun _ => rfl), cd10, cd11, cd12, cd13, cd14, cd15, (fun _ => rfl), cd17, cd18, cd19⟩
            · rintro L a w ⟨b0, b1, b2, b3, b4, b5, b6, b7, b8, b9, b10, b11, b12, b13, b14, b15, b16, b17, b18, b19, x17, x18, x19, x20, x21, x22, x23, x24, x25, x26, x27, x28, x29, x30, x31, x32, x33, x34, x35, x36, rfl, rfl, hb, cd0, cd1, cd2, cd3, cd4, cd5, cd6, cd7, cd8, cd9, cd10, cd11, cd12, cd13, cd14, cd15, cd16, cd17, cd18, cd19⟩ hf hd
              have hf' : b17 = false := hf
              subst hf'
              have d16 : b16 = true := hd ⟨16, .data⟩ (by simp) rfl
              subst d16
              have d9 : b9 = true := hd ⟨9, .guard⟩ (by simp) rfl
              subst d9
              obtain rfl := cd16.out rfl
              obtain rfl := cd9.out rfl
              clear hf hd
              try simp only [List.setIfInBounds_toArray, List.set_cons_zero, List.set_cons_succ]
              have z0 := (hb.cell hrB).trans z1_
              intro K hK
              rw [if_pos (by rfl)]
              go_simp
              exact hK.out _ _ ⟨b0, b1, b2, b3, b4, b5, b6, b7, b8, true, b10, b11, b12, b13, b14, b15, true, true, b18, b19, x17, x18, x19, x20, x21, x22, x23, x24, x25, .bool true, x27, x28, x29, x30, x31, x32, .pointer (some ⟨r, 1, none⟩), (.string (bsOf t)), x35, x36, (by simp only [Act.put, List.setIfInBounds_toArray, List.set_cons_zero, List.set_cons_succ]), (by simp only [Act.put, List.setIfInBounds_toArray, List.set_cons_zero, List.set_cons_succ]), hb, cd0, cd1, cd2, cd3, cd4, cd5, cd6, cd7, cd8, (fun _ => rfl), cd10, cd11, cd12, cd13, cd14, cd15, (fun _ => rfl), (fun _ => rfl), cd18, cd19⟩
            · rintro L a w ⟨b0, b1, b2, b3, b4, b5, b6, b7, b8, b9, b10, b11, b12, b13, b14, b15, b16, b17, b18, b19, x17, x18, x19, x20, x21, x22, x23, x24, x25, x26, x27, x28, x29, x30, x31, x32, x33, x34, x35, x36, rfl, rfl, hb, cd0, cd1, cd2, cd3, cd4, cd5, cd6, cd7, cd8, cd9, cd10, cd11, cd12, cd13, cd14, cd15, cd16, cd17, cd18, cd19⟩ hf hd
              have hf' : b18 = false := hf
              subst hf'
              have d15 : b15 = true := hd ⟨15, .data⟩ (by simp) rfl
              subst d15
              have d17 : b17 = true := hd ⟨17, .data⟩ (by simp) rfl
              subst d17
              have d9 : b9 = true := hd ⟨9, .guard⟩ (by simp) rfl
              subst d9
              obtain rfl := cd15.out rfl
              obtain rfl := cd17.out rfl
              obtain rfl := cd9.out rfl
              clear hf hd
              try simp only [List.setIfInBounds_toArray, List.set_cons_zero, List.set_cons_succ]
              intro K hK
              rw [if_pos (by rfl)]
              go_simp
              exact hK.out _ _ ⟨b0, b1, b2, b3, b4, b5, b6, b7, b8, true, b10, b11, b12, b13, b14, true, b16, true, true, b19, x17, x18, x19, x20, x21, x22, x23, x24, x25, .bool true, x27, x28, x29, x30, x31, .string (bsOf t), x33, .string (bsOf t), (.bool true), x36, (by simp only [Act.put, List.setIfInBounds_toArray, List.set_cons_zero, List.set_cons_succ]), (by simp only [Act.put, List.setIfInBounds_toArray, List.set_cons_zero, List.set_cons_succ]), hb, cd0, cd1, cd2, cd3, cd4, cd5, cd6, cd7, cd8, (fun _ => rfl), cd10, cd11, cd12, cd13, cd14, (fun _ => rfl), cd16, (fun _ => rfl), (fun _ => rfl), cd19⟩
            · rintro L a w ⟨b0, b1, b2, b3, b4, b5, b6, b7, b8, b9, b10, b11, b12, b13, b14, b15, b16, b17, b18, b19, x17, x18, x19, x20, x21, x22, x23, x24, x25, x26, x27, x28, x29, x30, x31, x32, x33, x34, x35, x36, rfl, rfl, hb, cd0, cd1, cd2, cd3, cd4, cd5, cd6, cd7, cd8, cd9, cd10, cd11, cd12, cd13, cd14, cd15, cd16, cd17, cd18, cd19⟩ hf hd
              have hf' : b19 = false := hf
              subst hf'
              have d9 : b9 = true := hd ⟨9, .data⟩ (by simp) rfl
              subst d9
              have d18 : b18 = true := hd ⟨18, .data⟩ (by simp) rfl
              subst d18
              obtain rfl := cd9.out rfl
              obtain rfl := cd18.out rfl
              clear hf hd
              try simp only [List.setIfInBounds_toArray, List.set_cons_zero, List.set_cons_succ]
              intro K hK
              rw [if_pos (by rfl)]
              go_simp
              exact hK.out _ _ ⟨b0, b1, b2, b3, b4, b5, b6, b7, b8, true, b10, b11, b12, b13, b14, b15, b16, b17, true, true, x17, x18, x19, x20, x21, x22, x23, x24, x25, .bool true, x27, x28, x29, x30, x31, x32, x33, x34, .bool true, (.bool true), (by simp only [Act.put, List.setIfInBounds_toArray, List.set_cons_zero, List.set_cons_succ]), (by simp only [Act.put, List.setIfInBounds_toArray, List.set_cons_zero, List.set_cons_succ]), hb, cd0, cd1, cd2, cd3, cd4, cd5, cd6, cd7, cd8, (fun _ => rfl), cd10, cd11, cd12, cd13, cd14, cd15, cd16, cd17, (fun _ => rfl), (fun _ => rfl)⟩
          · rintro act V ⟨b0, b1, b2, b3, b4, b5, b6, b7, b8, b9, b10, b11, b12, b13, b14, b15, b16, b17, b18, b19, x17, x18, x19, x20, x21, x22, x23, x24, x25, x26, x27, x28, x29, x30, x31, x32, x33, x34, x35, x36, hL, rfl, hb, cd0, cd1, cd2, cd3, cd4, cd5, cd6, cd7, cd8, cd9, cd10, cd11, cd12, cd13, cd14, cd15, cd16, cd17, cd18, cd19⟩
            have hL' : [true, true, true, true, true, true, true, true, true, true, true, true, true, true, true, true, true, true, true, true] = [b0, b1, b2, b3, b4, b5, b6, b7, b8, b9, b10, b11, b12, b13, b14, b15, b16, b17, b18, b19] := congrArg Array.toList hL
            simp only [List.cons.injEq, and_true] at hL'
            obtain ⟨rfl, rfl, rfl, rfl, rfl, rfl, rfl, rfl, rfl, rfl, rfl, rfl, rfl, rfl, rfl, rfl, rfl, rfl, rfl, rfl⟩ := hL'
            obtain rfl := cd0.out rfl
            obtain rfl := cd1.out rfl
            obtain rfl := cd2.out rfl
            obtain rfl := cd3.out rfl
            obtain rfl := cd4.out rfl
            obtain rfl := cd5.out rfl
            obtain rfl := cd6.out rfl
            obtain rfl := cd7.out rfl
            obtain rfl := cd8.out rfl
            obtain rfl := cd9.out rfl
            obtain rfl := cd10.out rfl
            obtain rfl := cd11.out rfl
            obtain rfl := cd12.out rfl
            obtain rfl := cd13.out rfl
            obtain rfl := cd14.out rfl
            obtain rfl := cd15.out rfl
            obtain rfl := cd16.out rfl
            obtain rfl := cd17.out rfl
            obtain rfl := cd18.out rfl
            obtain rfl := cd19.out rfl
            clear hL cd0 cd1 cd2 cd3 cd4 cd5 cd6 cd7 cd8 cd9 cd10 cd11 cd12 cd13 cd14 cd15 cd16 cd17 cd18 cd19
            simp only [List.setIfInBounds_toArray, List.set_cons_zero, List.set_cons_succ]
            have BU := BU.trans (((Below.refl _ _).drew.trans hb).mono BU.size)
            clear hb c0_ z0_ z1_ z2_ y0_ y1_ y2_ hpB hrB hbB hB0
            go_upto_region 8 with fail
            generalize V = W8 at BU ⊢
            obtain ⟨c0_, c1_⟩ := (X0.past BU).c
            obtain ⟨z0_, z1_, z2_⟩ := (Z0.past BU).c
            simp only at z0_ z1_ z2_
            have y0_ := (BU.cell (show (⟨rb, roff + i * 3, none⟩ : Addr).block < U.heap.size from hrb)).trans yu0
            have y1_ := (BU.cell (show (⟨rb, roff + i * 3 + 1, none⟩ : Addr).block < U.heap.size from hrb)).trans yu1
            have y2_ := (BU.cell (show (⟨rb, roff + i * 3 + 2, none⟩ : Addr).block < U.heap.size from hrb)).trans yu2
            have hpB := Nat.lt_of_lt_of_le X0.lt BU.size
            have hrB := Nat.lt_of_lt_of_le Z0.lt BU.size
            have hbB := Nat.lt_of_lt_of_le hrb BU.size
            have hB0 : W8.heap.size ≤ W8.heap.size := Nat.le_refl _
            cases fr
            · have hF2 : Hid (false = (H.take (i + 1)).all (fun k => !clash k ⟨s, t, x⟩)) := Lib.hid (by rw [all_next _ hyh.out, ← hF.out]; rfl)
              refine region_inv (Ask8F W8.heap.size p r rb roff hn hc i s t s t) (by kernel_rfl) (by kernel_rfl) ?_ ?_ ?_
              · exact ⟨false, false, false, false, false, false, false, false, false, false, false, false, u38, u39, u40, u41, u42, u43, u44, u45, u46, u47, u48, .bool false, rfl, (by simp only [Act.put, List.setIfInBounds_toArray, List.set_cons_zero, List.set_cons_succ]), Below.refl _ _, (fun h => by cases h), (fun h => by cases h), (fun h => by cases h), (fun h => by cases h), (fun h => by cases h), (fun h => by cases h), (fun h => by cases h), (fun h => by cases h), (fun h => by cases h), (fun h => by cases h), (fun h => by cases h), (fun h => by cases h), (fun h => by cases h), (fun h1 => rfl)⟩
              · refine ⟨?_, ?_, ?_, ?_, ?_, ?_, ?_, ?_, ?_, ?_, ?_, ?_, trivial⟩
                · rintro L a w ⟨b0, b1, b2, b3, b4, b5, b6, b7, b8, b9, b10, b11, x38, x39, x40, x41, x42, x43, x44, x45, x46, x47, x48, x7, rfl, rfl, hb, cd0, cd1, cd2, cd3, cd4, cd5, cd6, cd7, cd8, cd9, cd10, cd11, f_o12, f_s11⟩ hf hd
                  have hf' : b0 = false := hf
                  subst hf'
                  clear hf hd
                  have e11 : b11 = false := by cases hq : b11 with | false => rfl | true => exact absurd (f_o12.out hq) (by simp)
                  subst e11
                  obtain rfl := f_s11.out rfl
                  try simp only [List.setIfInBounds_toArray, List.set_cons_zero, List.set_cons_succ]
                  intro K hK
                  rw [if_pos (by rfl)]
                  go_simp
                  exact hK.out _ _ ⟨true, b1, b2, b3, b4, b5, b6, b7, b8, b9, b10, false, (.bool false), x39, x40, x41, x42, x43, x44, x45, x46, x47, x48, (.bool false), (by simp only [Act.put, List.setIfInBounds_toArray, List.set_cons_zero, List.set_cons_succ]), (by simp only [Act.put, List.setIfInBounds_toArray, List.set_cons_zero, List.set_cons_succ]), hb, (fun _ => rfl), cd1, cd2, cd3, cd4, cd5, cd6, cd7, cd8, cd9, cd10, cd11, (fun _ => rfl), f_s11⟩
                · rintro L a w ⟨b0, b1, b2, b3, b4, b5, b6, b7, b8, b9, b10, b11, x38, x39, x40, x41, x42, x43, x44, x45, x46, x47, x48, x7, rfl, rfl, hb, cd0, cd1, cd2, cd3, cd4, cd5, cd6, cd7, cd8, cd9, cd10, cd11, f_o12, f_s11⟩ hf hd
                  have hf' : b1 = false := hf
                  subst hf'
                  have d0 : b0 = true := hd ⟨0, .data⟩ (by simp) rfl
                  subst d0
                  obtain rfl := cd0.out rfl
                  clear hf hd
                  try simp only [List.setIfInBounds_toArray, List.set_cons_zero, List.set_cons_succ]
                  intro K hK
                  rw [if_pos (by rfl)]
                  go_simp
                  exact hK.out _ _ ⟨true, true, b2, b3, b4, b5, b6, b7, b8, b9, b10, b11, .bool false, (.bool false), x40, x41, x42, x43, x44, x45, x46, x47, x48, x7, (by simp only [Act.put, List.setIfInBounds_toArray, List.set_cons_zero, List.set_cons_succ]), (by simp only [Act.put, List.setIfInBounds_toArray, List.set_cons_zero, List.set_cons_succ]), hb, (fun _ => rfl), (fun _ => rfl), cd2, cd3, cd4, cd5, cd6, cd7, cd8, cd9, cd10, cd11, f_o12, f_s11⟩
                · rintro L a w ⟨b0, b1, b2, b3, b4, b5, b6, b7, b8, b9, b10, b11, x38, x39, x40, x41, x42, x43, x44, x45, x46, x47, x48, x7, rfl, rfl, hb, cd0, cd1, cd2, cd3, cd4, cd5, cd6, cd7, cd8, cd9, cd10, cd11, f_o12, f_s11⟩ hf hd
                  have hf' : b2 = false := hf
                  subst hf'
                  have d1 : b1 = true := hd ⟨1, .guard⟩ (by simp) rfl
                  subst d1
                  obtain rfl := cd1.out rfl
                  clear hf hd
                  try simp only [List.setIfInBounds_toArray, List.set_cons_zero, List.set_cons_succ]
                  intro K hK
                  rw [if_neg (Bool.eq_false_iff.1 (by rfl))]
                  exact hK.out _ _ ⟨b0, true, true, b3, b4, b5, b6, b7, b8, b9, b10, b11, x38, .bool false, (undef), x41, x42, x43, x44, x45, x46, x47, x48, x7, (by simp only [Act.put, List.setIfInBounds_toArray, List.set_cons_zero, List.set_cons_succ]), (by simp only [Act.put, List.setIfInBounds_toArray, List.set_cons_zero, List.set_cons_succ]), hb, cd0, (fun _ => rfl), (fun _ => rfl), cd3, cd4, cd5, cd6, cd7, cd8, cd9, cd10, cd11, f_o12, f_s11⟩
                · rintro L a w ⟨b0, b1, b2, b3, b4, b5, b6, b7, b8, b9, b10, b11, x38, x39, x40, x41, x42, x43, x44, x45, x46, x47, x48, x7, rfl, rfl, hb, cd0, cd1, cd2, cd3, cd4, cd5, cd6, cd7, cd8, cd9, cd10, cd11, f_o12, f_s11⟩ hf hd
                  have hf' : b3 = false := hf
                  subst hf'
                  have d2 : b2 = true := hd ⟨2, .data⟩ (by simp) rfl
                  subst d2
                  have d1 : b1 = true := hd ⟨1, .guard⟩ (by simp) rfl
                  subst d1
                  obtain rfl := cd2.out rfl
                  obtain rfl := cd1.out rfl
                  clear hf hd
                  try simp only [List.setIfInBounds_toArray, List.set_cons_zero, List.set_cons_succ]
                  intro K hK
                  rw [if_neg (Bool.eq_false_iff.1 (by rfl))]
                  exact hK.out _ _ ⟨b0, true, true, true, b4, b5, b6, b7, b8, b9, b10, b11, x38, .bool false, undef, (undef), x42, x43, x44, x45, x46, x47, x48, x7, (by simp only [Act.put, List.setIfInBounds_toArray, List.set_cons_zero, List.set_cons_succ]), (by simp only [Act.put, List.setIfInBounds_toArray, List.set_cons_zero, List.set_cons_succ]), hb, cd0, (fun _ => rfl), (fun _ => rfl), (fun _ => rfl), cd4, cd5, cd6, cd7, cd8, cd9, cd10, cd11, f_o12, f_s11⟩
                · rintro L a w ⟨b0, b1, b2, b3, b4, b5, b6, b7, b8, b9, b10, b11, x38, x39, x40, x41, x42, x43, x44, x45, x46, x47, x48, x7, rfl, rfl, hb, cd0, cd1, cd2, cd3, cd4, cd5, cd6, cd7, cd8, cd9, cd10, cd11, f_o12, f_s11⟩ hf hd
                  have hf' : b4 = false := hf
                  subst hf'
                  have d1 : b1 = true := hd ⟨1, .guard⟩ (by simp) rfl
                  subst d1
                  obtain rfl := cd1.out rfl
                  clear hf hd
                  try simp only [List.setIfInBounds_toArray, List.set_cons_zero, List.set_cons_succ]
                  intro K hK
                  rw [if_neg (Bool.eq_false_iff.1 (by rfl))]
                  exact hK.out _ _ ⟨b0, true, b2, b3, true, b5, b6, b7, b8, b9, b10, b11, x38, .bool false, x40, x41, (undef), x43, x44, x45, x46, x47, x48, x7, (by simp only [Act.put, List.setIfInBounds_toArray, List.set_cons_zero, List.set_cons_succ]), (by simp only [Act.put, List.setIfInBounds_toArray, List.set_cons_zero, List.set_cons_succ]), hb, cd0, (fun _ => rfl), cd2, cd3, (fun _ => rfl), cd5, cd6, cd7, cd8, cd9, cd10, cd11, f_o12, f_s11⟩
                · rintro L a w ⟨b0, b1, b2, b3, b4, b5, b6, b7, b8, b9, b10, b11, x38, x39, x40, x41, x42, x43, x44, x45, x46, x47, x48, x7, rfl, rfl, hb, cd0, cd1, cd2, cd3, cd4, cd5, cd6, cd7, cd8, cd9, cd10, cd11, f_o12, f_s11⟩ hf hd
                  have hf' : b5 = false := hf
                  subst hf'
                  have d3 : b3 = true := hd ⟨3, .data⟩ (by simp) rfl
                  subst d3
                  have d4 : b4 = true := hd ⟨4, .data⟩ (by simp) rfl
                  subst d4
                  have d1 : b1 = true := hd ⟨1, .guard⟩ (by simp) rfl
                  subst d1
                  obtain rfl := cd3.out rfl
                  obtain rfl := cd4.out rfl
                  obtain rfl := cd1.out rfl
                  clear hf hd
                  try simp only [List.setIfInBounds_toArray, List.set_cons_zero, List.set_cons_succ]
                  intro K hK
                  rw [if_neg (Bool.eq_false_iff.1 (by rfl))]
                  exact hK.out _ _ ⟨b0, true, b2, true, true, true, b6, b7, b8, b9, b10, b11, x38, .bool false, x40, undef, undef, (undef), x44, x45, x46, x47, x48, x7, (by simp only [Act.put, List.setIfInBounds_toArray, List.set_cons_zero, List.set_cons_succ]), (by simp only [Act.put, List.setIfInBounds_toArray, List.set_cons_zero, List.set_cons_succ]), hb, cd0, (fun _ => rfl), cd2, (fun _ => rfl), (fun _ => rfl), (fun _ => rfl), cd6, cd7, cd8, cd9, cd10, cd11, f_o12, f_s11⟩
                · rintro L a w ⟨b0, b1, b2, b3, b4, b5, b6, b7, b8, b9, b10, b11, x38, x39, x40, x41, x42, x43, x44, x45, x46, x47, x48, x7, rfl, rfl, hb, cd0, cd1, cd2, cd3, cd4, cd5, cd6, cd7, cd8, cd9, cd10, cd11, f_o12, f_s11⟩ hf hd
                  have hf' : b6 = false := hf
                  subst hf'
                  have d5 : b5 = true := hd ⟨5, .data⟩ (by simp) rfl
                  subst d5
                  have d1 : b1 = true := hd ⟨1, .guard⟩ (by simp) rfl
                  subst d1
                  obtain rfl := cd5.out rfl
                  obtain rfl := cd1.out rfl
                  clear hf hd
                  try simp only [List.setIfInBounds_toArray, List.set_cons_zero, List.set_cons_succ]
                  intro K hK
                  rw [if_neg (Bool.eq_false_iff.1 (by rfl))]
                  exact hK.out _ _ ⟨b0, true, b2, b3, b4, true, true, b7, b8, b9, b10, b11, x38, .bool false, x40, x41, x42, undef, (undef), x45, x46, x47, x48, x7, (by simp only [Act.put, List.setIfInBounds_toArray, List.set_cons_zero, List.set_cons_succ]), (by simp only [Act.put, List.setIfInBounds_toArray, List.set_cons_zero, List.set_cons_succ]), hb, cd0, (fun _ => rfl), cd2, cd3, cd4, (fun _ => rfl), (fun _ => rfl), cd7, cd8, cd9, cd10, cd11, f_o12, f_s11⟩
                · rintro L a w ⟨b0, b1, b2, b3, b4, b5, b6, b7, b8, b9, b10, b11, x38, x39, x40, x41, x42, x43, x44, x45, x46, x47, x48, x7, rfl, rfl, hb, cd0, cd1, cd2, cd3, cd4, cd5, cd6, cd7, cd8, cd9, cd10, cd11, f_o12, f_s11⟩ hf hd
                  have hf' : b7 = false := hf
                  subst hf'
                  have d1 : b1 = true := hd ⟨1, .guard⟩ (by simp) rfl
                  subst d1
                  obtain rfl := cd1.out rfl
                  clear hf hd
                  try simp only [List.setIfInBounds_toArray, List.set_cons_zero, List.set_cons_succ]
                  intro K hK
                  rw [if_neg (Bool.eq_false_iff.1 (by rfl))]
                  exact hK.out _ _ ⟨b0, true, b2, b3, b4, b5, b6, true, b8, b9, b10, b11, x38, .bool false, x40, x41, x42, x43, x44, (undef), x46, x47, x48, x7, (by simp only [Act.put, List.setIfInBounds_toArray, List.set_cons_zero, List.set_cons_succ]), (by simp only [Act.put, List.setIfInBounds_toArray, List.set_cons_zero, List.set_cons_succ]), hb, cd0, (fun _ => rfl), cd2, cd3, cd4, cd5, cd6, (fun _ => rfl), cd8, cd9, cd10, cd11, f_o12, f_s11⟩
                · rintro L a w ⟨b0, b1, b2, b3, b4, b5, b6, b7, b8, b9, b10, b11, x38, x39, x40, x41, x42, x43, x44, x45, x46, x47, x48, x7, rfl, rfl, hb, cd0, cd1, cd2, cd3, cd4, cd5, cd6, cd7, cd8, cd9, cd10, cd11, f_o12, f_s11⟩ hf hd
                  have hf' : b8 = false := hf
                  subst hf'
                  have d6 : b6 = true := hd ⟨6, .data⟩ (by simp) rfl
                  subst d6
                  have d7 : b7 = true := hd ⟨7, .data⟩ (by simp) rfl
                  subst d7
                  have d1 : b1 = true := hd ⟨1, .chain⟩ (by simp) rfl
                  subst d1
                  obtain rfl := cd6.out rfl
                  obtain rfl := cd7.out rfl
                  obtain rfl := cd1.out rfl
                  clear hf hd
                  try simp only [List.setIfInBounds_toArray, List.set_cons_zero, List.set_cons_succ]
                  intro K hK
                  rw [if_neg (Bool.eq_false_iff.1 (by rfl))]
                  exact hK.out _ _ ⟨b0, true, b2, b3, b4, b5, true, true, true, b9, b10, b11, x38, .bool false, x40, x41, x42, x43, undef, undef, (undef), x47, x48, x7, (by simp only [Act.put, List.setIfInBounds_toArray, List.set_cons_zero, List.set_cons_succ]), (by simp only [Act.put, List.setIfInBounds_toArray, List.set_cons_zero, List.set_cons_succ]), hb, cd0, (fun _ => rfl), cd2, cd3, cd4, cd5, (fun _ => rfl), (fun _ => rfl), (fun _ => rfl), cd9, cd10, cd11, f_o12, f_s11⟩
                · rintro L a w ⟨b0, b1, b2, b3, b4, b5, b6, b7, b8, b9, b10, b11, x38, x39, x40, x41, x42, x43, x44, x45, x46, x47, x48, x7, rfl, rfl, hb, cd0, cd1, cd2, cd3, cd4, cd5, cd6, cd7, cd8, cd9, cd10, cd11, f_o12, f_s11⟩ hf hd
                  have hf' : b9 = false := hf
                  subst hf'
                  have d8 : b8 = true := hd ⟨8, .data⟩ (by simp) rfl
                  subst d8
                  have d1 : b1 = true := hd ⟨1, .guard⟩ (by simp) rfl
                  subst d1
                  obtain rfl := cd8.out rfl
                  obtain rfl := cd1.out rfl
                  clear hf hd
                  try simp only [List.setIfInBounds_toArray, List.set_cons_zero, List.set_cons_succ]
                  intro K hK
                  rw [if_neg (Bool.eq_false_iff.1 (by rfl))]
                  exact hK.out _ _ ⟨b0, true, b2, b3, b4, b5, b6, b7, true, true, b10, b11, x38, .bool false, x40, x41, x42, x43, x44, x45, undef, (undef), x48, x7, (by simp only [Act.put, List.setIfInBounds_toArray, List.set_cons_zero, List.set_cons_succ]), (by simp only [Act.put, List.setIfInBounds_toArray, List.set_cons_zero, List.set_cons_succ]), hb, cd0, (fun _ => rfl), cd2, cd3, cd4, cd5, cd6, cd7, (fun _ => rfl), (fun _ => rfl), cd10, cd11, f_o12, f_s11⟩
                · rintro L a w ⟨b0, b1, b2, b3, b4, b5, b6, b7, b8, b9, b10, b11, x38, x39, x40, x41, x42, x43, x44, x45, x46, x47, x48, x7, rfl, rfl, hb, cd0, cd1, cd2, cd3, cd4, cd5, cd6, cd7, cd8, cd9, cd10, cd11, f_o12, f_s11⟩ hf hd
                  have hf' : b10 = false := hf
                  subst hf'
                  have d1 : b1 = true := hd ⟨1, .data⟩ (by simp) rfl
                  subst d1
                  have d9 : b9 = true := hd ⟨9, .data⟩ (by simp) rfl
                  subst d9
                  obtain rfl := cd1.out rfl
                  obtain rfl := cd9.out rfl
                  clear hf hd
                  try simp only [List.setIfInBounds_toArray, List.set_cons_zero, List.set_cons_succ]
                  intro K hK
                  rw [if_pos (by rfl)]
                  go_simp
                  exact hK.out _ _ ⟨b0, true, b2, b3, b4, b5, b6, b7, b8, true, true, b11, x38, .bool false, x40, x41, x42, x43, x44, x45, x46, undef, (.bool false), x7, (by simp only [Act.put, List.setIfInBounds_toArray, List.set_cons_zero, List.set_cons_succ]), (by simp only [Act.put, List.setIfInBounds_toArray, List.set_cons_zero, List.set_cons_succ]), hb, cd0, (fun _ => rfl), cd2, cd3, cd4, cd5, cd6, cd7, cd8, (fun _ => rfl), (fun _ => rfl), cd11, f_o12, f_s11⟩
                · rintro L a w ⟨b0, b1, b2, b3, b4, b5, b6, b7, b8, b9, b10, b11, x38, x39, x40, x41, x42, x43, x44, x45, x46, x47, x48, x7, rfl, rfl, hb, cd0, cd1, cd2, cd3, cd4, cd5, cd6, cd7, cd8, cd9, cd10, cd11, f_o12, f_s11⟩ hf hd
                  have hf' : b11 = false := hf
                  subst hf'
                  have d10 : b10 = true := hd ⟨10, .data⟩ (by simp) rfl
                  subst d10
                  have d8 : b8 = true := hd ⟨8, .chain⟩ (by simp) rfl
                  subst d8
                  have d0 : b0 = true := hd ⟨0, .phase⟩ (by simp) rfl
                  subst d0
                  have d1 : b1 = true := hd ⟨1, .phase⟩ (by simp) rfl
                  subst d1
                  have d2 : b2 = true := hd ⟨2, .phase⟩ (by simp) rfl
                  subst d2
                  have d3 : b3 = true := hd ⟨3, .phase⟩ (by simp) rfl
                  subst d3
                  have d4 : b4 = true := hd ⟨4, .phase⟩ (by simp) rfl
                  subst d4
                  have d5 : b5 = true := hd ⟨5, .phase⟩ (by simp) rfl
                  subst d5
                  have d6 : b6 = true := hd ⟨6, .phase⟩ (by simp) rfl
                  subst d6
                  have d7 : b7 = true := hd ⟨7, .phase⟩ (by simp) rfl
                  subst d7
                  have d9 : b9 = true := hd ⟨9, .phase⟩ (by simp) rfl
                  subst d9
                  obtain rfl := cd10.out rfl
                  obtain rfl := cd8.out rfl
                  obtain rfl := cd0.out rfl
                  obtain rfl := cd1.out rfl
                  obtain rfl := cd2.out rfl
                  obtain rfl := cd3.out rfl
                  obtain rfl := cd4.out rfl
                  obtain rfl := cd5.out rfl
                  obtain rfl := cd6.out rfl
                  obtain rfl := cd7.out rfl
                  obtain rfl := cd9.out rfl
                  clear hf hd
                  have W_s11 := f_s11.out rfl
                  try simp only [List.setIfInBounds_toArray, List.set_cons_zero, List.set_cons_succ]
                  intro K hK
                  rw [if_pos (by rfl)]
                  go_simp
                  exact hK.out _ _ ⟨true, true, true, true, true, true, true, true, true, true, true, true, .bool false, .bool false, undef, undef, undef, undef, undef, undef, undef, undef, .bool false, (.bool false), (by simp only [Act.put, List.setIfInBounds_toArray, List.set_cons_zero, List.set_cons_succ]), (by simp only [Act.put, List.setIfInBounds_toArray, List.set_cons_zero, List.set_cons_succ]), hb, (fun _ => rfl), (fun _ => rfl), (fun _ => rfl), (fun _ => rfl), (fun _ => rfl), (fun _ => rfl), (fun _ => rfl), (fun _ => rfl), (fun _ => rfl), (fun _ => rfl), (fun _ => rfl), (fun _ => rfl), (fun _ => rfl), (fun h => by cases h)⟩
              · rintro act V ⟨b0, b1, b2, b3, b4, b5, b6, b7, b8, b9, b10, b11, x38, x39, x40, x41, x42, x43, x44, x45, x46, x47, x48, x7, hL, rfl, hb, cd0, cd1, cd2, cd3, cd4, cd5, cd6, cd7, cd8, cd9, cd10, cd11, f_o12, f_s11⟩
                have hL' : [true, true, true, true, true, true, true, true, true, true, true, true] = [b0, b1, b2, b3, b4, b5, b6, b7, b8, b9, b10, b11] := congrArg Array.toList hL
                simp only [List.cons.injEq, and_true] at hL'
                obtain ⟨rfl, rfl, rfl, rfl, rfl, rfl, rfl, rfl, rfl, rfl, rfl, rfl⟩ := hL'
                obtain rfl := cd0.out rfl
                obtain rfl := cd1.out rfl
                obtain rfl := cd2.out rfl
                obtain rfl := cd3.out rfl
                obtain rfl := cd4.out rfl
                obtain rfl := cd5.out rfl
                obtain rfl := cd6.out rfl
                obtain rfl := cd7.out rfl
                obtain rfl := cd8.out rfl
                obtain rfl := cd9.out rfl
                obtain rfl := cd10.out rfl
                obtain rfl := cd11.out rfl
                have W_o12 := f_o12.out rfl
                clear hL f_o12 f_s11 cd0 cd1 cd2 cd3 cd4 cd5 cd6 cd7 cd8 cd9 cd10 cd11
                simp only [List.setIfInBounds_toArray, List.set_cons_zero, List.set_cons_succ]
                have BU := BU.trans (((Below.refl _ _).drew.trans hb).mono BU.size)
                clear hb
                go_wp2_with fail
                go_roundw
                case rel => exact ⟨_, _, i + 1, rfl, rfl, by go_num, by omega, hA2, hF2, BU⟩
                case measure => simp [intOf]; omega
            · have hF2 : Hid ((!cl) = (H.take (i + 1)).all (fun k => !clash k ⟨s, t, x⟩)) := Lib.hid (by rw [all_next _ hyh.out, ← hF.out, hclh.out]; rfl)
              refine region_inv (Ask8T W8.heap.size p r rb roff hn hc i s t yx s t x cl) (by kernel_rfl) (by kernel_rfl) ?_ ?_ ?_
              · exact ⟨false, false, false, false, false, false, false, false, false, false, false, false, u38, u39, u40, u41, u42, u43, u44, u45, u46, u47, u48, .bool true, rfl, (by simp only [Act.put, List.setIfInBounds_toArray, List.set_cons_zero, List.set_cons_succ]), Below.refl _ _, (fun h => by cases h), (fun h => by cases h), (fun h => by cases h), (fun h => by cases h), (fun h => by cases h), (fun h => by cases h), (fun h => by cases h), (fun h => by cases h), (fun h => by cases h), (fun h => by cases h), (fun h => by cases h), (fun h => by cases h), (fun h => by cases h), (fun h1 => rfl)⟩
              · refine ⟨?_, ?_, ?_, ?_, ?_, ?_, ?_, ?_, ?_, ?_, ?_, ?_, trivial⟩
                · rintro L a w ⟨b0, b1, b2, b3, b4, b5, b6, b7, b8, b9, b10, b11, x38, x39, x40, x41, x42, x43, x44, x45, x46, x47, x48, x7, rfl, rfl, hb, cd0, cd1, cd2, cd3, cd4, cd5, cd6, cd7, cd8, cd9, cd10, cd11, f_o12, f_s11⟩ hf hd
                  have hf' : b0 = false := hf
                  subst hf'
                  clear hf hd
                  have e11 : b11 = false := by cases hq : b11 with | false => rfl | true => exact absurd (f_o12.out hq) (by simp)
                  subst e11
                  obtain rfl := f_s11.out rfl
                  try simp only [List.setIfInBounds_toArray, List.set_cons_zero, List.set_cons_succ]
                  intro K hK
                  rw [if_pos (by rfl)]
                  go_simp
                  exact hK.out _ _ ⟨true, b1, b2, b3, b4, b5, b6, b7, b8, b9, b10, false, (.bool true), x39, x40, x41, x42, x43, x44, x45, x46, x47, x48, (.bool true), (by simp only [Act.put, List.setIfInBounds_toArray, List.set_cons_zero, List.set_cons_succ]), (by simp only [Act.put, List.setIfInBounds_toArray, List.set_cons_zero, List.set_cons_succ]), hb, (fun _ => rfl), cd1, cd2, cd3, cd4, cd5, cd6, cd7, cd8, cd9, cd10, cd11, (fun _ => rfl), f_s11⟩
                · rintro L a w ⟨b0, b1, b2, b3, b4, b5, b6, b7, b8, b9, b10, b11, x38, x39, x40, x41, x42, x43, x44, x45, x46, x47, x48, x7, rfl, rfl, hb, cd0, cd1, cd2, cd3, cd4, cd5, cd6, cd7, cd8, cd9, cd10, cd11, f_o12, f_s11⟩ hf hd
                  have hf' : b1 = false := hf
                  subst hf'
                  have d0 : b0 = true := hd ⟨0, .data⟩ (by simp) rfl
                  subst d0
                  obtain rfl := cd0.out rfl
                  clear hf hd
                  try simp only [List.setIfInBounds_toArray, List.set_cons_zero, List.set_cons_succ]
                  intro K hK
                  rw [if_pos (by rfl)]
                  go_simp
                  exact hK.out _ _ ⟨true, true, b2, b3, b4, b5, b6, b7, b8, b9, b10, b11, .bool true, (.bool true), x40, x41, x42, x43, x44, x45, x46, x47, x48, x7, (by simp only [Act.put, List.setIfInBounds_toArray, List.set_cons_zero, List.set_cons_succ]), (by simp only [Act.put, List.setIfInBounds_toArray, List.set_cons_zero, List.set_cons_succ]), hb, (fun _ => rfl), (fun _ => rfl), cd2, cd3, cd4, cd5, cd6, cd7, cd8, cd9, cd10, cd11, f_o12, f_s11⟩
                · rintro L a w ⟨b0, b1, b2, b3, b4, b5, b6, b7, b8, b9, b10, b11, x38, x39, x40, x41, x42, x43, x44, x45, x46, x47, x48, x7, rfl, rfl, hb, cd0, cd1, cd2, cd3, cd4, cd5, cd6, cd7, cd8, cd9, cd10, cd11, f_o12, f_s11⟩ hf hd
                  have hf' : b2 = false := hf
                  subst hf'
                  have d1 : b1 = true := hd ⟨1, .guard⟩ (by simp) rfl
                  subst d1
                  obtain rfl := cd1.out rfl
                  clear hf hd
                  try simp only [List.setIfInBounds_toArray, List.set_cons_zero, List.set_cons_succ]
                  intro K hK
                  rw [if_pos (by rfl)]
                  go_simp
                  exact hK.out _ _ ⟨b0, true, true, b3, b4, b5, b6, b7, b8, b9, b10, b11, x38, .bool true, (.pointer (some ⟨p, 0, none⟩)), x41, x42, x43, x44, x45, x46, x47, x48, x7, (by simp only [Act.put, List.setIfInBounds_toArray, List.set_cons_zero, List.set_cons_succ]), (by simp only [Act.put, List.setIfInBounds_toArray, List.set_cons_zero, List.set_cons_succ]), hb, cd0, (fun _ => rfl), (fun _ => rfl), cd3, cd4, cd5, cd6, cd7, cd8, cd9, cd10, cd11, f_o12, f_s11⟩
                · rintro L a w ⟨b0, b1, b2, b3, b4, b5, b6, b7, b8, b9, b10, b11, x38, x39, x40, x41, x42, x43, x44, x45, x46, x47, x48, x7, rfl, rfl, hb, cd0, cd1, cd2, cd3, cd4, cd5, cd6, cd7, cd8, cd9, cd10, cd11, f_o12, f_s11⟩ hf hd
                  have hf' : b3 = false := hf
                  subst hf'
                  have d2 : b2 = true := hd ⟨2, .data⟩ (by simp) rfl
                  subst d2
                  have d1 : b1 = true := hd ⟨1, .guard⟩ (by simp) rfl
                  subst d1
                  obtain rfl := cd2.out rfl
                  obtain rfl := cd1.out rfl
                  clear hf hd
                  try simp only [List.setIfInBounds_toArray, List.set_cons_zero, List.set_cons_succ]
                  have z0 := (hb.cell hpB).trans c0_
                  intro K hK
                  rw [if_pos (by rfl)]
                  go_simp
                  exact hK.out _ _ ⟨b0, true, true, true, b4, b5, b6, b7, b8, b9, b10, b11, x38, .bool true, .pointer (some ⟨p, 0, none⟩), (.slice (some ⟨rb, roff, none⟩) hn hc), x42, x43, x44, x45, x46, x47, x48, x7, (by simp only [Act.put, List.setIfInBounds_toArray, List.set_cons_zero, List.set_cons_succ]), (by simp only [Act.put, List.setIfInBounds_toArray, List.set_cons_zero, List.set_cons_succ]), hb, cd0, (fun _ => rfl), (fun _ => rfl), (fun _ => rfl), cd4, cd5, cd6, cd7, cd8, cd9, cd10, cd11, f_o12, f_s11⟩
                · rintro L a w ⟨b0, b1, b2, b3, b4, b5, b6, b7, b8, b9, b10, b11, x38, x39, x40, x41, x42, x43, x44, x45, x46, x47, x48, x7, rfl, rfl, hb, cd0, cd1, cd2, cd3, cd4, cd5, cd6, cd7, cd8, cd9, cd10, cd11, f_o12, f_s11⟩ hf hd
                  have hf' : b4 = false := hf
                  subst hf'
                  have d1 : b1 = true := hd ⟨1, .guard⟩ (by simp) rfl
                  subst d1
                  obtain rfl := cd1.out rfl
                  clear hf hd
                  try simp only [List.setIfInBounds_toArray, List.set_cons_zero, List.set_cons_succ]
                  intro K hK
                  rw [if_pos (by rfl)]
                  go_simp
                  exact hK.out _ _ ⟨b0, true, b2, b3, true, b5, b6, b7, b8, b9, b10, b11, x38, .bool true, x40, x41, (.int .i64 (i : Nat)), x43, x44, x45, x46, x47, x48, x7, (by simp only [Act.put, List.setIfInBounds_toArray, List.set_cons_zero, List.set_cons_succ]), (by simp only [Act.put, List.setIfInBounds_toArray, List.set_cons_zero, List.set_cons_succ]), hb, cd0, (fun _ => rfl), cd2, cd3, (fun _ => rfl), cd5, cd6, cd7, cd8, cd9, cd10, cd11, f_o12, f_s11⟩
                · rintro L a w ⟨b0, b1, b2, b3, b4, b5, b6, b7, b8, b9, b10, b11, x38, x39, x40, x41, x42, x43, x44, x45, x46, x47, x48, x7, rfl, rfl, hb, cd0, cd1, cd2, cd3, cd4, cd5, cd6, cd7, cd8, cd9, cd10, cd11, f_o12, f_s11⟩ hf hd
                  have hf' : b5 = false := hf
                  subst hf'
                  have d3 : b3 = true := hd ⟨3, .data⟩ (by simp) rfl
                  subst d3
                  have d4 : b4 = true := hd ⟨4, .data⟩ (by simp) rfl
                  subst d4
                  have d1 : b1 = true := hd ⟨1, .guard⟩ (by simp) rfl
                  subst d1
                  obtain rfl := cd3.out rfl
                  obtain rfl := cd4.out rfl
                  obtain rfl := cd1.out rfl
                  clear hf hd
                  try simp only [List.setIfInBounds_toArray, List.set_cons_zero, List.set_cons_succ]
                  intro K hK
                  rw [if_pos (by rfl)]
                  go_simp
                  exact hK.out _ _ ⟨b0, true, b2, true, true, true, b6, b7, b8, b9, b10, b11, x38, .bool true, x40, .slice (some ⟨rb, roff, none⟩) hn hc, .int .i64 (i : Nat), (.pointer (some ⟨rb, roff + i * 3, none⟩)), x44, x45, x46, x47, x48, x7, (by simp only [Act.put, List.setIfInBounds_toArray, List.set_cons_zero, List.set_cons_succ]), (by simp only [Act.put, List.setIfInBounds_toArray, List.set_cons_zero, List.set_cons_succ]), hb, cd0, (fun _ => rfl), cd2, (fun _ => rfl), (fun _ => rfl), (fun _ => rfl), cd6, cd7, cd8, cd9, cd10, cd11, f_o12, f_s11⟩
                · rintro L a w ⟨b0, b1, b2, b3, b4, b5, b6, b7, b8, b9, b10, b11, x38, x39, x40, x41, x42, x43, x44, x45, x46, x47, x48, x7, rfl, rfl, hb, cd0, cd1, cd2, cd3, cd4, cd5, cd6, cd7, cd8, cd9, cd10, cd11, f_o12, f_s11⟩ hf hd
                  have hf' : b6 = false := hf
                  subst hf'
                  have d5 : b5 = true := hd ⟨5, .data⟩ (by simp) rfl
                  subst d5
                  have d1 : b1 = true := hd ⟨1, .guard⟩ (by simp) rfl
                  subst d1
                  obtain rfl := cd5.out rfl
                  obtain rfl := cd1.out rfl
                  clear hf hd
                  try simp only [List.setIfInBounds_toArray, List.set_cons_zero, List.set_cons_succ]
                  have z0 := (hb.cell hbB).trans y0_
                  have z1 := (hb.cell hbB).trans y1_
                  have z2 := (hb.cell hbB).trans y2_
                  intro K hK
                  rw [if_pos (by rfl)]
                  go_simp
                  exact hK.out _ _ ⟨b0, true, b2, b3, b4, true, true, b7, b8, b9, b10, b11, x38, .bool true, x40, x41, x42, .pointer (some ⟨rb, roff + i * 3, none⟩), (.agg #[.int .i64 s, .string (bsOf t), .bool yx]), x45, x46, x47, x48, x7, (by simp only [Act.put, List.setIfInBounds_toArray, List.set_cons_zero, List.set_cons_succ]), (by simp only [Act.put, List.setIfInBounds_toArray, List.set_cons_zero, List.set_cons_succ]), hb, cd0, (fun _ => rfl), cd2, cd3, cd4, (fun _ => rfl), (fun _ => rfl), cd7, cd8, cd9, cd10, cd11, f_o12, f_s11⟩
                · rintro L a w ⟨b0, b1, b2, b3, b4, b5, b6, b7, b8, b9, b10, b11, x38, x39, x40, x41, x42, x43, x44, x45, x46, x47, x48, x7, rfl, rfl, hb, cd0, cd1, cd2, cd3, cd4, cd5, cd6, cd7, cd8, cd9, cd10, cd11, f_o12, f_s11⟩ hf hd
                  have hf' : b7 = false := hf
                  subst hf'
                  have d1 : b1 = true := hd ⟨1, .guard⟩ (by simp) rfl
                  subst d1
                  obtain rfl := cd1.out rfl
                  clear hf hd
                  try simp only [List.setIfInBounds_toArray, List.set_cons_zero, List.set_cons_succ]
                  have z0 := (hb.cell hrB).trans z0_
                  have z1 := (hb.cell hrB).trans z1_
                  have z2 := (hb.cell hrB).trans z2_
                  intro K hK
                  rw [if_pos (by rfl)]
                  go_simp
                  exact hK.out _ _ ⟨b0, true, b2, b3, b4, b5, b6, true, b8, b9, b10, b11, x38, .bool true, x40, x41, x42, x43, x44, (.agg #[.int .i64 s, .string (bsOf t), .bool x]), x46, x47, x48, x7, (by simp only [Act.put, List.setIfInBounds_toArray, List.set_cons_zero, List.set_cons_succ]), (by simp only [Act.put, List.setIfInBounds_toArray, List.set_cons_zero, List.set_cons_succ]), hb, cd0, (fun _ => rfl), cd2, cd3, cd4, cd5, cd6, (fun _ => rfl), cd8, cd9, cd10, cd11, f_o12, f_s11⟩
                · rintro L a w ⟨b0, b1, b2, b3, b4, b5, b6, b7, b8, b9, b10, b11, x38, x39, x40, x41, x42, x43, x44, x45, x46, x47, x48, x7, rfl, rfl, hb, cd0, cd1, cd2, cd3, cd4, cd5, cd6, cd7, cd8, cd9, cd10, cd11, f_o12, f_s11⟩ hf hd
                  have hf' : b8 = false := hf
                  subst hf'
                  have d6 : b6 = true := hd ⟨6, .data⟩ (by simp) rfl
                  subst d6
                  have d7 : b7 = true := hd ⟨7, .data⟩ (by simp) rfl
                  subst d7
                  have d1 : b1 = true := hd ⟨1, .chain⟩ (by simp) rfl
                  subst d1
                  obtain rfl := cd6.out rfl
                  obtain rfl := cd7.out rfl
                  obtain rfl := cd1.out rfl
                  clear hf hd
                  try simp only [List.setIfInBounds_toArray, List.set_cons_zero, List.set_cons_succ]
                  intro K hK
                  rw [if_pos (by rfl)]
                  go_simp
                  go_at_call 107
                  refine (HC _).mono ?_
                  rintro e w' ⟨rfl, bx⟩
                  exact hK.out _ _ ⟨b0, true, b2, b3, b4, b5, true, true, true, b9, b10, b11, x38, .bool true, x40, x41, x42, x43, .agg #[.int .i64 s, .string (bsOf t), .bool yx], .agg #[.int .i64 s, .string (bsOf t), .bool x], (.bool cl), x47, x48, x7, (by simp only [Act.put, List.setIfInBounds_toArray, List.set_cons_zero, List.set_cons_succ]), (by simp only [Act.put, List.setIfInBounds_toArray, List.set_cons_zero, List.set_cons_succ]), hb.trans (bx.mono (Nat.le_trans hB0 hb.size)), cd0, (fun _ => rfl), cd2, cd3, cd4, cd5, (fun _ => rfl), (fun _ => rfl), (fun _ => rfl), cd9, cd10, cd11, f_o12, f_s11⟩
                · rintro L a w ⟨b0, b1, b2, b3, b4, b5, b6, b7, b8, b9, b10, b11, x38, x39, x40, x41, x42, x43, x44, x45, x46, x47, x48, x7, rfl, rfl, hb, cd0, cd1, cd2, cd3, cd4, cd5, cd6, cd7, cd8, cd9, cd10, cd11, f_o12, f_s11⟩ hf hd
                  have hf' : b9 = false := hf
                  subst hf'
                  have d8 : b8 = true := hd ⟨8, .data⟩ (by simp) rfl
                  subst d8
                  have d1 : b1 = true := hd ⟨1, .guard⟩ (by simp) rfl
                  subst d1
                  obtain rfl := cd8.out rfl
                  obtain rfl := cd1.out rfl
                  clear hf hd
                  try simp only [List.setIfInBounds_toArray, List.set_cons_zero, List.set_cons_succ]
                  intro K hK
                  rw [if_pos (by rfl)]
                  go_simp
                  exact hK.out _ _ ⟨b0, true, b2, b3, b4, b5, b6, b7, true, true, b10, b11, x38, .bool true, x40, x41, x42, x43, x44, x45, .bool cl, (.bool (!cl)), x48, x7, (by simp only [Act.put, List.setIfInBounds_toArray, List.set_cons_zero, List.set_cons_succ]), (by simp only [Act.put, List.setIfInBounds_toArray, List.set_cons_zero, List.set_cons_succ]), hb, cd0, (fun _ => rfl), cd2, cd3, cd4, cd5, cd6, cd7, (fun _ => rfl), (fun _ => rfl), cd10, cd11, f_o12, f_s11⟩
                · rintro L a w ⟨b0, b1, b2, b3, b4, b5, b6, b7, b8, b9, b10, b11, x38, x39, x40, x41, x42, x43, x44, x45, x46, x47, x48, x7, rfl, rfl, hb, cd0, cd1, cd2, cd3, cd4, cd5, cd6, cd7, cd8, cd9, cd10, cd11, f_o12, f_s11⟩ hf hd
                  have hf' : b10 = false := hf
                  subst hf'
                  have d1 : b1 = true := hd ⟨1, .data⟩ (by simp) rfl
                  subst d1
                  have d9 : b9 = true := hd ⟨9, .data⟩ (by simp) rfl
                  subst d9
                  obtain rfl := cd1.out rfl
                  obtain rfl := cd9.out rfl
                  clear hf hd
                  try simp only [List.setIfInBounds_toArray, List.set_cons_zero, List.set_cons_succ]
                  intro K hK
                  rw [if_pos (by rfl)]
                  go_simp
                  exact hK.out _ _ ⟨b0, true, b2, b3, b4, b5, b6, b7, b8, true, true, b11, x38, .bool true, x40, x41, x42, x43, x44, x45, x46, .bool (!cl), (.bool (!cl)), x7, (by simp only [Act.put, List.setIfInBounds_toArray, List.set_cons_zero, List.set_cons_succ]), (by simp only [Act.put, List.setIfInBounds_toArray, List.set_cons_zero, List.set_cons_succ]), hb, cd0, (fun _ => rfl), cd2, cd3, cd4, cd5, cd6, cd7, cd8, (fun _ => rfl), (fun _ => rfl), cd11, f_o12, f_s11⟩
                · rintro L a w ⟨b0, b1, b2, b3, b4, b5, b6, b7, b8, b9, b10, b11, x38, x39, x40, x41, x42, x43, x44, x45, x46, x47, x48, x7, rfl, rfl, hb, cd0, cd1, cd2, cd3, cd4, cd5, cd6, cd7, cd8, cd9, cd10, cd11, f_o12, f_s11⟩ hf hd
                  have hf' : b11 = false := hf
                  subst hf'
                  have d10 : b10 = true := hd ⟨10, .data⟩ (by simp) rfl
                  subst d10
                  have d8 : b8 = true := hd ⟨8, .chain⟩ (by simp) rfl
                  subst d8
                  have d0 : b0 = true := hd ⟨0, .phase⟩ (by simp) rfl
                  subst d0
                  have d1 : b1 = true := hd ⟨1, .phase⟩ (by simp) rfl
                  subst d1
                  have d2 : b2 = true := hd ⟨2, .phase⟩ (by simp) rfl
                  subst d2
                  have d3 : b3 = true := hd ⟨3, .phase⟩ (by simp) rfl
                  subst d3
                  have d4 : b4 = true := hd ⟨4, .phase⟩ (by simp) rfl
                  subst d4
                  have d5 : b5 = true := hd ⟨5, .phase⟩ (by simp) rfl
                  subst d5
                  have d6 : b6 = true := hd ⟨6, .phase⟩ (by simp) rfl
                  subst d6
                  have d7 : b7 = true := hd ⟨7, .phase⟩ (by simp) rfl
                  subst d7
                  have d9 : b9 = true := hd ⟨9, .phase⟩ (by simp) rfl
                  subst d9
                  obtain rfl := cd10.out rfl
                  obtain rfl := cd8.out rfl
                  obtain rfl := cd0.out rfl
                  obtain rfl := cd1.out rfl
                  obtain rfl := cd2.out rfl
                  obtain rfl := cd3.out rfl
                  obtain rfl := cd4.out rfl
                  obtain rfl := cd5.out rfl
                  obtain rfl := cd6.out rfl
                  obtain rfl := cd7.out rfl
                  obtain rfl := cd9.out rfl
                  clear hf hd
                  have W_s11 := f_s11.out rfl
                  try simp only [List.setIfInBounds_toArray, List.set_cons_zero, List.set_cons_succ]
                  intro K hK
                  rw [if_pos (by rfl)]
                  go_simp
                  exact hK.out _ _ ⟨true, true, true, true, true, true, true, true, true, true, true, true, .bool true, .bool true, .pointer (some ⟨p, 0, none⟩), .slice (some ⟨rb, roff, none⟩) hn hc, .int .i64 (i : Nat), .pointer (some ⟨rb, roff + i * 3, none⟩), .agg #[.int .i64 s, .string (bsOf t), .bool yx], .agg #[.int .i64 s, .string (bsOf t), .bool x], .bool cl, .bool (!cl), .bool (!cl), (.bool (!cl)), (by simp only [Act.put, List.setIfInBounds_toArray, List.set_cons_zero, List.set_cons_succ]), (by simp only [Act.put, List.setIfInBounds_toArray, List.set_cons_zero, List.set_cons_succ]), hb, (fun _ => rfl), (fun _ => rfl), (fun _ => rfl), (fun _ => rfl), (fun _ => rfl), (fun _ => rfl), (fun _ => rfl), (fun _ => rfl), (fun _ => rfl), (fun _ => rfl), (fun _ => rfl), (fun _ => rfl), (fun _ => rfl), (fun h => by cases h)⟩
              · rintro act V ⟨b0, b1, b2, b3, b4, b5, b6, b7, b8, b9, b10, b11, x38, x39, x40, x41, x42, x43, x44, x45, x46, x47, x48, x7, hL, rfl, hb, cd0, cd1, cd2, cd3, cd4, cd5, cd6, cd7, cd8, cd9, cd10, cd11, f_o12, f_s11⟩
                have hL' : [true, true, true, true, true, true, true, true, true, true, true, true] = [b0, b1, b2, b3, b4, b5, b6, b7, b8, b9, b10, b11] := congrArg Array.toList hL
                simp only [List.cons.injEq, and_true] at hL'
                obtain ⟨rfl, rfl, rfl, rfl, rfl, rfl, rfl, rfl, rfl, rfl, rfl, rfl⟩ := hL'
                obtain rfl := cd0.out rfl
                obtain rfl := cd1.out rfl
                obtain rfl := cd2.out rfl
                obtain rfl := cd3.out rfl
                obtain rfl := cd4.out rfl
                obtain rfl := cd5.out rfl
                obtain rfl := cd6.out rfl
                obtain rfl := cd7.out rfl
                obtain rfl := cd8.out rfl
                obtain rfl := cd9.out rfl
                obtain rfl := cd10.out rfl
                obtain rfl := cd11.out rfl
                have W_o12 := f_o12.out rfl
                clear hL f_o12 f_s11 cd0 cd1 cd2 cd3 cd4 cd5 cd6 cd7 cd8 cd9 cd10 cd11
                simp only [List.setIfInBounds_toArray, List.set_cons_zero, List.set_cons_succ]
                have BU := BU.trans (((Below.refl _ _).drew.trans hb).mono BU.size)
                clear hb
                go_wp2_with fail
                go_roundw
                case rel => exact ⟨_, _, i + 1, rfl, rfl, by go_num, by omega, hA2, hF2, BU⟩
                case measure => simp [intOf]; omega
        · have f1 : ¬ ((bsOf yt).toList = (bsOf t).toList) := by
            rw [ByteArray.toList_eq, ByteArray.toList_eq, bsOf_toList, bsOf_toList]
            exact fun e => q2 e.symm
          have f2 : ((bsOf yt).toList == (bsOf t).toList) = false := by simpa using f1
          have hA2 := Lib.hid (hA.out.miss hyh.out (fun e => q2 e.2.symm))
          clear hA q2
          refine region_inv (Ask6S W7.heap.size p r rb roff hn hc i yt s t) (by kernel_rfl) (by kernel_rfl) ?_ ?_ ?_
          · exact ⟨false, false, false, false, false, false, false, false, false, false, false, false, false, false, false, false, false, false, false, false, u17, u18, u19, u20, u21, u22, u23, u24, u25, u26, u27, u28, u29, u30, u31, u32, u33, u34, u35, u36, rfl, (by simp only [Act.put, List.setIfInBounds_toArray, List.set_cons_zero, List.set_cons_succ]), Below.refl _ _, (fun h => by cases h), (fun h => by cases h), (fun h => by cases h), (fun h => by cases h), (fun h => by cases h), (fun h => by cases h), (fun h => by cases h), (fun h => by cases h), (fun h => by cases h), (fun h => by cases h), (fun h => by cases h), (fun h => by cases h), (fun h => by cases h), (fun h => by cases h), (fun h => by cases h), (fun h => by cases h), (fun h => by cases h), (fun h => by cases h), (fun h => by cases h), (fun h => by cases h)⟩
          · refine ⟨?_, ?_, ?_, ?_, ?_, ?_, ?_, ?_, ?_, ?_, ?_, ?_, ?_, ?_, ?_, ?_, ?_, ?_, ?_, ?_, trivial⟩
            · rintro L a w ⟨b0, b1, b2, b3, b4, b5, b6, b7, b8, b9, b10, b11, b12, b13, b14, b15, b16, b17, b18, b19, x17, x18, x19, x20, x21, x22, x23, x24, x25, x26, x27, x28, x29, x30, x31, x32, x33, x34, x35, x36, rfl, rfl, hb, cd0, cd1, cd2, cd3, cd4, cd5, cd6, cd7, cd8, cd9, cd10, cd11, cd12, cd13, cd14, cd15, cd16, cd17, cd18, cd19⟩ hf hd
              have hf' : b0 = false := hf
              subst hf'
              clear hf hd
              try simp only [List.setIfInBounds_toArray, List.set_cons_zero, List.set_cons_succ]
              intro K hK
              rw [if_pos (by rfl)]
              go_simp
              exact hK.out _ _ ⟨true, b1, b2, b3, b4, b5, b6, b7, b8, b9, b10, b11, b12, b13, b14, b15, b16, b17, b18, b19, (.pointer (some ⟨p, 0, none⟩)), x18, x19, x20, x21, x22, x23, x24, x25, x26, x27, x28, x29, x30, x31, x32, x33, x34, x35, x36, (by simp only [Act.put, List.setIfInBounds_toArray, List.set_cons_zero, List.set_cons_succ]), (by simp only [Act.put, List.setIfInBounds_toArray, List.set_cons_zero, List.set_cons_succ]), hb, (fun _ => rfl), cd1, cd2, cd3, cd4, cd5, cd6, cd7, cd8, cd9, cd10, cd11, cd12, cd13, cd14, cd15, cd16, cd17, cd18, cd19⟩
            · rintro L a w ⟨b0, b1, b2, b3, b4, b5, b6, b7, b8, b9, b10, b11, b12, b13, b14, b15, b16, b17, b18, b19, x17, x18, x19, x20, x21, x22, x23, x24, x25, x26, x27, x28, x29, x30, x31, x32, x33, x34, x35, x36, rfl, rfl, hb, cd0, cd1, cd2, cd3, cd4, cd5, cd6, cd7, cd8, cd9, cd10, cd11, cd12, cd13, cd14, cd15, cd16, cd17, cd18, cd19⟩ hf hd
              have hf' : b1 = false := hf
              subst hf'
              have d0 : b0 = true := hd ⟨0, .data⟩ (by simp) rfl
              subst d0
              obtain rfl := cd0.out rfl
              clear hf hd
              try simp only [List.setIfInBounds_toArray, List.set_cons_zero, List.set_cons_succ]
              have z0 := (hb.cell hpB).trans c0_
              intro K hK
              rw [if_pos (by rfl)]
              go_simp
              exact hK.out _ _ ⟨true, true, b2, b3, b4, b5, b6, b7, b8, b9, b10, b11, b12, b13, b14, b15, b16, b17, b18, b19, .pointer (some ⟨p, 0, none⟩), (.slice (some ⟨rb, roff, none⟩) hn hc), x19, x20, x21, x22, x23, x24, x25, x26, x27, x28, x29, x30, x31, x32, x33, x34, x35, x36, (by simp only [Act.put, List.setIfInBounds_toArray, List.set_cons_zero, List.set_cons_succ]), (by simp only [Act.put, List.setIfInBounds_toArray, List.set_cons_zero, List.set_cons_succ]), hb, (fun _ => rfl), (fun _ => rfl), cd2, cd3, cd4, cd5, cd6, cd7, cd8, cd9, cd10, cd11, cd12, cd13, cd14, cd15, cd16, cd17, cd18, cd19⟩
            · rintro L a w ⟨b0, b1, b2, b3, b4, b5, b6, b7, b8, b9, b10, b11, b12, b13, b14, b15, b16, b17, b18, b19, x17, x18, x19, x20, x21, x22, x23, x24, x25, x26, x27, x28, x29, x30, x31, x32, x33, x34, x35, x36, rfl, rfl, hb, cd0, cd1, cd2, cd3, cd4, cd5, cd6, cd7, cd8, cd9, cd10, cd11, cd12, cd13, cd14, cd15, cd16, cd17, cd18, cd19⟩ hf hd
              have hf' : b2 = false := hf
              subst hf'
              clear hf hd
              try simp only [List.setIfInBounds_toArray, List.set_cons_zero, List.set_cons_succ]
              intro K hK
              rw [if_pos (by rfl)]
              go_simp
              exact hK.out _ _ ⟨b0, b1, true, b3, b4, b5, b6, b7, b8, b9, b10, b11, b12, b13, b14, b15, b16, b17, b18, b19, x17, x18, (.int .i64 (i : Nat)), x20, x21, x22, x23, x24, x25, x26, x27, x28, x29, x30, x31, x32, x33, x34, x35, x36, (by simp only [Act.put, List.setIfInBounds_toArray, List.set_cons_zero, List.set_cons_succ]), (by simp only [Act.put, List.setIfInBounds_toArray, List.set_cons_zero, List.set_cons_succ]), hb, cd0, cd1, (fun _ => rfl), cd3, cd4, cd5, cd6, cd7, cd8, cd9, cd10, cd11, cd12, cd13, cd14, cd15, cd16, cd17, cd18, cd19⟩
            · rintro L a w ⟨b0, b1, b2, b3, b4, b5, b6, b7, b8, b9, b10, b11, b12, b13, b14, b15, b16, b17, b18, b19, x17, x18, x19, x20, x21, x22, x23, x24, x25, x26, x27, x28, x29, x30, x31, x32, x33, x34, x35, x36, rfl, rfl, hb, cd0, cd1, cd2, cd3, cd4, cd5, cd6, cd7, cd8, cd9, cd10, cd11, cd12, cd13, cd14, cd15, cd16, cd17, cd18, cd19⟩ hf hd
              have hf' : b3 = false := hf
              subst hf'
              have d1 : b1 = true := hd ⟨1, .data⟩ (by simp) rfl
              subst d1
              have d2 : b2 = true := hd ⟨2, .data⟩ (by simp) rfl
              subst d2
              obtain rfl := cd1.out rfl
              obtain rfl := cd2.out rfl
              clear hf hd
              try simp only [List.setIfInBounds_toArray, List.set_cons_zero, List.set_cons_succ]
              intro K hK
              rw [if_pos (by rfl)]
              go_simp
              exact hK.out _ _ ⟨b0, true, true, true, b4, b5, b6, b7, b8, b9, b10, b11, b12, b13, b14, b15, b16, b17, b18, b19, x17, .slice (some ⟨rb, roff, none⟩) hn hc, .int .i64 (i : Nat), (.pointer (some ⟨rb, roff + i * 3, none⟩)), x21, x22, x23, x24, x25, x26, x27, x28, x29, x30, x31, x32, x33, x34, x35, x36, (by simp only [Act.put, List.setIfInBounds_toArray, List.set_cons_zero, List.set_cons_succ]), (by simp only [Act.put, List.setIfInBounds_toArray, List.set_cons_zero, List.set_cons_succ]), hb, cd0, (fun _ => rfl), (fun _ => rfl), (fun _ => rfl), cd4, cd5, cd6, cd7, cd8, cd9, cd10, cd11, cd12, cd13, cd14, cd15, cd16, cd17, cd18, cd19⟩
            · rintro L a w ⟨b0, b1, b2, b3, b4, b5, b6, b7, b8, b9, b10, b11, b12, b13, b14, b15, b16, b17, b18, b19, x17, x18, x19, x20, x21, x22, x23, x24, x25, x26, x27, x28, x29, x30, x31, x32, x33, x34, x35, x36, rfl, rfl, hb, cd0, cd1, cd2, cd3, cd4, cd5, cd6, cd7, cd8, cd9, cd10, cd11, cd12, cd13, cd14, cd15, cd16, cd17, cd18, cd19⟩ hf hd
              have hf' : b4 = false := hf
              subst hf'
              have d3 : b3 = true := hd ⟨3, .data⟩ (by simp) rfl
              subst d3
              obtain rfl := cd3.out rfl
              clear hf hd
              try simp only [List.setIfInBounds_toArray, List.set_cons_zero, List.set_cons_succ]
              intro K hK
              rw [if_pos (by rfl)]
              go_simp
              exact hK.out _ _ ⟨b0, b1, b2, true, true, b5, b6, b7, b8, b9, b10, b11, b12, b13, b14, b15, b16, b17, b18, b19, x17, x18, x19, .pointer (some ⟨rb, roff + i * 3, none⟩), (.pointer (some ⟨rb, roff + i * 3, none⟩)), x22, x23, x24, x25, x26, x27, x28, x29, x30, x31, x32, x33, x34, x35, x36, (by simp only [Act.put, List.setIfInBounds_toArray, List.set_cons_zero, List.set_cons_succ]), (by simp only [Act.put, List.setIfInBounds_toArray, List.set_cons_zero, List.set_cons_succ]), hb, cd0, cd1, cd2, (fun _ => rfl), (fun _ => rfl), cd5, cd6, cd7, cd8, cd9, cd10, cd11, cd12, cd13, cd14, cd15, cd16, cd17, cd18, cd19⟩
            · rintro L a w ⟨b0, b1, b2, b3, b4, b5, b6, b7, b8, b9, b10, b11, b12, b13, b14, b15, b16, b17, b18, b19, x17, x18, x19, x20, x21, x22, x23, x24, x25, x26, x27, x28, x29, x30, x31, x32, x33, x34, x35, x36, rfl, rfl, hb, cd0, cd1, cd2, cd3, cd4, cd5, cd6, cd7, cd8, cd9, cd10, cd11, cd12, cd13, cd14, cd15, cd16, cd17, cd18, cd19⟩ hf hd
              have hf' : b5 = false := hf
              subst hf'
              have d4 : b4 = true := hd ⟨4, .data⟩ (by simp) rfl
              subst d4
              obtain rfl := cd4.out rfl
              clear hf hd
              try simp only [List.setIfInBounds_toArray, List.set_cons_zero, List.set_cons_succ]
              have z0 := (hb.cell hbB).trans y0_
              intro K hK
              rw [if_pos (by rfl)]
              go_simp
              exact hK.out _ _ ⟨b0, b1, b2, b3, true, true, b6, b7, b8, b9, b10, b11, b12, b13, b14, b15, b16, b17, b18, b19, x17, x18, x19, x20, .pointer (some ⟨rb, roff + i * 3, none⟩), (.int .i64 s), x23, x24, x25, x26, x27, x28, x29, x30, x31, x32, x33, x34, x35, x36, (by simp only [Act.put, List.setIfInBounds_toArray, List.set_cons_zero, List.set_cons_succ]), (by simp only [Act.put, List.setIfInBounds_toArray, List.set_cons_zero, List.set_cons_succ]), hb, cd0, cd1, cd2, cd3, (fun _ => rfl), (fun _ => rfl), cd6, cd7, cd8, cd9, cd10, cd11, cd12, cd13, cd14, cd15, cd16, cd17, cd18, cd19⟩
            · rintro L a w ⟨b0, b1, b2, b3, b4, b5, b6, b7, b8, b9, b10, b11, b12, b13, b14, b15, b16, b17, b18, b19, x17, x18, x19, x20, x21, x22, x23, x24, x25, x26, x27, x28, x29, x30, x31, x32, x33, x34, x35, x36, rfl, rfl, hb, cd0, cd1, cd2, cd3, cd4, cd5, cd6, cd7, cd8, cd9, cd10, cd11, cd12, cd13, cd14, cd15, cd16, cd17, cd18, cd19⟩ hf hd
              have hf' : b6 = false := hf
              subst hf'
              clear hf hd
              try simp only [List.setIfInBounds_toArray, List.set_cons_zero, List.set_cons_succ]
              intro K hK
              rw [if_pos (by rfl)]
              go_simp
              exact hK.out _ _ ⟨b0, b1, b2, b3, b4, b5, true, b7, b8, b9, b10, b11, b12, b13, b14, b15, b16, b17, b18, b19, x17, x18, x19, x20, x21, x22, (.pointer (some ⟨r, 0, none⟩)), x24, x25, x26, x27, x28, x29, x30, x31, x32, x33, x34, x35, x36, (by simp only [Act.put, List.setIfInBounds_toArray, List.set_cons_zero, List.set_cons_succ]), (by simp only [Act.put, List.setIfInBounds_toArray, List.set_cons_zero, List.set_cons_succ]), hb, cd0, cd1, cd2, cd3, cd4, cd5, (fun _ => rfl), cd7, cd8, cd9, cd10, cd11, cd12, cd13, cd14, cd15, cd16, cd17, cd18, cd19⟩
            · rintro L a w ⟨b0, b1, b2, b3, b4, b5, b6, b7, b8, b9, b10, b11, b12, b13, b14, b15, b16, b17, b18, b19, x17, x18, x19, x20, x21, x22, x23, x24, x25, x26, x27, x28, x29, x30, x31, x32, x33, x34, x35, x36, rfl, rfl, hb, cd0, cd1, cd2, cd3, cd4, cd5, cd6, cd7, cd8, cd9, cd10, cd11, cd12, cd13, cd14, cd15, cd16, cd17, cd18, cd19⟩ hf hd
              have hf' : b7 = false := hf
              subst hf'
              have d6 : b6 = true := hd ⟨6, .data⟩ (by simp) rfl
              subst d6
              obtain rfl := cd6.out rfl
              clear hf hd
              try simp only [List.setIfInBounds_toArray, List.set_cons_zero, List.set_cons_succ]
              have z0 := (hb.cell hrB).trans z0_
              intro K hK
              rw [if_pos (by rfl)]
              go_simp
              exact hK.out _ _ ⟨b0, b1, b2, b3, b4, b5, true, true, b8, b9, b10, b11, b12, b13, b14, b15, b16, b17, b18, b19, x17, x18, x19, x20, x21, x22, .pointer (some ⟨r, 0, none⟩), (.int .i64 s), x25, x26, x27, x28, x29, x30, x31, x32, x33, x34, x35, x36, (by simp only [Act.put, List.setIfInBounds_toArray, List.set_cons_zero, List.set_cons_succ]), (by simp only [Act.put, List.setIfInBounds_toArray, List.set_cons_zero, List.set_cons_succ]), hb, cd0, cd1, cd2, cd3, cd4, cd5, (fun _ => rfl), (fun _ => rfl), cd8, cd9, cd10, cd11, cd12, cd13, cd14, cd15, cd16, cd17, cd18, cd19⟩
            · rintro L a w ⟨b0, b1, b2, b3, b4, b5, b6, b7, b8, b9, b10, b11, b12, b13, b14, b15, b16, b17, b18, b19, x17, x18, x19, x20, x21, x22, x23, x24, x25, x26, x27, x28, x29, x30, x31, x32, x33, x34, x35, x36, rfl, rfl, hb, cd0, cd1, cd2, cd3, cd4, cd5, cd6, cd7, cd8, cd9, cd10, cd11, cd12, cd13, cd14, cd15, cd16, cd17, cd18, cd19⟩ hf hd
              have hf' : b8 = false := hf
              subst hf'
              have d5 : b5 = true := hd ⟨5, .data⟩ (by simp) rfl
              subst d5
              have d7 : b7 = true := hd ⟨7, .data⟩ (by simp) rfl
              subst d7
              obtain rfl := cd5.out rfl
              obtain rfl := cd7.out rfl
              clear hf hd
              try simp only [List.setIfInBounds_toArray, List.set_cons_zero, List.set_cons_succ]
              intro K hK
              rw [if_pos (by rfl)]
              go_simp
              exact hK.out _ _ ⟨b0, b1, b2, b3, b4, true, b6, true, true, b9, b10, b11, b12, b13, b14, b15, b16, b17, b18, b19, x17, x18, x19, x20, x21, .int .i64 s, x23, .int .i64 s, (.bool true), x26, x27, x28, x29, x30, x31, x32, x33, x34, x35, x36, (by simp only [Act.put, List.setIfInBounds_toArray, List.set_cons_zero, List.set_cons_succ]), (by simp only [Act.put, List.setIfInBounds_toArray, List.set_cons_zero, List.set_cons_succ]), hb, cd0, cd1, cd2, cd3, cd4, (fun _ => rfl), cd6, (fun _ => rfl), (fun _ => rfl), cd9, cd10, cd11, cd12, cd13, cd14, cd15, cd16, cd17, cd18, cd19⟩
            · rintro L a w ⟨b0, b1, b2, b3, b4, b5, b6, b7, b8, b9, b10, b11, b12, b13, b14, b15, b16, b17, b18, b19, x17, x18, x19, x20, x21, x22, x23, x24, x25, x26, x27, x28, x29, x30, x31, x32, x33, x34, x35, x36, rfl, rfl, hb, cd0, cd1, cd2, cd3, cd4, cd5, cd6, cd7, cd8, cd9, cd10, cd11, cd12, cd13, cd14, cd15, cd16, cd17, cd18, cd19⟩ hf hd
              have hf' : b9 = false := hf
              subst hf'
              have d8 : b8 = true := hd ⟨8, .data⟩ (by simp) rfl
              subst d8
              obtain rfl := cd8.out rfl
              clear hf hd
              try simp only [List.setIfInBounds_toArray, List.set_cons_zero, List.set_cons_succ]
              intro K hK
              rw [if_pos (by rfl)]
              go_simp
              exact hK.out _ _ ⟨b0, b1, b2, b3, b4, b5, b6, b7, true, true, b10, b11, b12, b13, b14, b15, b16, b17, b18, b19, x17, x18, x19, x20, x21, x22, x23, x24, .bool true, (.bool true), x27, x28, x29, x30, x31, x32, x33, x34, x35, x36, (by simp only [Act.put, List.setIfInBounds_toArray, List.set_cons_zero, List.set_cons_succ]), (by simp only [Act.put, List.setIfInBounds_toArray, List.set_cons_zero, List.set_cons_succ]), hb, cd0, cd1, cd2, cd3, cd4, cd5, cd6, cd7, (fun _ => rfl), (fun _ => rfl), cd10, cd11, cd12, cd13, cd14, cd15, cd16, cd17, cd18, cd19⟩
            · rintro L a w ⟨b0, b1, b2, b3, b4, b5, b6, b7, b8, b9, b10, b11, b12, b13, b14, b15, b16, b17, b18, b19, x17, x18, x19, x20, x21, x22, x23, x24, x25, x26, x27, x28, x29, x30, x31, x32, x33, x34, x35, x36, rfl, rfl, hb, cd0, cd1, cd2, cd3, cd4, cd5, cd6, cd7, cd8, cd9, cd10, cd11, cd12, cd13, cd14, cd15, cd16, cd17, cd18, cd19⟩ hf hd
              have hf' : b10 = false := hf
              subst hf'
              have d9 : b9 = true := hd ⟨9, .guard⟩ (by simp) rfl
              subst d9
              obtain rfl := cd9.out rfl
              clear hf hd
              try simp only [List.setIfInBounds_toArray, List.set_cons_zero, List.set_cons_succ]
              intro K hK
              rw [if_pos (by rfl)]
              go_simp
              exact hK.out _ _ ⟨b0, b1, b2, b3, b4, b5, b6, b7, b8, true, true, b11, b12, b13, b14, b15, b16, b17, b18, b19, x17, x18, x19, x20, x21, x22, x23, x24, x25, .bool true, (.pointer (some ⟨p, 0, none⟩)), x28, x29, x30, x31, x32, x33, x34, x35, x36, (by simp only [Act.put, List.setIfInBounds_toArray, List.set_cons_zero, List.set_cons_succ]), (by simp only [Act.put, List.setIfInBounds_toArray, List.set_cons_zero, List.set_cons_succ]), hb, cd0, cd1, cd2, cd3, cd4, cd5, cd6, cd7, cd8, (fun _ => rfl), (fun _ => rfl), cd11, cd12, cd13, cd14, cd15, cd16, cd17, cd18, cd19⟩
            · rintro L a w ⟨b0, b1, b2, b3, b4, b5, b6, b7, b8, b9, b10, b11, b12, b13, b14, b15, b16, b17, b18, b19, x17, x18, x19, x20, x21, x22, x23, x24, x25, x26, x27, x28, x29, x30, x31, x32, x33, x34, x35, x36, rfl, rfl, hb, cd0, cd1, cd2, cd3, cd4, cd5, cd6, cd7, cd8, cd9, cd10, cd11, cd12, cd13, cd14, cd15, cd16, cd17, cd18, cd19⟩ hf hd
              have hf' : b11 = false := hf
              subst hf'
              have d10 : b10 = true := hd ⟨10, .data⟩ (by simp) rfl
              subst d10
              have d9 : b9 = true := hd ⟨9, .guard⟩ (by simp) rfl
              subst d9
              obtain rfl := cd10.out rfl
              obtain rfl := cd9.out rfl
              clear hf hd
              try simp only [List.setIfInBounds_toArray, List.set_cons_zero, List.set_cons_succ]
              have z0 := (hb.cell hpB).trans c0_
              intro K hK
              rw [if_pos (by rfl)]
              go_simp
              exact hK.out _ _ ⟨b0, b1, b2, b3, b4, b5, b6, b7, b8, true, true, true, b12, b13, b14, b15, b16, b17, b18, b19, x17, x18, x19, x20, x21, x22, x23, x24, x25, .bool true, .pointer (some ⟨p, 0, none⟩), (.slice (some ⟨rb, roff, none⟩) hn hc), x29, x30, x31, x32, x33, x34, x35, x36, (by simp only [Act.put, List.setIfInBounds_toArray, List.set_cons_zero, List.set_cons_succ]), (by simp only [Act.put, List.setIfInBounds_toArray, List.set_cons_zero, List.set_cons_succ]), hb, cd0, cd1, cd2, cd3, cd4, cd5, cd6, cd7, cd8, (fun _ => rfl), (fun _ => rfl), (fun _ => rfl), cd12, cd13, cd14, cd15, cd16, cd17, cd18, cd19⟩
            · rintro L a w ⟨b0, b1, b2, b3, b4, b5, b6, b7, b8, b9, b10, b11, b12, b13, b14, b15, b16, b17, b18, b19, x17, x18, x19, x20, x21, x22, x23, x24, x25, x26, x27, x28, x29, x30, x31, x32, x33, x34, x35, x36, rfl, rfl, hb, cd0, cd1, cd2, cd3, cd4, cd5, cd6, cd7, cd8, cd9, cd10, cd11, cd12, cd13, cd14, cd15, cd16, cd17, cd18, cd19⟩ hf hd
              have hf' : b12 = false := hf
              subst hf'
              have d9 : b9 = true := hd ⟨9, .guard⟩ (by simp) rfl
              subst d9
              obtain rfl := cd9.out rfl
              clear hf hd
              try simp only [List.setIfInBounds_toArray, List.set_cons_zero, List.set_cons_succ]
              intro K hK
              rw [if_pos (by rfl)]
              go_simp
              exact hK.out _ _ ⟨b0, b1, b2, b3, b4, b5, b6, b7, b8, true, b10, b11, true, b13, b14, b15, b16, b17, b18, b19, x17, x18, x19, x20, x21, x22, x23, x24, x25, .bool true, x27, x28, (.int .i64 (i : Nat)), x30, x31, x32, x33, x34, x35, x36, (by simp only [Act.put, List.setIfInBounds_toArray, List.set_cons_zero, List.set_cons_succ]), (by simp only [Act.put, List.setIfInBounds_toArray, List.set_cons_zero, List.set_cons_succ]), hb, cd0, cd1, cd2, cd3, cd4, cd5, cd6, cd7, cd8, (fun _ => rfl), cd10, cd11, (fun _ => rfl), cd13, cd14, cd15, cd16, cd17, cd18, cd19⟩
            · rintro L a w ⟨b0, b1, b2, b3, b4, b5, b6, b7, b8, b9, b10, b11, b12, b13, b14, b15, b16, b17, b18, b19, x17, x18, x19, x20, x21, x22, x23, x24, x25, x26, x27, x28, x29, x30, x31, x32, x33, x34, x35, x36, rfl, rfl, hb, cd0, cd1, cd2, cd3, cd4, cd5, cd6, cd7, cd8, cd9, cd10, cd11, cd12, cd13, cd14, cd15, cd16, cd17, cd18, cd19⟩ hf hd
              have hf' : b13 = false := hf
              subst hf'
              have d11 : b11 = true := hd ⟨11, .data⟩ (by simp) rfl
              subst d11
              have d12 : b12 = true := hd ⟨12, .data⟩ (by simp) rfl
              subst d12
              have d9 : b9 = true := hd ⟨9, .guard⟩ (by simp) rfl
              subst d9
              obtain rfl := cd11.out rfl
              obtain rfl := cd12.out rfl
              obtain rfl := cd9.out rfl
              clear hf hd
              try simp only [List.setIfInBounds_toArray, List.set_cons_zero, List.set_cons_succ]
              intro K hK
              rw [if_pos (by rfl)]
              go_simp
              exact hK.out _ _ ⟨b0, b1, b2, b3, b4, b5, b6, b7, b8, true, b10, true, true, true, b14, b15, b16, b17, b18, b19, x17, x18, x19, x20, x21, x22, x23, x24, x25, .bool true, x27, .slice (some ⟨rb, roff, none⟩) hn hc, .int .i64 (i : Nat), (.pointer (some ⟨rb, roff + i * 3, none⟩)), x31, x32, x33, x34, x35, x36, (by simp only [Act.put, List.setIfInBounds_toArray, List.set_cons_zero, List.set_cons_succ]), (by simp only [Act.put, List.setIfInBounds_toArray, List.set_cons_zero, List.set_cons_succ]), hb, cd0, cd1, cd2, cd3, cd4, cd5, cd6, cd7, cd8, (fun _ => rfl), cd10, (fun _ => rfl), (fun _ => rfl), (fun _ => rfl), cd14, cd15, cd16, cd17, cd18, cd19⟩
            · rintro L a w ⟨b0, b1, b2, b3, b4, b5, b6, b7, b8, b9, b10, b11, b12, b13, b14, b15, b16, b17, b18, b19, x17, x18, x19, x20, x21, x22, x23, x24, x25, x26, x27, x28, x29, x30, x31, x32, x33, x34, x35, x36, rfl, rfl, hb, cd0, cd1, cd2, cd3, cd4, cd5, cd6, cd7, cd8, cd9, cd10, cd11, cd12, cd13, cd14, cd15, cd16, cd17, cd18, cd19⟩ hf hd
              have hf' : b14 = false := hf
              subst hf'
              have d13 : b13 = true := hd ⟨13, .data⟩ (by simp) rfl
              subst d13
              have d9 : b9 = true := hd ⟨9, .guard⟩ (by simp) rfl
              subst d9
              obtain rfl := cd13.out rfl
              obtain rfl := cd9.out rfl
              clear hf hd
              try simp only [List.setIfInBounds_toArray, List.set_cons_zero, List.set_cons_succ]
              intro K hK
              rw [if_pos (by rfl)]
              go_simp
              exact hK.out _ _ ⟨b0, b1, b2, b3, b4, b5, b6, b7, b8, true, b10, b11, b12, true, true, b15, b16, b17, b18, b19, x17, x18, x19, x20, x21, x22, x23, x24, x25, .bool true, x27, x28, x29, .pointer (some ⟨rb, roff + i * 3, none⟩), (.pointer (some ⟨rb, roff + i * 3 + 1, none⟩)), x32, x33, x34, x35, x36, (by simp only [Act.put, List.setIfInBounds_toArray, List.set_cons_zero, List.set_cons_succ]), (by simp only [Act.put, List.setIfInBounds_toArray, List.set_cons_zero, List.set_cons_succ]), hb, cd0, cd1, cd2, cd3, cd4, cd5, cd6, cd7, cd8, (fun _ => rfl), cd10, cd11, cd12, (fun _ => rfl), (fun _ => rfl), cd15, cd16, cd17, cd18, cd19⟩
            · rintro L a w ⟨b0, b1, b2, b3, b4, b5, b6, b7, b8, b9, b10, b11, b12, b13, b14, b15, b16, b17, b18, b19, x17, x18, x19, x20, x21, x22, x23, x24, x25, x26, x27, x28, x29, x30, x31, x32, x33, x34, x35, x36, rfl, rfl, hb, cd0, cd1, cd2, cd3, cd4, cd5, cd6, cd7, cd8, cd9, cd10, cd11, cd12, cd13, cd14, cd15, cd16, cd17, cd18, cd19⟩ hf hd
              have hf' : b15 = false := hf
              subst hf'
              have d14 : b14 = true := hd ⟨14, .data⟩ (by simp) rfl
              subst d14
              have d9 : b9 = true := hd ⟨9, .guard⟩ (by simp) rfl
              subst d9
              obtain rfl := cd14.out rfl
              obtain rfl := cd9.out rfl
              clear hf hd
              try simp only [List.setIfInBounds_toArray, List.set_cons_zero, List.set_cons_succ]
              have z0 := (hb.cell hbB).trans y1_
              intro K hK
              rw [if_pos (by rfl)]
              go_simp
              exact hK.out _ _ ⟨b0, b1, b2, b3, b4, b5, b6, b7, b8, true, b10, b11, b12, b13, true, true, b16, b17, b18, b19, x17, x18, x19, x20, x21, x22, x23, x24, x25, .bool true, x27, x28, x29, x30, .pointer (some ⟨rb, roff + i * 3 + 1, none⟩), (.string (bsOf yt)), x33, x34, x35, x36, (by simp only [Act.put, List.setIfInBounds_toArray, List.set_cons_zero, List.set_cons_succ]), (by simp only [Act.put, List.setIfInBounds_toArray, List.set_cons_zero, List.set_cons_succ]), hb, cd0, cd1, cd2, cd3, cd4, cd5, cd6, cd7, cd8, (fun _ => rfl), cd10, cd11, cd12, cd13, (fun _ => rfl), (fun _ => rfl), cd16, cd17, cd18, cd19⟩
            · rintro L a w ⟨b0, b1, b2, b3, b4, b5, b6, b7, b8, b9, b10, b11, b12, b13, b14, b15, b16, b17, b18, b19, x17, x18, x19, x20, x21, x22, x23, x24, x25, x26, x27, x28, x29, x30, x31, x32, x33, x34, x35, x36, rfl, rfl, hb, cd0, cd1, cd2, cd3, cd4, cd5, cd6, cd7, cd8, cd9, cd10, cd11, cd12, cd13, cd14, cd15, cd16, cd17, cd18, cd19⟩ hf hd
              have hf' : b16 = false := hf
              subst hf'
              have d9 : b9 = true := hd ⟨9, .guard⟩ (by simp) rfl
              subst d9
              obtain rfl := cd9.out rfl
              clear hf hd
              try simp only [List.setIfInBounds_toArray, List.set_cons_zero, List.set_cons_succ]
              intro K hK
              rw [if_pos (by rfl)]
              go_simp
              exact hK.out _ _ ⟨b0, b1, b2, b3, b4, b5, b6, b7, b8, true, b10, b11, b12, b13, b14, b15, true, b17, b18, b19, x17, x18, x19, x20, x21, x22, x23, x24, x25, .bool true, x27, x28, x29, x30, x31, x32, (.pointer (some ⟨r, 1, none⟩)), x34, x35, x36, (by simp only [Act.put, List.setIfInBounds_toArray, List.set_cons_zero, List.set_cons_succ]), (by simp only [Act.put, List.setIfInBounds_toArray, List.set_cons_zero, List.set_cons_succ]), hb, cd0, cd1, cd2, cd3, cd4, cd5, cd6, cd7, cd8, (fun _ => rfl), cd10, cd11, cd12, cd13, cd14, cd15, (fun _ => rfl), cd17, cd18, cd19⟩
            · rintro L a w ⟨b0, b1, b2, b3, b4, b5, b6, b7, b8, b9, b10, b11, b12, b13, b14, b15, b16, b17, b18, b19, x17, x18, x19, x20, x21, x22, x23, x24, x25, x26, x27, x28, x29, x30, x31, x32, x33, x34, x35, x36, rfl, rfl, hb, cd0, cd1, cd2, cd3, cd4, cd5, cd6, cd7, cd8, cd9, cd10, cd11, cd12, cd13, cd14, cd15, cd16, cd17, cd18, cd19⟩ hf hd
              have hf' : b17 = false := hf
              subst hf'
              have d16 : b16 = true := hd ⟨16, .data⟩ (by simp) rfl
              subst d16
              have d9 : b9 = true := hd ⟨9, .guard⟩ (by simp) rfl
              subst d9
              obtain rfl := cd16.out rfl
              obtain rfl := cd9.out rfl
              clear hf hd
              try simp only [List.setIfInBounds_toArray, List.set_cons_zero, List.set_cons_succ]
              have z0 := (hb.cell hrB).trans z1_
              intro K hK
              rw [if_pos (by rfl)]
              go_simp
              exact hK.out _ _ ⟨b0, b1, b2, b3, b4, b5, b6, b7, b8, true, b10, b11, b12, b13, b14, b15, true, true, b18, b19, x17, x18, x19, x20, x21, x22, x23, x24, x25, .bool true, x27, x28, x29, x30, x31, x32, .pointer (some ⟨r, 1, none⟩), (.string (bsOf t)), x35, x36, (by simp only [Act.put, List.setIfInBounds_toArray, List.set_cons_zero, List.set_cons_succ]), (by simp only [Act.put, List.setIfInBounds_toArray, List.set_cons_zero, List.set_cons_succ]), hb, cd0, cd1, cd2, cd3, cd4, cd5, cd6, cd7, cd8, (fun _ => rfl), cd10, cd11, cd12, cd13, cd14, cd15, (fun _ => rfl), (fun _ => rfl), cd18, cd19⟩
            · rintro L a w ⟨b0, b1, b2, b3, b4, b5, b6, b7, b8, b9, b10, b11, b12, b13, b14, b15, b16, b17, b18, b19, x17, x18, x19, x20, x21, x22, x23, x24, x25, x26, x27, x28, x29, x30, x31, x32, x33, x34, x35, x36, rfl, rfl, hb, cd0, cd1, cd2, cd3, cd4, cd5, cd6, cd7, cd8, cd9, cd10, cd11, cd12, cd13, cd14, cd15, cd16, cd17, cd18, cd19⟩ hf hd
              have hf' : b18 = false := hf
              subst hf'
              have d15 : b15 = true := hd ⟨15, .data⟩ (by simp) rfl
              subst d15
              have d17 : b17 = true := hd ⟨17, .data⟩ (by simp) rfl
              subst d17
              have d9 : b9 = true := hd ⟨9, .guard⟩ (by simp) rfl
              subst d9
              obtain rfl := cd15.out rfl
              obtain rfl := cd17.out rfl
              obtain rfl := cd9.out rfl
              clear hf hd
              try simp only [List.setIfInBounds_toArray, List.set_cons_zero, List.set_cons_succ]
              intro K hK
              rw [if_pos (by rfl)]
              go_simp
              exact hK.out _ _ ⟨b0, b1, b2, b3, b4, b5, b6, b7, b8, true, b10, b11, b12, b13, b14, true, b16, true, true, b19, x17, x18, x19, x20, x21, x22, x23, x24, x25, .bool true, x27, x28, x29, x30, x31, .string (bsOf yt), x33, .string (bsOf t), (.bool false), x36, (by simp only [Act.put, List.setIfInBounds_toArray, List.set_cons_zero, List.set_cons_succ]), (by simp only [Act.put, List.setIfInBounds_toArray, List.set_cons_zero, List.set_cons_succ]), hb, cd0, cd1, cd2, cd3, cd4, cd5, cd6, cd7, cd8, (fun _ => rfl), cd10, cd11, cd12, cd13, cd14, (fun _ => rfl), cd16, (fun _ => rfl), (fun _ => rfl), cd19⟩
            · rintro L a w ⟨b0, b1, b2, b3, b4, b5, b6, b7, b8, b9, b10, b11, b12, b13, b14, b15, b16, b17, b18, b19, x17, x18, x19, x20, x21, x22, x23, x24, x25, x26, x27, x28, x29, x30, x31, x32, x33, x34, x35, x36, rfl, rfl, hb, cd0, cd1, cd2, cd3, cd4, cd5, cd6, cd7, cd8, cd9, cd10, cd11, cd12, cd13, cd14, cd15, cd16, cd17, cd18, cd19⟩ hf hd
              have hf' : b19 = false := hf
              subst hf'
              have d9 : b9 = true := hd ⟨9, .data⟩ (by simp) rfl
              subst d9
              have d18 : b18 = true := hd ⟨18, .data⟩ (by simp) rfl
              subst d18
              obtain rfl := cd9.out rfl
              obtain rfl := cd18.out rfl
              clear hf hd
              try simp only [List.setIfInBounds_toArray, List.set_cons_zero, List.set_cons_succ]
              intro K hK
              rw [if_pos (by rfl)]
              go_simp
              exact hK.out _ _ ⟨b0, b1, b2, b3, b4, b5, b6, b7, b8, true, b10, b11, b12, b13, b14, b15, b16, b17, true, true, x17, x18, x19, x20, x21, x22, x23, x24, x25, .bool true, x27, x28, x29, x30, x31, x32, x33, x34, .bool false, (.bool false), (by simp only [Act.put, List.setIfInBounds_toArray, List.set_cons_zero, List.set_cons_succ]), (by simp only [Act.put, List.setIfInBounds_toArray, List.set_cons_zero, List.set_cons_succ]), hb, cd0, cd1, cd2, cd3, cd4, cd5, cd6, cd7, cd8, (fun _ => rfl), cd10, cd11, cd12, cd13, cd14, cd15, cd16, cd17, (fun _ => rfl), (fun _ => rfl)⟩
          · rintro act V ⟨b0, b1, b2, b3, b4, b5, b6, b7, b8, b9, b10, b11, b12, b13, b14, b15, b16, b17, b18, b19, x17, x18, x19, x20, x21, x22, x23, x24, x25, x26, x27, x28, x29, x30, x31, x32, x33, x34, x35, x36, hL, rfl, hb, cd0, cd1, cd2, cd3, cd4, cd5, cd6, cd7, cd8, cd9, cd10, cd11, cd12, cd13, cd14, cd15, cd16, cd17, cd18, cd19⟩
            have hL' : [true, true, true, true, true, true, true, true, true, true, true, true, true, true, true, true, true, true, true, true] = [b0, b1, b2, b3, b4, b5, b6, b7, b8, b9, b10, b11, b12, b13, b14, b15, b16, b17, b18, b19] := congrArg Array.toList hL
            simp only [List.cons.injEq, and_true] at hL'
            obtain ⟨rfl, rfl, rfl, rfl, rfl, rfl, rfl, rfl, rfl, rfl, rfl, rfl, rfl, rfl, rfl, rfl, rfl, rfl, rfl, rfl⟩ := hL'
            obtain rfl := cd0.out rfl
            obtain rfl := cd1.out rfl
            obtain rfl := cd2.out rfl
            obtain rfl := cd3.out rfl
            obtain rfl := cd4.out rfl
            obtain rfl := cd5.out rfl
            obtain rfl := cd6.out rfl
            obtain rfl := cd7.out rfl
            obtain rfl := cd8.out rfl
            obtain rfl := cd9.out rfl
            obtain rfl := cd10.out rfl
            obtain rfl := cd11.out rfl
            obtain rfl := cd12.out rfl
            obtain rfl := cd13.out rfl
            obtain rfl := cd14.out rfl
            obtain rfl := cd15.out rfl
            obtain rfl := cd16.out rfl
            obtain rfl := cd17.out rfl
            obtain rfl := cd18.out rfl
            obtain rfl := cd19.out rfl
            clear hL cd0 cd1 cd2 cd3 cd4 cd5 cd6 cd7 cd8 cd9 cd10 cd11 cd12 cd13 cd14 cd15 cd16 cd17 cd18 cd19
            simp only [List.setIfInBounds_toArray, List.set_cons_zero, List.set_cons_succ]
            have BU := BU.trans (((Below.refl _ _).drew.trans hb).mono BU.size)
            clear hb c0_ z0_ z1_ z2_ y0_ y1_ y2_ hpB hrB hbB hB0
            go_upto_region 8 with fail
            generalize V = W8 at BU ⊢
            obtain ⟨c0_, c1_⟩ := (X0.past BU).c
            obtain ⟨z0_, z1_, z2_⟩ := (Z0.past BU).c
            simp only at z0_ z1_ z2_
            have y0_ := (BU.cell (show (⟨rb, roff + i * 3, none⟩ : Addr).block < U.heap.size from hrb)).trans yu0
            have y1_ := (BU.cell (show (⟨rb, roff + i * 3 + 1, none⟩ : Addr).block < U.heap.size from hrb)).trans yu1
            have y2_ := (BU.cell (show (⟨rb, roff + i * 3 + 2, none⟩ : Addr).block < U.heap.size from hrb)).trans yu2
            have hpB := Nat.lt_of_lt_of_le X0.lt BU.size
            have hrB := Nat.lt_of_lt_of_le Z0.lt BU.size
            have hbB := Nat.lt_of_lt_of_le hrb BU.size
            have hB0 : W8.heap.size ≤ W8.heap.size := Nat.le_refl _
            cases fr
            · have hF2 : Hid (false = (H.take (i + 1)).all (fun k => !clash k ⟨s, t, x⟩)) := Lib.hid (by rw [all_next _ hyh.out, ← hF.out]; rfl)
              refine region_inv (Ask8F W8.heap.size p r rb roff hn hc i s yt s t) (by kernel_rfl) (by kernel_rfl) ?_ ?_ ?_
              · exact ⟨false, false, false, false, false, false, false, false, false, false, false, false, u38, u39, u40, u41, u42, u43, u44, u45, u46, u47, u48, .bool false, rfl, (by simp only [Act.put, List.setIfInBounds_toArray, List.set_cons_zero, List.set_cons_succ]), Below.refl _ _, (fun h => by cases h), (fun h => by cases h), (fun h => by cases h), (fun h => by cases h), (fun h => by cases h), (fun h => by cases h), (fun h => by cases h), (fun h => by cases h), (fun h => by cases h), (fun h => by cases h), (fun h => by cases h), (fun h => by cases h), (fun h => by cases h), (fun h1 => rfl)⟩
              · refine ⟨?_, ?_, ?_, ?_, ?_, ?_, ?_, ?_, ?_, ?_, ?_, ?_, trivial⟩
                · rintro L a w ⟨b0, b1, b2, b3, b4, b5, b6, b7, b8, b9, b10, b11, x38, x39, x40, x41, x42, x43, x44, x45, x46, x47, x48, x7, rfl, rfl, hb, cd0, cd1, cd2, cd3, cd4, cd5, cd6, cd7, cd8, cd9, cd10, cd11, f_o12, f_s11⟩ hf hd
                  have hf' : b0 = false := hf
                  subst hf'
                  clear hf hd
                  have e11 : b11 = false := by cases hq : b11 with | false => rfl | true => exact absurd (f_o12.out hq) (by simp)
                  subst e11
                  obtain rfl := f_s11.out rfl
                  try simp only [List.setIfInBounds_toArray, List.set_cons_zero, List.set_cons_succ]
                  intro K hK
                  rw [if_pos (by rfl)]
                  go_simp
                  exact hK.out _ _ ⟨true, b1, b2, b3, b4, b5, b6, b7, b8, b9, b10, false, (.bool false), x39, x40, x41, x42, x43, x44, x45, x46, x47, x48, (.bool false), (by simp only [Act.put, List.setIfInBounds_toArray, List.set_cons_zero, List.set_cons_succ]), (by simp only [Act.put, List.setIfInBounds_toArray, List.set_cons_zero, List.set_cons_succ]), hb, (fun _ => rfl), cd1, cd2, cd3, cd4, cd5, cd6, cd7, cd8, cd9, cd10, cd11, (fun _ => rfl), f_s11⟩
                · rintro L a w ⟨b0, b1, b2, b3, b4, b5, b6, b7, b8, b9, b10, b11, x38, x39, x40, x41, x42, x43, x44, x45, x46, x47, x48, x7, rfl, rfl, hb, cd0, cd1, cd2, cd3, cd4, cd5, cd6, cd7, cd8, cd9, cd10, cd11, f_o12, f_s11⟩ hf hd
                  have hf' : b1 = false := hf
                  subst hf'
                  have d0 : b0 = true := hd ⟨0, .data⟩ (by simp) rfl
                  subst d0
                  obtain rfl := cd0.out rfl
                  clear hf hd
                  try simp only [List.setIfInBounds_toArray, List.set_cons_zero, List.set_cons_succ]
                  intro K hK
                  rw [if_pos (by rfl)]
                  go_simp
                  exact hK.out _ _ ⟨true, true, b2, b3, b4, b5, b6, b7, b8, b9, b10, b11, .bool false, (.bool false), x40, x41, x42, x43, x44, x45, x46, x47, x48, x7, (by simp only [Act.put, List.setIfInBounds_toArray, List.set_cons_zero, List.set_cons_succ]), (by simp only [Act.put, List.setIfInBounds_toArray, List.set_cons_zero, List.set_cons_succ]), hb, (fun _ => rfl), (fun _ => rfl), cd2, cd3, cd4, cd5, cd6, cd7, cd8, cd9, cd10, cd11, f_o12, f_s11⟩
                · rintro L a w ⟨b0, b1, b2, b3, b4, b5, b6, b7, b8, b9, b10, b11, x38, x39, x40, x41, x42, x43, x44, x45, x46, x47, x48, x7, rfl, rfl, hb, cd0, cd1, cd2, cd3, cd4, cd5, cd6, cd7, cd8, cd9, cd10, cd11, f_o12, f_s11⟩ hf hd
                  have hf' : b2 = false := hf
                  subst hf'
                  have d1 : b1 = true := hd ⟨1, .guard⟩ (by simp) rfl
                  subst d1
                  obtain rfl := cd1.out rfl
                  clear hf hd
                  try simp only [List.setIfInBounds_toArray, List.set_cons_zero, List.set_cons_succ]
                  intro K hK
                  rw [if_neg (Bool.eq_false_iff.1 (by rfl))]
                  exact hK.out _ _ ⟨b0, true, true, b3, b4, b5, b6, b7, b8, b9, b10, b11, x38, .bool false, (undef), x41, x42, x43, x44, x45, x46, x47, x48, x7, (by simp only [Act.put, List.setIfInBounds_toArray, List.set_cons_zero, List.set_cons_succ]), (by simp only [Act.put, List.setIfInBounds_toArray, List.set_cons_zero, List.set_cons_succ]), hb, cd0, (fun _ => rfl), (fun _ => rfl), cd3, cd4, cd5, cd6, cd7, cd8, cd9, cd10, cd11, f_o12, f_s11⟩
                · rintro L a w ⟨b0, b1, b2, b3, b4, b5, b6, b7, b8, b9, b10, b11, x38, x39, x40, x41, x42, x43, x44, x45, x46, x47, x48, x7, rfl, rfl, hb, cd0, cd1, cd2, cd3, cd4, cd5, cd6, cd7, cd8, cd9, cd10, cd11, f_o12, f_s11⟩ hf hd
                  have hf' : b3 = false := hf
                  subst hf'
                  have d2 : b2 = true := hd ⟨2, .data⟩ (by simp) rfl
                  subst d2
                  have d1 : b1 = true := hd ⟨1, .guard⟩ (by simp) rfl
                  subst d1
                  obtain rfl := cd2.out rfl
                  obtain rfl := cd1.out rfl
                  clear hf hd
                  try simp only [List.setIfInBounds_toArray, List.set_cons_zero, List.set_cons_succ]
                  intro K hK
                  rw [if_neg (Bool.eq_false_iff.1 (by rfl))]
                  exact hK.out _ _ ⟨b0, true, true, true, b4, b5, b6, b7, b8, b9, b10, b11, x38, .bool false, undef, (undef), x42, x43, x44, x45, x46, x47, x48, x7, (by simp only [Act.put, List.setIfInBounds_toArray, List.set_cons_zero, List.set_cons_succ]), (by simp only [Act.put, List.setIfInBounds_toArray, List.set_cons_zero, List.set_cons_succ]), hb, cd0, (fun _ => rfl), (fun _ => rfl), (fun _ => rfl), cd4, cd5, cd6, cd7, cd8, cd9, cd10, cd11, f_o12, f_s11⟩
                · rintro L a w ⟨b0, b1, b2, b3, b4, b5, b6, b7, b8, b9, b10, b11, x38, x39, x40, x41, x42, x43, x44, x45, x46, x47, x48, x7, rfl, rfl, hb, cd0, cd1, cd2, cd3, cd4, cd5, cd6, cd7, cd8, cd9, cd10, cd11, f_o12, f_s11⟩ hf hd
                  have hf' : b4 = false := hf
                  subst hf'
                  have d1 : b1 = true := hd ⟨1, .guard⟩ (by simp) rfl
                  subst d1
                  obtain rfl := cd1.out rfl
                  clear hf hd
                  try simp only [List.setIfInBounds_toArray, List.set_cons_zero, List.set_cons_succ]
                  intro K hK
                  rw [if_neg (Bool.eq_false_iff.1 (by rfl))]
                  exact hK.out _ _ ⟨b0, true, b2, b3, true, b5, b6, b7, b8, b9, b10, b11, x38, .bool false, x40, x41, (undef), x43, x44, x45, x46, x47, x48, x7, (by simp only [Act.put, List.setIfInBounds_toArray, List.set_cons_zero, List.set_cons_succ]), (by simp only [Act.put, List.setIfInBounds_toArray, List.set_cons_zero, List.set_cons_succ]), hb, cd0, (fun _ => rfl), cd2, cd3, (fun _ => rfl), cd5, cd6, cd7, cd8, cd9, cd10, cd11, f_o12, f_s11⟩
                · rintro L a w ⟨b0, b1, b2, b3, b4, b5, b6, b7, b8, b9, b10, b11, x38, x39, x40, x41, x42, x43, x44, x45, x46, x47, x48, x7, rfl, rfl, hb, cd0, cd1, cd2, cd3, cd4, cd5, cd6, cd7, cd8, cd9, cd10, cd11, f_o12, f_s11⟩ hf hd
                  have hf' : b5 = false := hf
                  subst hf'
                  have d3 : b3 = true := hd ⟨3, .data⟩ (by simp) rfl
                  subst d3
                  have d4 : b4 = true := hd ⟨4, .data⟩ (by simp) rfl
                  subst d4
                  have d1 : b1 = true := hd ⟨1, .guard⟩ (by simp) rfl
                  subst d1
                  obtain rfl := cd3.out rfl
                  obtain rfl := cd4.out rfl
                  obtain rfl := cd1.out rfl
                  clear hf hd
                  try simp only [List.setIfInBounds_toArray, List.set_cons_zero, List.set_cons_succ]
                  intro K hK
                  rw [if_neg (Bool.eq_false_iff.1 (by rfl))]
                  exact hK.out _ _ ⟨b0, true, b2, true, true, true, b6, b7, b8, b9, b10, b11, x38, .bool false, x40, undef, undef, (undef), x44, x45, x46, x47, x48, x7, (by simp only [Act.put, List.setIfInBounds_toArray, List.set_cons_zero, List.set_cons_succ]), (by simp only [Act.put, List.setIfInBounds_toArray, List.set_cons_zero, List.set_cons_succ]), hb, cd0, (fun _ => rfl), cd2, (fun _ => rfl), (fun _ => rfl), (fun _ => rfl), cd6, cd7, cd8, cd9, cd10, cd11, f_o12, f_s11⟩
                · rintro L a w ⟨b0, b1, b2, b3, b4, b5, b6, b7, b8, b9, b10, b11, x38, x39, x40, x41, x42, x43, x44, x45, x46, x47, x48, x7, rfl, rfl, hb, cd0, cd1, cd2, cd3, cd4, cd5, cd6, cd7, cd8, cd9, cd10, cd11, f_o12, f_s11⟩ hf hd
                  have hf' : b6 = false := hf
                  subst hf'
                  have d5 : b5 = true := hd ⟨5, .data⟩ (by simp) rfl
                  subst d5
                  have d1 : b1 = true := hd ⟨1, .guard⟩ (by simp) rfl
                  subst d1
                  obtain rfl := cd5.out rfl
                  obtain rfl := cd1.out rfl
                  clear hf hd
                  try simp only [List.setIfInBounds_toArray, List.set_cons_zero, List.set_cons_succ]
                  intro K hK
                  rw [if_neg (Bool.eq_false_iff.1 (by rfl))]
                  exact hK.out _ _ ⟨b0, true, b2, b3, b4, true, true, b7, b8, b9, b10, b11, x38, .bool false, x40, x41, x42, undef, (undef), x45, x46, x47, x48, x7, (by simp only [Act.put, List.setIfInBounds_toArray, List.set_cons_zero, List.set_cons_succ]), (by simp only [Act.put, List.setIfInBounds_toArray, List.set_cons_zero, List.set_cons_succ]), hb, cd0, (fun _ => rfl), cd2, cd3, cd4, (fun _ => rfl), (fun _ => rfl), cd7, cd8, cd9, cd10, cd11, f_o12, f_s11⟩
                · rintro L a w ⟨b0, b1, b2, b3, b4, b5, b6, b7, b8, b9, b10, b11, x38, x39, x40, x41, x42, x43, x44, x45, x46, x47, x48, x7, rfl, rfl, hb, cd0, cd1, cd2, cd3, cd4, cd5, cd6, cd7, cd8, cd9, cd10, cd11, f_o12, f_s11⟩ hf hd
                  have hf' : b7 = false := hf
                  subst hf'
                  have d1 : b1 = true := hd ⟨1, .guard⟩ (by simp) rfl
                  subst d1
                  obtain rfl := cd1.out rfl
                  clear hf hd
                  try simp only [List.setIfInBounds_toArray, List.set_cons_zero, List.set_cons_succ]
                  intro K hK
                  rw [if_neg (Bool.eq_false_iff.1 (by rfl))]
                  exact hK.out _ _ ⟨b0, true, b2, b3, b4, b5, b6, true, b8, b9, b10, b11, x38, .bool false, x40, x41, x42, x43, x44, (undef), x46, x47, x48, x7, (by simp only [Act.put, List.setIfInBounds_toArray, List.set_cons_zero, List.set_cons_succ]), (by simp only [Act.put, List.setIfInBounds_toArray, List.set_cons_zero, List.set_cons_succ]), hb, cd0, (fun _ => rfl), cd2, cd3, cd4, cd5, cd6, (fun _ => rfl), cd8, cd9, cd10, cd11, f_o12, f_s11⟩
                · rintro L a w ⟨b0, b1, b2, b3, b4, b5, b6, b7, b8, b9, b10, b11, x38, x39, x40, x41, x42, x43, x44, x45, x46, x47, x48, x7, rfl, rfl, hb, cd0, cd1, cd2, cd3, cd4, cd5, cd6, cd7, cd8, cd9, cd10, cd11, f_o12, f_s11⟩ hf hd
                  have hf' : b8 = false := hf
                  subst hf'
                  have d6 : b6 = true := hd ⟨6, .data⟩ (by simp) rfl
                  subst d6
                  have d7 : b7 = true := hd ⟨7, .data⟩ (by simp) rfl
                  subst d7
                  have d1 : b1 = true := hd ⟨1, .chain⟩ (by simp) rfl
                  subst d1
                  obtain rfl := cd6.out rfl
                  obtain rfl := cd7.out rfl
                  obtain rfl := cd1.out rfl
                  clear hf hd
                  try simp only [List.setIfInBounds_toArray, List.set_cons_zero, List.set_cons_succ]
                  intro K hK
                  rw [if_neg (Bool.eq_false_iff.1 (by rfl))]
                  exact hK.out _ _ ⟨b0, true, b2, b3, b4, b5, true, true, true, b9, b10, b11, x38, .bool false, x40, x41, x42, x43, undef, undef, (undef), x47, x48, x7, (by simp only [Act.put, List.setIfInBounds_toArray, List.set_cons_zero, List.set_cons_succ]), (by simp only [Act.put, List.setIfInBounds_toArray, List.set_cons_zero, List.set_cons_succ]), hb, cd0, (fun _ => rfl), cd2, cd3, cd4, cd5, (fun _ => rfl), (fun _ => rfl), (fun _ => rfl), cd9, cd10, cd11, f_o12, f_s11⟩
                · rintro L a w ⟨b0, b1, b2, b3, b4, b5, b6, b7, b8, b9, b10, b11, x38, x39, x40, x41, x42, x43, x44, x45, x46, x47, x48, x7, rfl, rfl, hb, cd0, cd1, cd2, cd3, cd4, cd5, cd6, cd7, cd8, cd9, cd10, cd11, f_o12, f_s11⟩ hf hd
                  have hf' : b9 = false := hf
                  subst hf'
                  have d8 : b8 = true := hd ⟨8, .data⟩ (by simp) rfl
                  subst d8
                  have d1 : b1 = true := hd ⟨1, .guard⟩ (by simp) rfl
                  subst d1
                  obtain rfl := cd8.out rfl
                  obtain rfl := cd1.out rfl
                  clear hf hd
                  try simp only [List.setIfInBounds_toArray, List.set_cons_zero, List.set_cons_succ]
                  intro K hK
                  rw [if_neg (Bool.eq_false_iff.1 (by rfl))]
                  exact hK.out _ _ ⟨b0, true, b2, b3, b4, b5, b6, b7, true, true, b10, b11, x38, .bool false, x40, x41, x42, x43, x44, x45, undef, (undef), x48, x7, (by simp only [Act.put, List.setIfInBounds_toArray, List.set_cons_zero, List.set_cons_succ]), (by simp only [Act.put, List.setIfInBounds_toArray, List.set_cons_zero, List.set_cons_succ]), hb, cd0, (fun _ => rfl), cd2, cd3, cd4, cd5, cd6, cd7, (fun _ => rfl), (fun _ => rfl), cd10, cd11, f_o12, f_s11⟩
                · rintro L a w ⟨b0, b1, b2, b3, b4, b5, b6, b7, b8, b9, b10, b11, x38, x39, x40, x41, x42, x43, x44, x45, x46, x47, x48, x7, rfl, rfl, hb, cd0, cd1, cd2, cd3, cd4, cd5, cd6, cd7, cd8, cd9, cd10, cd11, f_o12, f_s11⟩ hf hd
                  have hf' : b10 = false := hf
                  subst hf'
                  have d1 : b1 = true := hd ⟨1, .data⟩ (by simp) rfl
                  subst d1
                  have d9 : b9 = true := hd ⟨9, .data⟩ (by simp) rfl
                  subst d9
                  obtain rfl := cd1.out rfl
                  obtain rfl := cd9.out rfl
                  clear hf hd
                  try simp only [List.setIfInBounds_toArray, List.set_cons_zero, List.set_cons_succ]
                  intro K hK
                  rw [if_pos (by rfl)]
                  go_simp
                  exact hK.out _ _ ⟨b0, true, b2, b3, b4, b5, b6, b7, b8, true, true, b11, x38, .bool false, x40, x41, x42, x43, x44, x45, x46, undef, (.bool false), x7, (by simp only [Act.put, List.setIfInBounds_toArray, List.set_cons_zero, List.set_cons_succ]), (by simp only [Act.put, List.setIfInBounds_toArray, List.set_cons_zero, List.set_cons_succ]), hb, cd0, (fun _ => rfl), cd2, cd3, cd4, cd5, cd6, cd7, cd8, (fun _ => rfl), (fun _ => rfl), cd11, f_o12, f_s11⟩
                · rintro L a w ⟨b0, b1, b2, b3, b4, b5, b6, b7, b8, b9, b10, b11, x38, x39, x40, x41, x42, x43, x44, x45, x46, x47, x48, x7, rfl, rfl, hb, cd0, cd1, cd2, cd3, cd4, cd5, cd6, cd7, cd8, cd9, cd10, cd11, f_o12, f_s11⟩ hf hd
                  have hf' : b11 = false := hf
                  subst hf'
                  have d10 : b10 = true := hd ⟨10, .data⟩ (by simp) rfl
                  subst d10
                  have d8 : b8 = true := hd ⟨8, .chain⟩ (by simp) rfl
                  subst d8
                  have d0 : b0 = true := hd ⟨0, .phase⟩ (by simp) rfl
                  subst d0
                  have d1 : b1 = true := hd ⟨1, .phase⟩ (by simp) rfl
                  subst d1
                  have d2 : b2 = true := hd ⟨2, .phase⟩ (by simp) rfl
                  subst d2
                  have d3 : b3 = true := hd ⟨3, .phase⟩ (by simp) rfl
                  subst d3
                  have d4 : b4 = true := hd ⟨4, .phase⟩ (by simp) rfl
                  subst d4
                  have d5 : b5 = true := hd ⟨5, .phase⟩ (by simp) rfl
                  subst d5
                  have d6 : b6 = true := hd ⟨6, .phase⟩ (by simp) rfl
                  subst d6
                  have d7 : b7 = true := hd ⟨7, .phase⟩ (by simp) rfl
                  subst d7
                  have d9 : b9 = true := hd ⟨9, .phase⟩ (by simp) rfl
                  subst d9
                  obtain rfl := cd10.out rfl
                  obtain rfl := cd8.out rfl
                  obtain rfl := cd0.out rfl
                  obtain rfl := cd1.out rfl
                  obtain rfl := cd2.out rfl
                  obtain rfl := cd3.out rfl
                  obtain rfl := cd4.out rfl
                  obtain rfl := cd5.out rfl
                  obtain rfl := cd6.out rfl
                  obtain rfl := cd7.out rfl
                  obtain rfl := cd9.out rfl
                  clear hf hd
                  have W_s11 := f_s11.out rfl
                  try simp only [List.setIfInBounds_toArray, List.set_cons_zero, List.set_cons_succ]
                  intro K hK
                  rw [if_pos (by rfl)]
                  go_simp
                  exact hK.out _ _ ⟨true, true, true, true, true, true, true, true, true, true, true, true, .bool false, .bool false, undef, undef, undef, undef, undef, undef, undef, undef, .bool false, (.bool false), (by simp only [Act.put, List.setIfInBounds_toArray, List.set_cons_zero, List.set_cons_succ]), (by simp only [Act.put, List.setIfInBounds_toArray, List.set_cons_zero, List.set_cons_succ]), hb, (fun _ => rfl), (fun _ => rfl), (fun _ => rfl), (fun _ => rfl), (fun _ => rfl), (fun _ => rfl), (fun _ => rfl), (fun _ => rfl), (fun _ => rfl), (fun _ => rfl), (fun _ => rfl), (fun _ => rfl), (fun _ => rfl), (fun h => by cases h)⟩
              · rintro act V ⟨b0, b1, b2, b3, b4, b5, b6, b7, b8, b9, b10, b11, x38, x39, x40, x41, x42, x43, x44, x45, x46, x47, x48, x7, hL, rfl, hb, cd0, cd1, cd2, cd3, cd4, cd5, cd6, cd7, cd8, cd9, cd10, cd11, f_o12, f_s11⟩
                have hL' : [true, true, true, true, true, true, true, true, true, true, true, true] = [b0, b1, b2, b3, b4, b5, b6, b7, b8, b9, b10, b11] := congrArg Array.toList hL
                simp only [List.cons.injEq, and_true] at hL'
                obtain ⟨rfl, rfl, rfl, rfl, rfl, rfl, rfl, rfl, rfl, rfl, rfl, rfl⟩ := hL'
                obtain rfl := cd0.out rfl
                obtain rfl := cd1.out rfl
                obtain rfl := cd2.out rfl
                obtain rfl := cd3.out rfl
                obtain rfl := cd4.out rfl
                obtain rfl := cd5.out rfl
                obtain rfl := cd6.out rfl
                obtain rfl := cd7.out rfl
                obtain rfl := cd8.out rfl
                obtain rfl := cd9.out rfl
                obtain rfl := cd10.out rfl
                obtain rfl := cd11.out rfl
                have W_o12 := f_o12.out rfl
                clear hL f_o12 f_s11 cd0 cd1 cd2 cd3 cd4 cd5 cd6 cd7 cd8 cd9 cd10 cd11
                simp only [List.setIfInBounds_toArray, List.set_cons_zero, List.set_cons_succ]
                have BU := BU.trans (((Below.refl _ _).drew.trans hb).mono BU.size)
                clear hb
                go_wp2_with fail
                go_roundw
                case rel => exact ⟨_, _, i + 1, rfl, rfl, by go_num, by omega, hA2, hF2, BU⟩
                case measure => simp [intOf]; omega
            · have hF2 : Hid ((!cl) = (H.take (i + 1)).all (fun k => !clash k ⟨s, t, x⟩)) := Lib.hid (by rw [all_next _ hyh.out, ← hF.out, hclh.out]; rfl)
              refine region_inv (Ask8T W8.heap.size p r rb roff hn hc i s yt yx s t x cl) (by kernel_rfl) (by kernel_rfl) ?_ ?_ ?_
              · exact ⟨false, false, false, false, false, false, false, false, false, false, false, false, u38, u39, u40, u41, u42, u43, u44, u45, u46, u47, u48, .bool true, rfl, (by simp only [Act.put, List.setIfInBounds_toArray, List.set_cons_zero, List.set_cons_succ]), Below.refl _ _, (fun h => by cases h), (fun h => by cases h), (fun h => by cases h), (fun h => by cases h), (fun h => by cases h), (fun h => by cases h), (fun h => by cases h), (fun h => by cases h), (fun h => by cases h), (fun h => by cases h), (fun h => by cases h), (fun h => by cases h), (fun h => by cases h), (fun h1 => rfl)⟩
              · refine ⟨?_, ?_, ?_, ?_, ?_, ?_, ?_, ?_, ?_, ?_, ?_, ?_, trivial⟩
                · rintro L a w ⟨b0, b1, b2, b3, b4, b5, b6, b7, b8, b9, b10, b11, x38, x39, x40, x41, x42, x43, x44, x45, x46, x47, x48, x7, rfl, rfl, hb, cd0, cd1, cd2, cd3, cd4, cd5, cd6, cd7, cd8, cd9, cd10, cd11, f_o12, f_s11⟩ hf hd
                  have hf' : b0 = false := hf
                  subst hf'
                  clear hf hd
                  have e11 : b11 = false := by cases hq : b11 with | false => rfl | true => exact absurd (f_o12.out hq) (by simp)
                  subst e11
                  obtain rfl := f_s11.out rfl
                  try simp only [List.setIfInBounds_toArray, List.set_cons_zero, List.set_cons_succ]
                  intro K hK
                  rw [if_pos (by rfl)]
                  go_simp
                  exact hK.out _ _ ⟨true, b1, b2, b3, b4, b5, b6, b7, b8, b9, b10, false, (.bool true), x39, x40, x41, x42, x43, x44, x45, x46, x47, x48, (.bool true), (by simp only [Act.put, List.setIfInBounds_toArray, List.set_cons_zero, List.set_cons_succ]), (by simp only [Act.put, List.setIfInBounds_toArray, List.set_cons_zero, List.set_cons_succ]), hb, (fun _ => rfl), cd1, cd2, cd3, cd4, cd5, cd6, cd7, cd8, cd9, cd10, cd11, (fun _ => rfl), f_s11⟩
                · rintro L a w ⟨b0, b1, b2, b3, b4, b5, b6, b7, b8, b9, b10, b11, x38, x39, x40, x41, x42, x43, x44, x45, x46, x47, x48, x7, rfl, rfl, hb, cd0, cd1, cd2, cd3, cd4, cd5, cd6, cd7, cd8, cd9, cd10, cd11, f_o12, f_s11⟩ hf hd
                  have hf' : b1 = false := hf
                  subst hf'
                  have d0 : b0 = true := hd ⟨0, .data⟩ (by simp) rfl
                  subst d0
                  obtain rfl := cd0.out rfl
                  clear hf hd
                  try simp only [List.setIfInBounds_toArray, List.set_cons_zero, List.set_cons_succ]
                  intro K hK
                  rw [if_pos (by rfl)]
                  go_simp
                  exact hK.out _ _ ⟨true, true, b2, b3, b4, b5, b6, b7, b8, b9, b10, b11, .bool true, (.bool true), x40, x41, x42, x43, x44, x45, x46, x47, x48, x7, (by simp only [Act.put, List.setIfInBounds_toArray, List.set_cons_zero, List.set_cons_succ]), (by simp only [Act.put, List.setIfInBounds_toArray, List.set_cons_zero, List.set_cons_succ]), hb, (fun _ => rfl), (fun _ => rfl), cd2, cd3, cd4, cd5, cd6, cd7, cd8, cd9, cd10, cd11, f_o12, f_s11⟩
                · rintro L a w ⟨b0, b1, b2, b3, b4, b5, b6, b7, b8, b9, b10, b11, x38, x39, x40, x41, x42, x43, x44, x45, x46, x47, x48, x7, rfl, rfl, hb, cd0, cd1, cd2, cd3, cd4, cd5, cd6, cd7, cd8, cd9, cd10, cd11, f_o12, f_s11⟩ hf hd
                  have hf' : b2 = false := hf
                  subst hf'
                  have d1 : b1 = true := hd ⟨1, .guard⟩ (by simp) rfl
                  subst d1
                  obtain rfl := cd1.out rfl
                  clear hf hd
                  try simp only [List.setIfInBounds_toArray, List.set_cons_zero, List.set_cons_succ]
                  intro K hK
                  rw [if_pos (by rfl)]
                  go_simp
                  exact hK.out _ _ ⟨b0, true, true, b3, b4, b5, b6, b7, b8, b9, b10, b11, x38, .bool true, (.pointer (some ⟨p, 0, none⟩)), x41, x42, x43, x44, x45, x46, x47, x48, x7, (by simp only [Act.put, List.setIfInBounds_toArray, List.set_cons_zero, List.set_cons_succ]), (by simp only [Act.put, List.setIfInBounds_toArray, List.set_cons_zero, List.set_cons_succ]), hb, cd0, (fun _ => rfl), (fun _ => rfl), cd3, cd4, cd5, cd6, cd7, cd8, cd9, cd10, cd11, f_o12, f_s11⟩
                · rintro L a w ⟨b0, b1, b2, b3, b4, b5, b6, b7, b8, b9, b10, b11, x38, x39, x40, x41, x42, x43, x44, x45, x46, x47, x48, x7, rfl, rfl, hb, cd0, cd1, cd2, cd3, cd4, cd5, cd6, cd7, cd8, cd9, cd10, cd11, f_o12, f_s11⟩ hf hd
                  have hf' : b3 = false := hf
                  subst hf'
                  have d2 : b2 = true := hd ⟨2, .data⟩ (by simp) rfl
                  subst d2
                  have d1 : b1 = true := hd ⟨1, .guard⟩ (by simp) rfl
                  subst d1
                  obtain rfl := cd2.out rfl
                  obtain rfl := cd1.out rfl
                  clear hf hd
                  try simp only [List.setIfInBounds_toArray, List.set_cons_zero, List.set_cons_succ]
                  have z0 := (hb.cell hpB).trans c0_
                  intro K hK
                  rw [if_pos (by rfl)]
                  go_simp
                  exact hK.out _ _ ⟨b0, true, true, true, b4, b5, b6, b7, b8, b9, b10, b11, x38, .bool true, .pointer (some ⟨p, 0, none⟩), (.slice (some ⟨rb, roff, none⟩) hn hc), x42, x43, x44, x45, x46, x47, x48, x7, (by simp only [Act.put, List.setIfInBounds_toArray, List.set_cons_zero, List.set_cons_succ]), (by simp only [Act.put, List.setIfInBounds_toArray, List.set_cons_zero, List.set_cons_succ]), hb, cd0, (fun _ => rfl), (fun _ => rfl), (fun _ => rfl), cd4, cd5, cd6, cd7, cd8, cd9, cd10, cd11, f_o12, f_s11⟩
                · rintro L a w ⟨b0, b1, b2, b3, b4, b5, b6, b7, b8, b9, b10, b11, x38, x39, x40, x41, x42, x43, x44, x45, x46, x47, x48, x7, rfl, rfl, hb, cd0, cd1, cd2, cd3, cd4, cd5, cd6, cd7, cd8, cd9, cd10, cd11, f_o12, f_s11⟩ hf hd
                  have hf' : b4 = false := hf
                  subst hf'
                  have d1 : b1 = true := hd ⟨1, .guard⟩ (by simp) rfl
                  subst d1
                  obtain rfl := cd1.out rfl
                  clear hf hd
                  try simp only [List.setIfInBounds_toArray, List.set_cons_zero, List.set_cons_succ]
                  intro K hK
                  rw [if_pos (by rfl)]
                  go_simp
                  exact hK.out _ _ ⟨b0, true, b2, b3, true, b5, b6, b7, b8, b9, b10, b11, x38, .bool true, x40, x41, (.int .i64 (i : Nat)), x43, x44, x45, x46, x47, x48, x7, (by simp only [Act.put, List.setIfInBounds_toArray, List.set_cons_zero, List.set_cons_succ]), (by simp only [Act.put, List.setIfInBounds_toArray, List.set_cons_zero, List.set_cons_succ]), hb, cd0, (fun _ => rfl), cd2, cd3, (fun _ => rfl), cd5, cd6, cd7, cd8, cd9, cd10, cd11, f_o12, f_s11⟩
                · rintro L a w ⟨b0, b1, b2, b3, b4, b5, b6, b7, b8, b9, b10, b11, x38, x39, x40, x41, x42, x43, x44, x45, x46, x47, x48, x7, rfl, rfl, hb, cd0, cd1, cd2, cd3, cd4, cd5, cd6, cd7, cd8, cd9, cd10, cd11, f_o12, f_s11⟩ hf hd
                  have hf' : b5 = false := hf
                  subst hf'
                  have d3 : b3 = true := hd ⟨3, .data⟩ (by simp) rfl
                  subst d3
                  have d4 : b4 = true := hd ⟨4, .data⟩ (by simp) rfl
                  subst d4
                  have d1 : b1 = true := hd ⟨1, .guard⟩ (by simp) rfl
                  subst d1
                  obtain rfl := cd3.out rfl
                  obtain rfl := cd4.out rfl
                  obtain rfl := cd1.out rfl
                  clear hf hd
                  try simp only [List.setIfInBounds_toArray, List.set_cons_zero, List.set_cons_succ]
                  intro K hK
                  rw [if_pos (by rfl)]
                  go_simp
                  exact hK.out _ _ ⟨b0, true, b2, true, true, true, b6, b7, b8, b9, b10, b11, x38, .bool true, x40, .slice (some ⟨rb, roff, none⟩) hn hc, .int .i64 (i : Nat), (.pointer (some ⟨rb, roff + i * 3, none⟩)), x44, x45, x46, x47, x48, x7, (by simp only [Act.put, List.setIfInBounds_toArray, List.set_cons_zero, List.set_cons_succ]), (by simp only [Act.put, List.setIfInBounds_toArray, List.set_cons_zero, List.set_cons_succ]), hb, cd0, (fun _ => rfl), cd2, (fun _ => rfl), (fun _ => rfl), (fun _ => rfl), cd6, cd7, cd8, cd9, cd10, cd11, f_o12, f_s11⟩
                · rintro L a w ⟨b0, b1, b2, b3, b4, b5, b6, b7, b8, b9, b10, b11, x38, x39, x40, x41, x42, x43, x44, x45, x46, x47, x48, x7, rfl, rfl, hb, cd0, cd1, cd2, cd3, cd4, cd5, cd6, cd7, cd8, cd9, cd10, cd11, f_o12, f_s11⟩ hf hd
                  have hf' : b6 = false := hf
                  subst hf'
                  have d5 : b5 = true := hd ⟨5, .data⟩ (by simp) rfl
                  subst d5
                  have d1 : b1 = true := hd ⟨1, .guard⟩ (by simp) rfl
                  subst d1
                  obtain rfl := cd5.out rfl
                  obtain rfl := cd1.out rfl
                  clear hf hd
                  try simp only [List.setIfInBounds_toArray, List.set_cons_zero, List.set_cons_succ]
                  have z0 := (hb.cell hbB).trans y0_
                  have z1 := (hb.cell hbB).trans y1_
                  have z2 := (hb.cell hbB).trans y2_
                  intro K hK
                  rw [if_pos (by rfl)]
                  go_simp
                  exact hK.out _ _ ⟨b0, true, b2, b3, b4, true, true, b7, b8, b9, b10, b11, x38, .bool true, x40, x41, x42, .pointer (some ⟨rb, roff + i * 3, none⟩), (.agg #[.int .i64 s, .string (bsOf yt), .bool yx]), x45, x46, x47, x48, x7, (by simp only [Act.put, List.setIfInBounds_toArray, List.set_cons_zero, List.set_cons_succ]), (by simp only [Act.put, List.setIfInBounds_toArray, List.set_cons_zero, List.set_cons_succ]), hb, cd0, (fun _ => rfl), cd2, cd3, cd4, (fun _ => rfl), (fun _ => rfl), cd7, cd8, cd9, cd10, cd11, f_o12, f_s11⟩
                · rintro L a w ⟨b0, b1, b2, b3, b4, b5, b6, b7, b8, b9, b10, b11, x38, x39, x40, x41, x42, x43, x44, x45, x46, x47, x48, x7, rfl, rfl, hb, cd0, cd1, cd2, cd3, cd4, cd5, cd6, cd7, cd8, cd9, cd10, cd11, f_o12, f_s11⟩ hf hd
                  have hf' : b7 = false := hf
                  subst hf'
                  have d1 : b1 = true := hd ⟨1, .guard⟩ (by simp) rfl
                  subst d1
                  obtain rfl := cd1.out rfl
                  clear hf hd
                  try simp only [List.setIfInBounds_toArray, List.set_cons_zero, List.set_cons_succ]
                  have z0 := (hb.cell hrB).trans z0_
                  have z1 := (hb.cell hrB).trans z1_
                  have z2 := (hb.cell hrB).trans z2_
                  intro K hK
                  rw [if_pos (by rfl)]
                  go_simp
                  exact hK.out _ _ ⟨b0, true, b2, b3, b4, b5, b6, true, b8, b9, b10, b11, x38, .bool true, x40, x41, x42, x43, x44, (.agg #[.int .i64 s, .string (bsOf t), .bool x]), x46, x47, x48, x7, (by simp only [Act.put, List.setIfInBounds_toArray, List.set_cons_zero, List.set_cons_succ]), (by simp only [Act.put, List.setIfInBounds_toArray, List.set_cons_zero, List.set_cons_succ]), hb, cd0, (fun _ => rfl), cd2, cd3, cd4, cd5, cd6, (fun _ => rfl), cd8, cd9, cd10, cd11, f_o12, f_s11⟩
                · rintro L a w ⟨b0, b1, b2, b3, b4, b5, b6, b7, b8, b9, b10, b11, x38, x39, x40, x41, x42, x43, x44, x45, x46, x47, x48, x7, rfl, rfl, hb, cd0, cd1, cd2, cd3, cd4, cd5, cd6, cd7, cd8, cd9, cd10, cd11, f_o12, f_s11⟩ hf hd
                  have hf' : b8 = false := hf
                  subst hf'
                  have d6 : b6 = true := hd ⟨6, .data⟩ (by simp) rfl
                  subst d6
                  have d7 : b7 = true := hd ⟨7, .data⟩ (by simp) rfl
                  subst d7
                  have d1 : b1 = true := hd ⟨1, .chain⟩ (by simp) rfl
                  subst d1
                  obtain rfl := cd6.out rfl
                  obtain rfl := cd7.out rfl
                  obtain rfl := cd1.out rfl
                  clear hf hd
                  try simp only [List.setIfInBounds_toArray, List.set_cons_zero, List.set_cons_succ]
                  intro K hK
                  rw [if_pos (by rfl)]
                  go_simp
                  go_at_call 107
                  refine (HC _).mono ?_
                  rintro e w' ⟨rfl, bx⟩
                  exact hK.out _ _ ⟨b0, true, b2, b3, b4, b5, true, true, true, b9, b10, b11, x38, .bool true, x40, x41, x42, x43, .agg #[.int .i64 s, .string (bsOf yt), .bool yx], .agg #[.int .i64 s, .string (bsOf t), .bool x], (.bool cl), x47, x48, x7, (by simp only [Act.put, List.setIfInBounds_toArray, List.set_cons_zero, List.set_cons_succ]), (by simp only [Act.put, List.setIfInBounds_toArray, List.set_cons_zero, List.set_cons_succ]), hb.trans (bx.mono (Nat.le_trans hB0 hb.size)), cd0, (fun _ => rfl), cd2, cd3, cd4, cd5, (fun _ => rfl), (fun _ => rfl), (fun _ => rfl), cd9, cd10, cd11, f_o12, f_s11⟩
                · rintro L a w ⟨b0, b1, b2, b3, b4, b5, b6, b7, b8, b9, b10, b11, x38, x39, x40, x41, x42, x43, x44, x45, x46, x47, x48, x7, rfl, rfl, hb, cd0, cd1, cd2, cd3, cd4, cd5, cd6, cd7, cd8, cd9, cd10, cd11, f_o12, f_s11⟩ hf hd
                  have hf' : b9 = false := hf
                  subst hf'
                  have d8 : b8 = true := hd ⟨8, .data⟩ (by simp) rfl
                  subst d8
                  have d1 : b1 = true := hd ⟨1, .guard⟩ (by simp) rfl
                  subst d1
                  obtain rfl := cd8.out rfl
                  obtain rfl := cd1.out rfl
                  clear hf hd
                  try simp only [List.setIfInBounds_toArray, List.set_cons_zero, List.set_cons_succ]
                  intro K hK
                  rw [if_pos (by rfl)]
                  go_simp
                  exact hK.out _ _ ⟨b0, true, b2, b3, b4, b5, b6, b7, true, true, b10, b11, x38, .bool true, x40, x41, x42, x43, x44, x45, .bool cl, (.bool (!cl)), x48, x7, (by simp only [Act.put, List.setIfInBounds_toArray, List.set_cons_zero, List.set_cons_succ]), (by simp only [Act.put, List.setIfInBounds_toArray, List.set_cons_zero, List.set_cons_succ]), hb, cd0, (fun _ => rfl), cd2, cd3, cd4, cd5, cd6, cd7, (fun _ => rfl), (fun _ => rfl), cd10, cd11, f_o12, f_s11⟩
                · rintro L a w ⟨b0, b1, b2, b3, b4, b5, b6, b7, b8, b9, b10, b11, x38, x39, x40, x41, x42, x43, x44, x45, x46, x47, x48, x7, rfl, rfl, hb, cd0, cd1, cd2, cd3, cd4, cd5, cd6, cd7, cd8, cd9, cd10, cd11, f_o12, f_s11⟩ hf hd
                  have hf' : b10 = false := hf
                  subst hf'
                  have d1 : b1 = true := hd ⟨1, .data⟩ (by simp) rfl
                  subst d1
                  have d9 : b9 = true := hd ⟨9, .data⟩ (by simp) rfl
                  subst d9
                  obtain rfl := cd1.out rfl
                  obtain rfl := cd9.out rfl
                  clear hf hd
                  try simp only [List.setIfInBounds_toArray, List.set_cons_zero, List.set_cons_succ]
                  intro K hK
                  rw [if_pos (by rfl)]
                  go_simp
                  exact hK.out _ _ ⟨b0, true, b2, b3, b4, b5, b6, b7, b8, true, true, b11, x38, .bool true, x40, x41, x42, x43, x44, x45, x46, .bool (!cl), (.bool (!cl)), x7, (by simp only [Act.put, List.setIfInBounds_toArray, List.set_cons_zero, List.set_cons_succ]), (by simp only [Act.put, List.setIfInBounds_toArray, List.set_cons_zero, List.set_cons_succ]), hb, cd0, (fun _ => rfl), cd2, cd3, cd4, cd5, cd6, cd7, cd8, (fun _ => rfl), (fun _ => rfl), cd11, f_o12, f_s11⟩
                · rintro L a w ⟨b0, b1, b2, b3, b4, b5, b6, b7, b8, b9, b10, b11, x38, x39, x40, x41, x42, x43, x44, x45, x46, x47, x48, x7, rfl, rfl, hb, cd0, cd1, cd2, cd3, cd4, cd5, cd6, cd7, cd8, cd9, cd10, cd11, f_o12, f_s11⟩ hf hd
                  have hf' : b11 = false := hf
                  subst hf'
                  have d10 : b10 = true := hd ⟨10, .data⟩ (by simp) rfl
                  subst d10
                  have d8 : b8 = true := hd ⟨8, .chain⟩ (by simp) rfl
                  subst d8
                  have d0 : b0 = true := hd ⟨0, .phase⟩ (by simp) rfl
                  subst d0
                  have d1 : b1 = true := hd ⟨1, .phase⟩ (by simp) rfl
                  subst d1
                  have d2 : b2 = true := hd ⟨2, .phase⟩ (by simp) rfl
                  subst d2
                  have d3 : b3 = true := hd ⟨3, .phase⟩ (by simp) rfl
                  subst d3
                  have d4 : b4 = true := hd ⟨4, .phase⟩ (by simp) rfl
                  subst d4
                  have d5 : b5 = true := hd ⟨5, .phase⟩ (by simp) rfl
                  subst d5
                  have d6 : b6 = true := hd ⟨6, .phase⟩ (by simp) rfl
                  subst d6
                  have d7 : b7 = true := hd ⟨7, .phase⟩ (by simp) rfl
                  subst d7
                  have d9 : b9 = true := hd ⟨9, .phase⟩ (by simp) rfl
                  subst d9
                  obtain rfl := cd10.out rfl
                  obtain rfl := cd8.out rfl
                  obtain rfl := cd0.out rfl
                  obtain rfl := cd1.out rfl
                  obtain rfl := cd2.out rfl
                  obtain rfl := cd3.out rfl
                  obtain rfl := cd4.out rfl
                  obtain rfl := cd5.out rfl
                  obtain rfl := cd6.out rfl
                  obtain rfl := cd7.out rfl
                  obtain rfl := cd9.out rfl
                  clear hf hd
                  have W_s11 := f_s11.out rfl
                  try simp only [List.setIfInBounds_toArray, List.set_cons_zero, List.set_cons_succ]
                  intro K hK
                  rw [if_pos (by rfl)]
                  go_simp
                  exact hK.out _ _ ⟨true, true, true, true, true, true, true, true, true, true, true, true, .bool true, .bool true, .pointer (some ⟨p, 0, none⟩), .slice (some ⟨rb, roff, none⟩) hn hc, .int .i64 (i : Nat), .pointer (some ⟨rb, roff + i * 3, none⟩), .agg #[.int .i64 s, .string (bsOf yt), .bool yx], .agg #[.int .i64 s, .string (bsOf t), .bool x], .bool cl, .bool (!cl), .bool (!cl), (.bool (!cl)), (by simp only [Act.put, List.setIfInBounds_toArray, List.set_cons_zero, List.set_cons_succ]), (by simp only [Act.put, List.setIfInBounds_toArray, List.set_cons_zero, List.set_cons_succ]), hb, (fun _ => rfl), (fun _ => rfl), (fun _ => rfl), (fun _ => rfl), (fun _ => rfl), (fun _ => rfl), (fun _ => rfl), (fun _ => rfl), (fun _ => rfl), (fun _ => rfl), (fun _ => rfl), (fun _ => rfl), (fun _ => rfl), (fun h => by cases h)⟩
              · rintro act V ⟨b0, b1, b2, b3, b4, b5, b6, b7, b8, b9, b10, b11, x38, x39, x40, x41, x42, x43, x44, x45, x46, x47, x48, x7, hL, rfl, hb, cd0, cd1, cd2, cd3, cd4, cd5, cd6, cd7, cd8, cd9, cd10, cd11, f_o12, f_s11⟩
                have hL' : [true, true, true, true, true, true, true, true, true, true, true, true] = [b0, b1, b2, b3, b4, b5, b6, b7, b8, b9, b10, b11] := congrArg Array.toList hL
                simp only [List.cons.injEq, and_true] at hL'
                obtain ⟨rfl, rfl, rfl, rfl, rfl, rfl, rfl, rfl, rfl, rfl, rfl, rfl⟩ := hL'
                obtain rfl := cd0.out rfl
                obtain rfl := cd1.out rfl
                obtain rfl := cd2.out rfl
                obtain rfl := cd3.out rfl
                obtain rfl := cd4.out rfl
                obtain rfl := cd5.out rfl
                obtain rfl := cd6.out rfl
                obtain rfl := cd7.out rfl
                obtain rfl := cd8.out rfl
                obtain rfl := cd9.out rfl
                obtain rfl := cd10.out rfl
                obtain rfl := cd11.out rfl
                have W_o12 := f_o12.out rfl
                clear hL f_o12 f_s11 cd0 cd1 cd2 cd3 cd4 cd5 cd6 cd7 cd8 cd9 cd10 cd11
                simp only [List.setIfInBounds_toArray, List.set_cons_zero, List.set_cons_succ]
                have BU := BU.trans (((Below.refl _ _).drew.trans hb).mono BU.size)
                clear hb
                go_wp2_with fail
                go_roundw
                case rel => exact ⟨_, _, i + 1, rfl, rfl, by go_num, by omega, hA2, hF2, BU⟩
                case measure => simp [intOf]; omega
      · have f0 : (ys == s) = false := by simpa using fun e => q1 e.symm
        have hA2 := Lib.hid (hA.out.miss hyh.out (fun e => q1 e.1.symm))
        clear hA q1
        refine region_inv (Ask6N W7.heap.size p r rb roff hn hc i ys s t) (by kernel_rfl) (by kernel_rfl) ?_ ?_ ?_
        · exact ⟨false, false, false, false, false, false, false, false, false, false, false, false, false, false, false, false, false, false, false, false, u17, u18, u19, u20, u21, u22, u23, u24, u25, u26, u27, u28, u29, u30, u31, u32, u33, u34, u35, u36, rfl, (by simp only [Act.put, List.setIfInBounds_toArray, List.set_cons_zero, List.set_cons_succ]), Below.refl _ _, (fun h => by cases h), (fun h => by cases h), (fun h => by cases h), (fun h => by cases h), (fun h => by cases h), (fun h => by cases h), (fun h => by cases h), (fun h => by cases h), (fun h => by cases h), (fun h => by cases h), (fun h => by cases h), (fun h => by cases h), (fun h => by cases h), (fun h => by cases h), (fun h => by cases h), (fun h => by cases h), (fun h => by cases h), (fun h => by cases h), (fun h => by cases h), (fun h => by cases h)⟩
        · refine ⟨?_, ?_, ?_, ?_, ?_, ?_, ?_, ?_, ?_, ?_, ?_, ?_, ?_, ?_, ?_, ?_, ?_, ?_, ?_, ?_, trivial⟩
          · rintro L a w ⟨b0, b1, b2, b3, b4, b5, b6, b7, b8, b9, b10, b11, b12, b13, b14, b15, b16, b17, b18, b19, x17, x18, x19, x20, x21, x22, x23, x24, x25, x26, x27, x28, x29, x30, x31, x32, x33, x34, x35, x36, rfl, rfl, hb, cd0, cd1, cd2, cd3, cd4, cd5, cd6, cd7, cd8, cd9, cd10, cd11, cd12, cd13, cd14, cd15, cd16, cd17, cd18, cd19⟩ hf hd
            have hf' : b0 = false := hf
            subst hf'
            clear hf hd
            try simp only [List.setIfInBounds_toArray, List.set_cons_zero, List.set_cons_succ]
            intro K hK
            rw [if_pos (by rfl)]
            go_simp
            exact hK.out _ _ ⟨true, b1, b2, b3, b4, b5, b6, b7, b8, b9, b10, b11, b12, b13, b14, b15, b16, b17, b18, b19, (.pointer (some ⟨p, 0, none⟩)), x18, x19, x20, x21, x22, x23, x24, x25, x26, x27, x28, x29, x30, x31, x32, x33, x34, x35, x36, (by simp only [Act.put, List.setIfInBounds_toArray, List.set_cons_zero, List.set_cons_succ]), (by simp only [Act.put, List.setIfInBounds_toArray, List.set_cons_zero, List.set_cons_succ]), hb, (fun _ => rfl), cd1, cd2, cd3, cd4, cd5, cd6, cd7, cd8, cd9, cd10, cd11, cd12, cd13, cd14, cd15, cd16, cd17, cd18, cd19⟩
          · rintro L a w ⟨b0, b1, b2, b3, b4, b5, b6, b7, b8, b9, b10, b11, b12, b13, b14, b15, b16, b17, b18, b19, x17, x18, x19, x20, x21, x22, x23, x24, x25, x26, x27, x28, x29, x30, x31, x32, x33, x34, x35, x36, rfl, rfl, hb, cd0, cd1, cd2, cd3, cd4, cd5, cd6, cd7, cd8, cd9, cd10, cd11, cd12, cd13, cd14, cd15, cd16, cd17, cd18, cd19⟩ hf hd
            have hf' : b1 = false := hf
            subst hf'
            have d0 : b0 = true := hd ⟨0, .data⟩ (by simp) rfl
            subst d0
            obtain rfl := cd0.out rfl
            clear hf hd
            try simp only [List.setIfInBounds_toArray, List.set_cons_zero, List.set_cons_succ]
            have z0 := (hb.cell hpB).trans c0_
            intro K hK
            rw [if_pos (by rfl)]
            go_simp
            exact hK.out _ _ ⟨true, true, b2, b3, b4, b5, b6, b7, b8, b9, b10, b11, b12, b13, b14, b15, b16, b17, b18, b19, .pointer (some ⟨p, 0, none⟩), (.slice (some ⟨rb, roff, none⟩) hn hc), x19, x20, x21, x22, x23, x24, x25, x26, x27, x28, x29, x30, x31, x32, x33, x34, x35, x36, (by simp only [Act.put, List.setIfInBounds_toArray, List.set_cons_zero, List.set_cons_succ]), (by simp only [Act.put, List.setIfInBounds_toArray, List.set_cons_zero, List.set_cons_succ]), hb, (fun _ => rfl), (fun _ => rfl), cd2, cd3, cd4, cd5, cd6, cd7, cd8, cd9, cd10, cd11, cd12, cd13, cd14, cd15, cd16, cd17, cd18, cd19⟩
          · rintro L a w ⟨b0, b1, b2, b3, b4, b5, b6, b7, b8, b9, b10, b11, b12, b13, b14, b15, b16, b17, b18, b19, x17, x18, x19, x20, x21, x22, x23, x24, x25, x26, x27, x28, x29, x30, x31, x32, x33, x34, x35, x36, rfl, rfl, hb, cd0, cd1, cd2, cd3, cd4, cd5, cd6, cd7, cd8, cd9, cd10, cd11, cd12, cd13, cd14, cd15, cd16, cd17, cd18, cd19⟩ hf hd
            have hf' : b2 = false := hf
            subst hf'
            clear hf hd
            try simp only [List.setIfInBounds_toArray, List.set_cons_zero, List.set_cons_succ]
            intro K hK
            rw [if_pos (by rfl)]
            go_simp
            exact hK.out _ _ ⟨b0, b1, true, b3, b4, b5, b6, b7, b8, b9, b10, b11, b12, b13, b14, b15, b16, b17, b18, b19, x17, x18, (.int .i64 (i : Nat)), x20, x21, x22, x23, x24, x25, x26, x27, x28, x29, x30, x31, x32, x33, x34, x35, x36, (by simp only [Act.put, List.setIfInBounds_toArray, List.set_cons_zero, List.set_cons_succ]), (by simp only [Act.put, List.setIfInBounds_toArray, List.set_cons_zero, List.set_cons_succ]), hb, cd0, cd1, (fun _ => rfl), cd3, cd4, cd5, cd6, cd7, cd8, cd9, cd10, cd11, cd12, cd13, cd14, cd15, cd16, cd17, cd18, cd19⟩
          · rintro L a w ⟨b0, b1, b2, b3, b4, b5, b6, b7, b8, b9, b10, b11, b12, b13, b14, b15, b16, b17, b18, b19, x17, x18, x19, x20, x21, x22, x23, x24, x25, x26, x27, x28, x29, x30, x31, x32, x33, x34, x35, x36, rfl, rfl, hb, cd0, cd1, cd2, cd3, cd4, cd5, cd6, cd7, cd8, cd9, cd10, cd11, cd12, cd13, cd14, cd15, cd16, cd17, cd18, cd19⟩ hf hd
            have hf' : b3 = false := hf
            subst hf'
            have d1 : b1 = true := hd ⟨1, .data⟩ (by simp) rfl
            subst d1
            have d2 : b2 = true := hd ⟨2, .data⟩ (by simp) rfl
            subst d2
            obtain rfl := cd1.out rfl
            obtain rfl := cd2.out rfl
            clear hf hd
            try simp only [List.setIfInBounds_toArray, List.set_cons_zero, List.set_cons_succ]
            intro K hK
            rw [if_pos (by rfl)]
            go_simp
            exact hK.out _ _ ⟨b0, true, true, true, b4, b5, b6, b7, b8, b9, b10, b11, b12, b13, b14, b15, b16, b17, b18, b19, x17, .slice (some ⟨rb, roff, none⟩) hn hc, .int .i64 (i : Nat), (.pointer (some ⟨rb, roff + i * 3, none⟩)), x21, x22, x23, x24, x25, x26, x27, x28, x29, x30, x31, x32, x33, x34, x35, x36, (by simp only [Act.put, List.setIfInBounds_toArray, List.set_cons_zero, List.set_cons_succ]), (by simp only [Act.put, List.setIfInBounds_toArray, List.set_cons_zero, List.set_cons_succ]), hb, cd0, (fun _ => rfl), (fun _ => rfl), (fun _ => rfl), cd4, cd5, cd6, cd7, cd8, cd9, cd10, cd11, cd12, cd13, cd14, cd15, cd16, cd17, cd18, cd19⟩
          · rintro L a w ⟨b0, b1, b2, b3, b4, b5, b6, b7, b8, b9, b10, b11, b12, b13, b14, b15, b16, b17, b18, b19, x17, x18, x19, x20, x21, x22, x23, x24, x25, x26, x27, x28, x29, x30, x31, x32, x33, x34, x35, x36, rfl, rfl, hb, cd0, cd1, cd2, cd3, cd4, cd5, cd6, cd7, cd8, cd9, cd10, cd11, cd12, cd13, cd14, cd15, cd16, cd17, cd18, cd19⟩ hf hd
            have hf' : b4 = false := hf
            subst hf'
            have d3 : b3 = true := hd ⟨3, .data⟩ (by simp) rfl
            subst d3
            obtain rfl := cd3.out rfl
            clear hf hd
            try simp only [List.setIfInBounds_toArray, List.set_cons_zero, List.set_cons_succ]
            intro K hK
            rw [if_pos (by rfl)]
            go_simp
            exact hK.out _ _ ⟨b0, b1, b2, true, true, b5, b6, b7, b8, b9, b10, b11, b12, b13, b14, b15, b16, b17, b18, b19, x17, x18, x19, .pointer (some ⟨rb, roff + i * 3, none⟩), (.pointer (some ⟨rb, roff + i * 3, none⟩)), x22, x23, x24, x25, x26, x27, x28, x29, x30, x31, x32, x33, x34, x35, x36, (by simp only [Act.put, List.setIfInBounds_toArray, List.set_cons_zero, List.set_cons_succ]), (by simp only [Act.put, List.setIfInBounds_toArray, List.set_cons_zero, List.set_cons_succ]), hb, cd0, cd1, cd2, (fun _ => rfl), (fun _ => rfl), cd5, cd6, cd7, cd8, cd9, cd10, cd11, cd12, cd13, cd14, cd15, cd16, cd17, cd18, cd19⟩
          · rintro L a w ⟨b0, b1, b2, b3, b4, b5, b6, b7, b8, b9, b10, b11, b12, b13, b14, b15, b16, b17, b18, b19, x17, x18, x19, x20, x21, x22, x23, x24, x25, x26, x27, x28, x29, x30, x31, x32, x33, x34, x35, x36, rfl, rfl, hb, cd0, cd1, cd2, cd3, cd4, cd5, cd6, cd7, cd8, cd9, cd10, cd11, cd12, cd13, cd14, cd15, cd16, cd17, cd18, cd19⟩ hf hd
            have hf' : b5 = false := hf
            subst hf'
            have d4 : b4 = true := hd ⟨4, .data⟩ (by simp) rfl
            subst d4
            obtain rfl := cd4.out rfl
            clear hf hd
            try simp only [List.setIfInBounds_toArray, List.set_cons_zero, List.set_cons_succ]
            have z0 := (hb.cell hbB).trans y0_
            intro K hK
            rw [if_pos (by rfl)]
            go_simp
            exact hK.out _ _ ⟨b0, b1, b2, b3, true, true, b6, b7, b8, b9, b10, b11, b12, b13, b14, b15, b16, b17, b18, b19, x17, x18, x19, x20, .pointer (some ⟨rb, roff + i * 3, none⟩), (.int .i64 ys), x23, x24, x25, x26, x27, x28, x29, x30, x31, x32, x33, x34, x35, x36, (by simp only [Act.put, List.setIfInBounds_toArray, List.set_cons_zero, List.set_cons_succ]), (by simp only [Act.put, List.setIfInBounds_toArray, List.set_cons_zero, List.set_cons_succ]), hb, cd0, cd1, cd2, cd3, (fun _ => rfl), (fun _ => rfl), cd6, cd7, cd8, cd9, cd10, cd11, cd12, cd13, cd14, cd15, cd16, cd17, cd18, cd19⟩
          · rintro L a w ⟨b0, b1, b2, b3, b4, b5, b6, b7, b8, b9, b10, b11, b12, b13, b14, b15, b16, b17, b18, b19, x17, x18, x19, x20, x21, x22, x23, x24, x25, x26, x27, x28, x29, x30, x31, x32, x33, x34, x35, x36, rfl, rfl, hb, cd0, cd1, cd2, cd3, cd4, cd5, cd6, cd7, cd8, cd9, cd10, cd11, cd12, cd13, cd14, cd15, cd16, cd17, cd18, cd19⟩ hf hd
            have hf' : b6 = false := hf
            subst hf'
            clear hf hd
            try simp only [List.setIfInBounds_toArray, List.set_cons_zero, List.set_cons_succ]
            intro K hK
            rw [if_pos (by rfl)]
            go_simp
            exact hK.out _ _ ⟨b0, b1, b2, b3, b4, b5, true, b7, b8, b9, b10, b11, b12, b13, b14, b15, b16, b17, b18, b19, x17, x18, x19, x20, x21, x22, (.pointer (some ⟨r, 0, none⟩)), x24, x25, x26, x27, x28, x29, x30, x31, x32, x33, x34, x35, x36, (by simp only [Act.put, List.setIfInBounds_toArray, List.set_cons_zero, List.set_cons_succ]), (by simp only [Act.put, List.setIfInBounds_toArray, List.set_cons_zero, List.set_cons_succ]), hb, cd0, cd1, cd2, cd3, cd4, cd5, (fun _ => rfl), cd7, cd8, cd9, cd10, cd11, cd12, cd13, cd14, cd15, cd16, cd17, cd18, cd19⟩
          · rintro L a w ⟨b0, b1, b2, b3, b4, b5, b6, b7, b8, b9, b10, b11, b12, b13, b14, b15, b16, b17, b18, b19, x17, x18, x19, x20, x21, x22, x23, x24, x25, x26, x27, x28, x29, x30, x31, x32, x33, x34, x35, x36, rfl, rfl, hb, cd0, cd1, cd2, cd3, cd4, cd5, cd6, cd7, cd8, cd9, cd10, cd11, cd12, cd13, cd14, cd15, cd16, cd17, cd18, cd19⟩ hf hd
            have hf' : b7 = false := hf
            subst hf'
            have d6 : b6 = true := hd ⟨6, .data⟩ (by simp) rfl
            subst d6
            obtain rfl := cd6.out rfl
            clear hf hd
            try simp only [List.setIfInBounds_toArray, List.set_cons_zero, List.set_cons_succ]
            have z0 := (hb.cell hrB).trans z0_
            intro K hK
            rw [if_pos (by rfl)]
            go_simp
            exact hK.out _ _ ⟨b0, b1, b2, b3, b4, b5, true, true, b8, b9, b10, b11, b12, b13, b14, b15, b16, b17, b18, b19, x17, x18, x19, x20, x21, x22, .pointer (some ⟨r, 0, none⟩), (.int .i64 s), x25, x26, x27, x28, x29, x30, x31, x32, x33, x34, x35, x36, (by simp only [Act.put, List.setIfInBounds_toArray, List.set_cons_zero, List.set_cons_succ]), (by simp only [Act.put, List.setIfInBounds_toArray, List.set_cons_zero, List.set_cons_succ]), hb, cd0, cd1, cd2, cd3, cd4, cd5, (fun _ => rfl), (fun _ => rfl), cd8, cd9, cd10, cd11, cd12, cd13, cd14, cd15, cd16, cd17, cd18, cd19⟩
          · rintro L a w ⟨b0, b1, b2, b3, b4, b5, b6, b7, b8, b9, b10, b11, b12, b13, b14, b15, b16, b17, b18, b19, x17, x18, x19, x20, x21, x22, x23, x24, x25, x26, x27, x28, x29, x30, x31, x32, x33, x34, x35, x36, rfl, rfl, hb, cd0, cd1, cd2, cd3, cd4, cd5, cd6, cd7, cd8, cd9, cd10, cd11, cd12, cd13, cd14, cd15, cd16, cd17, cd18, cd19⟩ hf hd
            have hf' : b8 = false := hf
            subst hf'
            have d5 : b5 = true := hd ⟨5, .data⟩ (by simp) rfl
            subst d5
            have d7 : b7 = true := hd ⟨7, .data⟩ (by simp) rfl
            subst d7
            obtain rfl := cd5.out rfl
            obtain rfl := cd7.out rfl
            clear hf hd
            try simp only [List.setIfInBounds_toArray, List.set_cons_zero, List.set_cons_succ]
            intro K hK
            rw [if_pos (by rfl)]
            go_simp
            exact hK.out _ _ ⟨b0, b1, b2, b3, b4, true, b6, true, true, b9, b10, b11, b12, b13, b14, b15, b16, b17, b18, b19, x17, x18, x19, x20, x21, .int .i64 ys, x23, .int .i64 s, (.bool false), x26, x27, x28, x29, x30, x31, x32, x33, x34, x35, x36, (by simp only [Act.put, List.setIfInBounds_toArray, List.set_cons_zero, List.set_cons_succ]), (by simp only [Act.put, List.setIfInBounds_toArray, List.set_cons_zero, List.set_cons_succ]), hb, cd0, cd1, cd2, cd3, cd4, (fun _ => rfl), cd6, (fun _ => rfl), (fun _ => rfl), cd9, cd10, cd11, cd12, cd13, cd14, cd15, cd16, cd17, cd18, cd19⟩
          · rintro L a w ⟨b0, b1, b2, b3, b4, b5, b6, b7, b8, b9, b10, b11, b12, b13, b14, b15, b16, b17, b18, b19, x17, x18, x19, x20, x21, x22, x23, x24, x25, x26, x27, x28, x29, x30, x31, x32, x33, x34, x35, x36, rfl, rfl, hb, cd0, cd1, cd2, cd3, cd4, cd5, cd6, cd7, cd8, cd9, cd10, cd11, cd12, cd13, cd14, cd15, cd16, cd17, cd18, cd19⟩ hf hd
            have hf' : b9 = false := hf
            subst hf'
            have d8 : b8 = true := hd ⟨8, .data⟩ (by simp) rfl
            subst d8
            obtain rfl := cd8.out rfl
            clear hf hd
            try simp only [List.setIfInBounds_toArray, List.set_cons_zero, List.set_cons_succ]
            intro K hK
            rw [if_pos (by rfl)]
            go_simp
            exact hK.out _ _ ⟨b0, b1, b2, b3, b4, b5, b6, b7, true, true, b10, b11, b12, b13, b14, b15, b16, b17, b18, b19, x17, x18, x19, x20, x21, x22, x23, x24, .bool false, (.bool false), x27, x28, x29, x30, x31, x32, x33, x34, x35, x36, (by simp only [Act.put, List.setIfInBounds_toArray, List.set_cons_zero, List.set_cons_succ]), (by simp only [Act.put, List.setIfInBounds_toArray, List.set_cons_zero, List.set_cons_succ]), hb, cd0, cd1, cd2, cd3, cd4, cd5, cd6, cd7, (fun _ => rfl), (fun _ => rfl), cd10, cd11, cd12, cd13, cd14, cd15, cd16, cd17, cd18, cd19⟩
          · rintro L a w ⟨b0, b1, b2, b3, b4, b5, b6, b7, b8, b9, b10, b11, b12, b13, b14, b15, b16, b17, b18, b19, x17, x18, x19, x20, x21, x22, x23, x24, x25, x26, x27, x28, x29, x30, x31, x32, x33, x34, x35, x36, rfl, rfl, hb, cd0, cd1, cd2, cd3, cd4, cd5, cd6, cd7, cd8, cd9, cd10, cd11, cd12, cd13, cd14, cd15, cd16, cd17, cd18, cd19⟩ hf hd
            have hf' : b10 = false := hf
            subst hf'
            have d9 : b9 = true := hd ⟨9, .guard⟩ (by simp) rfl
            subst d9
            obtain rfl := cd9.out rfl
            clear hf hd
            try simp only [List.setIfInBounds_toArray, List.set_cons_zero, List.set_cons_succ]
            intro K hK
            rw [if_neg (Bool.eq_false_iff.1 (by rfl))]
            exact hK.out _ _ ⟨b0, b1, b2, b3, b4, b5, b6, b7, b8, true, true, b11, b12, b13, b14, b15, b16, b17, b18, b19, x17, x18, x19, x20, x21, x22, x23, x24, x25, .bool false, (undef), x28, x29, x30, x31, x32, x33, x34, x35, x36, (by simp only [Act.put, List.setIfInBounds_toArray, List.set_cons_zero, List.set_cons_succ]), (by simp only [Act.put, List.setIfInBounds_toArray, List.set_cons_zero, List.set_cons_succ]), hb, cd0, cd1, cd2, cd3, cd4, cd5, cd6, cd7, cd8, (fun _ => rfl), (fun _ => rfl), cd11, cd12, cd13, cd14, cd15, cd16, cd17, cd18, cd19⟩
          · rintro L a w ⟨b0, b1, b2, b3, b4, b5, b6, b7, b8, b9, b10, b11, b12, b13, b14, b15, b16, b17, b18, b19, x17, x18, x19, x20, x21, x22, x23, x24, x25, x26, x27, x28, x29, x30, x31, x32, x33, x34, x35, x36, rfl, rfl, hb, cd0, cd1, cd2, cd3, cd4, cd5, cd6, cd7, cd8, cd9, cd10, cd11, cd12, cd13, cd14, cd15, cd16, cd17, cd18, cd19⟩ hf hd
            have hf' : b11 = false := hf
            subst hf'
            have d10 : b10 = true := hd ⟨10, .data⟩ (by simp) rfl
            subst d10
            have d9 : b9 = true := hd ⟨9, .guard⟩ (by simp) rfl
            subst d9
            obtain rfl := cd10.out rfl
            obtain rfl := cd9.out rfl
            clear hf hd
            try simp only [List.setIfInBounds_toArray, List.set_cons_zero, List.set_cons_succ]
            intro K hK
            rw [if_neg (Bool.eq_false_iff.1 (by rfl))]
            exact hK.out _ _ ⟨b0, b1, b2, b3, b4, b5, b6, b7, b8, true, true, true, b12, b13, b14, b15, b16, b17, b18, b19, x17, x18, x19, x20, x21, x22, x23, x24, x25, .bool false, undef, (undef), x29, x30, x31, x32, x33, x34, x35, x36, (by simp only [Act.put, List.setIfInBounds_toArray, List.set_cons_zero, List.set_cons_succ]), (by simp only [Act.put, List.setIfInBounds_toArray, List.set_cons_zero, List.set_cons_succ]), hb, cd0, cd1, cd2, cd3, cd4, cd5, cd6, cd7, cd8, (fun _ => rfl), (fun _ => rfl), (fun _ => rfl), cd12, cd13, cd14, cd15, cd16, cd17, cd18, cd19⟩
          · rintro L a w ⟨b0, b1, b2, b3, b4, b5, b6, b7, b8, b9, b10, b11, b12, b13, b14, b15, b16, b17, b18, b19, x17, x18, x19, x20, x21, x22, x23, x24, x25, x26, x27, x28, x29, x30, x31, x32, x33, x34, x35, x36, rfl, rfl, hb, cd0, cd1, cd2, cd3, cd4, cd5, cd6, cd7, cd8, cd9, cd10, cd11, cd12, cd13, cd14, cd15, cd16, cd17, cd18, cd19⟩ hf hd
            have hf' : b12 = false := hf
            subst hf'
            have d9 : b9 = true := hd ⟨9, .guard⟩ (by simp) rfl
            subst d9
            obtain rfl := cd9.out rfl
            clear hf hd
            try simp only [List.setIfInBounds_toArray, List.set_cons_zero, List.set_cons_succ]
            intro K hK
            rw [if_neg (Bool.eq_false_iff.1 (by rfl))]
            exact hK.out _ _ ⟨b0, b1, b2, b3, b4, b5, b6, b7, b8, true, b10, b11, true, b13, b14, b15, b16, b17, b18, b19, x17, x18, x19, x20, x21, x22, x23, x24, x25, .bool false, x27, x28, (undef), x30, x31, x32, x33, x34, x35, x36, (by simp only [Act.put, List.setIfInBounds_toArray, List.set_cons_zero, List.set_cons_succ]), (by simp only [Act.put, List.setIfInBounds_toArray, List.set_cons_zero, List.set_cons_succ]), hb, cd0, cd1, cd2, cd3, cd4, cd5, cd6, cd7, cd8, (fun _ => rfl), cd10, cd11, (fun _ => rfl), cd13, cd14, cd15, cd16, cd17, cd18, cd19⟩
          · rintro L a w ⟨b0, b1, b2, b3, b4, b5, b6, b7, b8, b9, b10, b11, b12, b13, b14, b15, b16, b17, b18, b19, x17, x18, x19, x20, x21, x22, x23, x24, x25, x26, x27, x28, x29, x30, x31, x32, x33, x34, x35, x36, rfl, rfl, hb, cd0, cd1, cd2, cd3, cd4, cd5, cd6, cd7, cd8, cd9, cd10, cd11, cd12, cd13, cd14, cd15, cd16, cd17, cd18, cd19⟩ hf hd
            have hf' : b13 = false := hf
            subst hf'
            have d11 : b11 = true := hd ⟨11, .data⟩ (by simp) rfl
            subst d11
            have d12 : b12 = true := hd ⟨12, .data⟩ (by simp) rfl
            subst d12
            have d9 : b9 = true := hd ⟨9, .guard⟩ (by simp) rfl
            subst d9
            obtain rfl := cd11.out rfl
            obtain rfl := cd12.out rfl
            obtain rfl := cd9.out rfl
            clear hf hd
            try simp only [List.setIfInBounds_toArray, List.set_cons_zero, List.set_cons_succ]
            intro K hK
            rw [if_neg (Bool.eq_false_iff.1 (by rfl))]
            exact hK.out _ _ ⟨b0, b1, b2, b3, b4, b5, b6, b7, b8, true, b10, true, true, true, b14, b15, b16, b17, b18, b19, x17, x18, x19, x20, x21, x22, x23, x24, x25, .bool false, x27, undef, undef, (undef), x31, x32, x33, x34, x35, x36, (by simp only [Act.put, List.setIfInBounds_toArray, List.set_cons_zero, List.set_cons_succ]), (by simp only [Act.put, List.setIfInBounds_toArray, List.set_cons_zero, List.set_cons_succ]), hb, cd0, cd1, cd2, cd3, cd4, cd5, cd6, cd7, cd8, (fun _ => rfl), cd10, (fun _ => rfl), (fun _ => rfl), (fun _ => rfl), cd14, cd15, cd16, cd17, cd18, cd19⟩
          · rintro L a w ⟨b0, b1, b2, b3, b4, b5, b6, b7, b8, b9, b10, b11, b12, b13, b14, b15, b16, b17, b18, b19, x17, x18, x19, x20, x21, x22, x23, x24, x25, x26, x27, x28, x29, x30, x31, x32, x33, x34, x35, x36, rfl, rfl, hb, cd0, cd1, cd2, cd3, cd4, cd5, cd6, cd7, cd8, cd9, cd10, cd11, cd12, cd13, cd14, cd15, cd16, cd17, cd18, cd19⟩ hf hd
            have hf' : b14 = false := hf
            subst hf'
            have d13 : b13 = true := hd ⟨13, .data⟩ (by simp) rfl
            subst d13
            have d9 : b9 = true := hd ⟨9, .guard⟩ (by simp) rfl
            subst d9
            obtain rfl := cd13.out rfl
            obtain rfl := cd9.out rfl
            clear hf hd
            try simp only [List.setIfInBounds_toArray, List.set_cons_zero, List.set_cons_succ]
            intro K hK
            rw [if_neg (Bool.eq_false_iff.1 (by rfl))]
            exact hK.out _ _ ⟨b0, b1, b2, b3, b4, b5, b6, b7, b8, true, b10, b11, b12, true, true, b15, b16, b17, b18, b19, x17, x18, x19, x20, x21, x22, x23, x24, x25, .bool false, x27, x28, x29, undef, (undef), x32, x33, x34, x35, x36, (by simp only [Act.put, List.setIfInBounds_toArray, List.set_cons_zero, List.set_cons_succ]), (by simp only [Act.put, List.setIfInBounds_toArray, List.set_cons_zero, List.set_cons_succ]), hb, cd0, cd1, cd2, cd3, cd4, cd5, cd6, cd7, cd8, (fun _ => rfl), cd10, cd11, cd12, (fun _ => rfl), (fun _ => rfl), cd15, cd16, cd17, cd18, cd19⟩
          · rintro L a w ⟨b0, b1, b2, b3, b4, b5, b6, b7, b8, b9, b10, b11, b12, b13, b14, b15, b16, b17, b18, b19, x17, x18, x19, x20, x21, x22, x23, x24, x25, x26, x27, x28, x29, x30, x31, x32, x33, x34, x35, x36, rfl, rfl, hb, cd0, cd1, cd2, cd3, cd4, cd5, cd6, cd7, cd8, cd9, cd10, cd11, cd12, cd13, cd14, cd15, cd16, cd17, cd18, cd19⟩ hf hd
            have hf' : b15 = false := hf
            subst hf'
            have d14 : b14 = true := hd ⟨14, .data⟩ (by simp) rfl
            subst d14
            have d9 : b9 = true := hd ⟨9, .guard⟩ (by simp) rfl
            subst d9
            obtain rfl := cd14.out rfl
            obtain rfl := cd9.out rfl
            clear hf hd
            try simp only [List.setIfInBounds_toArray, List.set_cons_zero, List.set_cons_succ]
            intro K hK
            rw [if_neg (Bool.eq_false_iff.1 (by rfl))]
            exact hK.out _ _ ⟨b0, b1, b2, b3, b4, b5, b6, b7, b8, true, b10, b11, b12, b13, true, true, b16, b17, b18, b19, x17, x18, x19, x20, x21, x22, x23, x24, x25, .bool false, x27, x28, x29, x30, undef, (undef), x33, x34, x35, x36, (by simp only [Act.put, List.setIfInBounds_toArray, List.set_cons_zero, List.set_cons_succ]), (by simp only [Act.put, List.setIfInBounds_toArray, List.set_cons_zero, List.set_cons_succ]), hb, cd0, cd1, cd2, cd3, cd4, cd5, cd6, cd7, cd8, (fun _ => rfl), cd10, cd11, cd12, cd13, (fun _ => rfl), (fun _ => rfl), cd16, cd17, cd18, cd19⟩
          · rintro L a w ⟨b0, b1, b2, b3, b4, b5, b6, b7, b8, b9, b10, b11, b12, b13, b14, b15, b16, b17, b18, b19, x17, x18, x19, x20, x21, x22, x23, x24, x25, x26, x27, x28, x29, x30, x31, x32, x33, x34, x35, x36, rfl, rfl, hb, cd0, cd1, cd2, cd3, cd4, cd5, cd6, cd7, cd8, cd9, cd10, cd11, cd12, cd13, cd14, cd15, cd16, cd17, cd18, cd19⟩ hf hd
            have hf' : b16 = false := hf
            subst hf'
            have d9 : b9 = true := hd ⟨9, .guard⟩ (by simp) rfl
            subst d9
            obtain rfl := cd9.out rfl
            clear hf hd
            try simp only [List.setIfInBounds_toArray, List.set_cons_zero, List.set_cons_succ]
            intro K hK
            rw [if_neg (Bool.eq_false_iff.1 (by rfl))]
            exact hK.out _ _ ⟨b0, b1, b2, b3, b4, b5, b6, b7, b8, true, b10, b11, b12, b13, b14, b15, true, b17, b18, b19, x17, x18, x19, x20, x21, x22, x23, x24, x25, .bool false, x27, x28, x29, x30, x31, x32, (undef), x34, x35, x36, (by simp only [Act.put, List.setIfInBounds_toArray, List.set_cons_zero, List.set_cons_succ]), (by simp only [Act.put, List.setIfInBounds_toArray, List.set_cons_zero, List.set_cons_succ]), hb, cd0, cd1, cd2, cd3, cd4, cd5, cd6, cd7, cd8, (fun _ => rfl), cd10, cd11, cd12, cd13, cd14, cd15, (fun _ => rfl), cd17, cd18, cd19⟩
          · rintro L a w ⟨b0, b1, b2, b3, b4, b5, b6, b7, b8, b9, b10, b11, b12, b13, b14, b15, b16, b17, b18, b19, x17, x18, x19, x20, x21, x22, x23, x24, x25, x26, x27, x28, x29, x30, x31, x32, x33, x34, x35, x36, rfl, rfl, hb, cd0, cd1, cd2, cd3, cd4, cd5, cd6, cd7, cd8, cd9, cd10, cd11, cd12, cd13, cd14, cd15, cd16, cd17, cd18, cd19⟩ hf hd
            have hf' : b17 = false := hf
            subst hf'
            have d16 : b16 = true := hd ⟨16, .data⟩ (by simp) rfl
            subst d16
            have d9 : b9 = true := hd ⟨9, .guard⟩ (by simp) rfl
            subst d9
            obtain rfl := cd16.out rfl
            obtain rfl := cd9.out rfl
            clear hf hd
            try simp only [List.setIfInBounds_toArray, List.set_cons_zero, List.set_cons_succ]
            intro K hK
            rw [if_neg (Bool.eq_false_iff.1 (by rfl))]
            exact hK.out _ _ ⟨b0, b1, b2, b3, b4, b5, b6, b7, b8, true, b10, b11, b12, b13, b14, b15, true, true, b18, b19, x17, x18, x19, x20, x21, x22, x23, x24, x25, .bool false, x27, x28, x29, x30, x31, x32, undef, (undef), x35, x36, (by simp only [Act.put, List.setIfInBounds_toArray, List.set_cons_zero, List.set_cons_succ]), (by simp only [Act.put, List.setIfInBounds_toArray, List.set_cons_zero, List.set_cons_succ]), hb, cd0, cd1, cd2, cd3, cd4, cd5, cd6, cd7, cd8, (fun _ => rfl), cd10, cd11, cd12, cd13, cd14, cd15, (fun _ => rfl), (fun _ => rfl), cd18, cd19⟩
          · rintro L a w ⟨b0, b1, b2, b3, b4, b5, b6, b7, b8, b9, b10, b11, b12, b13, b14, b15, b16, b17, b18, b19, x17, x18, x19, x20, x21, x22, x23, x24, x25, x26, x27, x28, x29, x30, x31, x32, x33, x34, x35, x36, rfl, rfl, hb, cd0, cd1, cd2, cd3, cd4, cd5, cd6, cd7, cd8, cd9, cd10, cd11, cd12, cd13, cd14, cd15, cd16, cd17, cd18, cd19⟩ hf hd
            have hf' : b18 = false := hf
            subst hf'
            have d15 : b15 = true := hd ⟨15, .data⟩ (by simp) rfl
            subst d15
            have d17 : b17 = true := hd ⟨17, .data⟩ (by simp) rfl
            subst d17
            have d9 : b9 = true := hd ⟨9, .guard⟩ (by simp) rfl
            subst d9
            obtain rfl := cd15.out rfl
            obtain rfl := cd17.out rfl
            obtain rfl := cd9.out rfl
            clear hf hd
            try simp only [List.setIfInBounds_toArray, List.set_cons_zero, List.set_cons_succ]
            intro K hK
            rw [if_neg (Bool.eq_false_iff.1 (by rfl))]
            exact hK.out _ _ ⟨b0, b1, b2, b3, b4, b5, b6, b7, b8, true, b10, b11, b12, b13, b14, true, b16, true, true, b19, x17, x18, x19, x20, x21, x22, x23, x24, x25, .bool false, x27, x28, x29, x30, x31, undef, x33, undef, (undef), x36, (by simp only [Act.put, List.setIfInBounds_toArray, List.set_cons_zero, List.set_cons_succ]), (by simp only [Act.put, List.setIfInBounds_toArray, List.set_cons_zero, List.set_cons_succ]), hb, cd0, cd1, cd2, cd3, cd4, cd5, cd6, cd7, cd8, (fun _ => rfl), cd10, cd11, cd12, cd13, cd14, (fun _ => rfl), cd16, (fun _ => rfl), (fun _ => rfl), cd19⟩
          · rintro L a w ⟨b0, b1, b2, b3, b4, b5, b6, b7, b8, b9, b10, b11, b12, b13, b14, b15, b16, b17, b18, b19, x17, x18, x19, x20, x21, x22, x23, x24, x25, x26, x27, x28, x29, x30, x31, x32, x33, x34, x35, x36, rfl, rfl, hb, cd0, cd1, cd2, cd3, cd4, cd5, cd6, cd7, cd8, cd9, cd10, cd11, cd12, cd13, cd14, cd15, cd16, cd17, cd18, cd19⟩ hf hd
            have hf' : b19 = false := hf
            subst hf'
            have d9 : b9 = true := hd ⟨9, .data⟩ (by simp) rfl
            subst d9
            have d18 : b18 = true := hd ⟨18, .data⟩ (by simp) rfl
            subst d18
            obtain rfl := cd9.out rfl
            obtain rfl := cd18.out rfl
            clear hf hd
            try simp only [List.setIfInBounds_toArray, List.set_cons_zero, List.set_cons_succ]
            intro K hK
            rw [if_pos (by rfl)]
            go_simp
            exact hK.out _ _ ⟨b0, b1, b2, b3, b4, b5, b6, b7, b8, true, b10, b11, b12, b13, b14, b15, b16, b17, true, true, x17, x18, x19, x20, x21, x22, x23, x24, x25, .bool false, x27, x28, x29, x30, x31, x32, x33, x34, undef, (.bool false), (by simp only [Act.put, List.setIfInBounds_toArray, List.set_cons_zero, List.set_cons_succ]), (by simp only [Act.put, List.setIfInBounds_toArray, List.set_cons_zero, List.set_cons_succ]), hb, cd0, cd1, cd2, cd3, cd4, cd5, cd6, cd7, cd8, (fun _ => rfl), cd10, cd11, cd12, cd13, cd14, cd15, cd16, cd17, (fun _ => rfl), (fun _ => rfl)⟩
        · rintro act V ⟨b0, b1, b2, b3, b4, b5, b6, b7, b8, b9, b10, b11, b12, b13, b14, b15, b16, b17, b18, b19, x17, x18, x19, x20, x21, x22, x23, x24, x25, x26, x27, x28, x29, x30, x31, x32, x33, x34, x35, x36, hL, rfl, hb, cd0, cd1, cd2, cd3, cd4, cd5, cd6, cd7, cd8, cd9, cd10, cd11, cd12, cd13, cd14, cd15, cd16, cd17, cd18, cd19⟩
          have hL' : [true, true, true, true, true, true, true, true, true, true, true, true, true, true, true, true, true, true, true, true] = [b0, b1, b2, b3, b4, b5, b6, b7, b8, b9, b10, b11, b12, b13, b14, b15, b16, b17, b18, b19] := congrArg Array.toList hL
          simp only [List.cons.injEq, and_true] at hL'
          obtain ⟨rfl, rfl, rfl, rfl, rfl, rfl, rfl, rfl, rfl, rfl, rfl, rfl, rfl, rfl, rfl, rfl, rfl, rfl, rfl, rfl⟩ := hL'
          obtain rfl := cd0.out rfl
          obtain rfl := cd1.out rfl
          obtain rfl := cd2.out rfl
          obtain rfl := cd3.out rfl
          obtain rfl := cd4.out rfl
          obtain rfl := cd5.out rfl
          obtain rfl := cd6.out rfl
          obtain rfl := cd7.out rfl
          obtain rfl := cd8.out rfl
          obtain rfl := cd9.out rfl
          obtain rfl := cd10.out rfl
          obtain rfl := cd11.out rfl
          obtain rfl := cd12.out rfl
          obtain rfl := cd13.out rfl
          obtain rfl := cd14.out rfl
          obtain rfl := cd15.out rfl
          obtain rfl := cd16.out rfl
          obtain rfl := cd17.out rfl
          obtain rfl := cd18.out rfl
          obtain rfl := cd19.out rfl
          clear hL cd0 cd1 cd2 cd3 cd4 cd5 cd6 cd7 cd8 cd9 cd10 cd11 cd12 cd13 cd14 cd15 cd16 cd17 cd18 cd19
          simp only [List.setIfInBounds_toArray, List.set_cons_zero, List.set_cons_succ]
          have BU := BU.trans (((Below.refl _ _).drew.trans hb).mono BU.size)
          clear hb c0_ z0_ z1_ z2_ y0_ y1_ y2_ hpB hrB hbB hB0
          go_upto_region 8 with fail
          generalize V = W8 at BU ⊢
          obtain ⟨c0_, c1_⟩ := (X0.past BU).c
          obtain ⟨z0_, z1_, z2_⟩ := (Z0.past BU).c
          simp only at z0_ z1_ z2_
          have y0_ := (BU.cell (show (⟨rb, roff + i * 3, none⟩ : Addr).block < U.heap.size from hrb)).trans yu0
          have y1_ := (BU.cell (show (⟨rb, roff + i * 3 + 1, none⟩ : Addr).block < U.heap.size from hrb)).trans yu1
          have y2_ := (BU.cell (show (⟨rb, roff + i * 3 + 2, none⟩ : Addr).block < U.heap.size from hrb)).trans yu2
          have hpB := Nat.lt_of_lt_of_le X0.lt BU.size
          have hrB := Nat.lt_of_lt_of_le Z0.lt BU.size
          have hbB := Nat.lt_of_lt_of_le hrb BU.size
          have hB0 : W8.heap.size ≤ W8.heap.size := Nat.le_refl _
          cases fr
          · have hF2 : Hid (false = (H.take (i + 1)).all (fun k => !clash k ⟨s, t, x⟩)) := Lib.hid (by rw [all_next _ hyh.out, ← hF.out]; rfl)
            refine region_inv (Ask8F W8.heap.size p r rb roff hn hc i ys yt s t) (by kernel_rfl) (by kernel_rfl) ?_ ?_ ?_
            · exact ⟨false, false, false, false, false, false, false, false, false, false, false, false, u38, u39, u40, u41, u42, u43, u44, u45, u46, u47, u48, .bool false, rfl, (by simp only [Act.put, List.setIfInBounds_toArray, List.set_cons_zero, List.set_cons_succ]), Below.refl _ _, (fun h => by cases h), (fun h => by cases h), (fun h => by cases h), (fun h => by cases h), (fun h => by cases h), (fun h => by cases h), (fun h => by cases h), (fun h => by cases h), (fun h => by cases h), (fun h => by cases h), (fun h => by cases h), (fun h => by cases h), (fun h => by cases h), (fun h1 => rfl)⟩
            · refine ⟨?_, ?_, ?_, ?_, ?_, ?_, ?_, ?_, ?_, ?_, ?_, ?_, trivial⟩
              · rintro L a w ⟨b0, b1, b2, b3, b4, b5, b6, b7, b8, b9, b10, b11, x38, x39, x40, x41, x42, x43, x44, x45, x46, x47, x48, x7, rfl, rfl, hb, cd0, cd1, cd2, cd3, cd4, cd5, cd6, cd7, cd8, cd9, cd10, cd11, f_o12, f_s11⟩ hf hd
                have hf' : b0 = false := hf
                subst hf'
                clear hf hd
                have e11 : b11 = false := by cases hq : b11 with | false => rfl | true => exact absurd (f_o12.out hq) (by simp)
                subst e11
                obtain rfl := f_s11.out rfl
                try simp only [List.setIfInBounds_toArray, List.set_cons_zero, List.set_cons_succ]
                intro K hK
                rw [if_pos (by rfl)]
                go_simp
                exact hK.out _ _ ⟨true, b1, b2, b3, b4, b5, b6, b7, b8, b9, b10, false, (.bool false), x39, x40, x41, x42, x43, x44, x45, x46, x47, x48, (.bool false), (by simp only [Act.put, List.setIfInBounds_toArray, List.set_cons_zero, List.set_cons_succ]), (by simp only [Act.put, List.setIfInBounds_toArray, List.set_cons_zero, List.set_cons_succ]), hb, (fun _ => rfl), cd1, cd2, cd3, cd4, cd5, cd6, cd7, cd8, cd9, cd10, cd11, (fun _ => rfl), f_s11⟩
              · rintro L a w ⟨b0, b1, b2, b3, b4, b5, b6, b7, b8, b9, b10, b11, x38, x39, x40, x41, x42, x43, x44, x45, x46, x47, x48, x7, rfl, rfl, hb, cd0, cd1, cd2, cd3, cd4, cd5, cd6, cd7, cd8, cd9, cd10, cd11, f_o12, f_s11⟩ hf hd
                have hf' : b1 = false := hf
                subst hf'
                have d0 : b0 = true := hd ⟨0, .data⟩ (by simp) rfl
                subst d0
                obtain rfl := cd0.out rfl
                clear hf hd
                try simp only [List.setIfInBounds_toArray, List.set_cons_zero, List.set_cons_succ]
                intro K hK
                rw [if_pos (by rfl)]
                go_simp
                exact hK.out _ _ ⟨true, true, b2, b3, b4, b5, b6, b7, b8, b9, b10, b11, .bool false, (.bool false), x40, x41, x42, x43, x44, x45, x46, x47, x48, x7, (by simp only [Act.put, List.setIfInBounds_toArray, List.set_cons_zero, List.set_cons_succ]), (by simp only [Act.put, List.setIfInBounds_toArray, List.set_cons_zero, List.set_cons_succ]), hb, (fun _ => rfl), (fun _ => rfl), cd2, cd3, cd4, cd5, cd6, cd7, cd8, cd9, cd10, cd11, f_o12, f_s11⟩
              · rintro L a w ⟨b0, b1, b2, b3, b4, b5, b6, b7, b8, b9, b10, b11, x38, x39, x40, x41, x42, x43, x44, x45, x46, x47, x48, x7, rfl, rfl, hb, cd0, cd1, cd2, cd3, cd4, cd5, cd6, cd7, cd8, cd9, cd10, cd11, f_o12, f_s11⟩ hf hd
                have hf' : b2 = false := hf
                subst hf'
                have d1 : b1 = true := hd ⟨1, .guard⟩ (by simp) rfl
                subst d1
                obtain rfl := cd1.out rfl
                clear hf hd
                try simp only [List.setIfInBounds_toArray, List.set_cons_zero, List.set_cons_succ]
                intro K hK
                rw [if_neg (Bool.eq_false_iff.1 (by rfl))]
                exact hK.out _ _ ⟨b0, true, true, b3, b4, b5, b6, b7, b8, b9, b10, b11, x38, .bool false, (undef), x41, x42, x43, x44, x45, x46, x47, x48, x7, (by simp only [Act.put, List.setIfInBounds_toArray, List.set_cons_zero, List.set_cons_succ]), (by simp only [Act.put, List.setIfInBounds_toArray, List.set_cons_zero, List.set_cons_succ]), hb, cd0, (fun _ => rfl), (fun _ => rfl), cd3, cd4, cd5, cd6, cd7, cd8, cd9, cd10, cd11, f_o12, f_s11⟩
              · rintro L a w ⟨b0, b1, b2, b3, b4, b5, b6, b7, b8, b9, b10, b11, x38, x39, x40, x41, x42, x43, x44, x45, x46, x47, x48, x7, rfl, rfl, hb, cd0, cd1, cd2, cd3, cd4, cd5, cd6, cd7, cd8, cd9, cd10, cd11, f_o12, f_s11⟩ hf hd
                have hf' : b3 = false := hf
                subst hf'
                have d2 : b2 = true := hd ⟨2, .data⟩ (by simp) rfl
                subst d2
                have d1 : b1 = true := hd ⟨1, .guard⟩ (by simp) rfl
                subst d1
                obtain rfl := cd2.out rfl
                obtain rfl := cd1.out rfl
                clear hf hd
                try simp only [List.setIfInBounds_toArray, List.set_cons_zero, List.set_cons_succ]
                intro K hK
                rw [if_neg (Bool.eq_false_iff.1 (by rfl))]
                exact hK.out _ _ ⟨b0, true, true, true, b4, b5, b6, b7, b8, b9, b10, b11, x38, .bool false, undef, (undef), x42, x43, x44, x45, x46, x47, x48, x7, (by simp only [Act.put, List.setIfInBounds_toArray, List.set_cons_zero, List.set_cons_succ]), (by simp only [Act.put, List.setIfInBounds_toArray, List.set_cons_zero, List.set_cons_succ]), hb, cd0, (fun _ => rfl), (fun _ => rfl), (fun _ => rfl), cd4, cd5, cd6, cd7, cd8, cd9, cd10, cd11, f_o12, f_s11⟩
              · rintro L a w ⟨b0, b1, b2, b3, b4, b5, b6, b7, b8, b9, b10, b11, x38, x39, x40, x41, x42, x43, x44, x45, x46, x47, x48, x7, rfl, rfl, hb, cd0, cd1, cd2, cd3, cd4, cd5, cd6, cd7, cd8, cd9, cd10, cd11, f_o12, f_s11⟩ hf hd
                have hf' : b4 = false := hf
                subst hf'
                have d1 : b1 = true := hd ⟨1, .guard⟩ (by simp) rfl
                subst d1
                obtain rfl := cd1.out rfl
                clear hf hd
                try simp only [List.setIfInBounds_toArray, List.set_cons_zero, List.set_cons_succ]
                intro K hK
                rw [if_neg (Bool.eq_false_iff.1 (by rfl))]
                exact hK.out _ _ ⟨b0, true, b2, b3, true, b5, b6, b7, b8, b9, b10, b11, x38, .bool false, x40, x41, (undef), x43, x44, x45, x46, x47, x48, x7, (by simp only [Act.put, List.setIfInBounds_toArray, List.set_cons_zero, List.set_cons_succ]), (by simp only [Act.put, List.setIfInBounds_toArray, List.set_cons_zero, List.set_cons_succ]), hb, cd0, (fun _ => rfl), cd2, cd3, (fun _ => rfl), cd5, cd6, cd7, cd8, cd9, cd10, cd11, f_o12, f_s11⟩
              · rintro L a w ⟨b0, b1, b2, b3, b4, b5, b6, b7, b8, b9, b10, b11, x38, x39, x40, x41, x42, x43, x44, x45, x46, x47, x48, x7, rfl, rfl, hb, cd0, cd1, cd2, cd3, cd4, cd5, cd6, cd7, cd8, cd9, cd10, cd11, f_o12, f_s11⟩ hf hd
                have hf' : b5 = false := hf
                subst hf'
                have d3 : b3 = true := hd ⟨3, .data⟩ (by simp) rfl
                subst d3
                have d4 : b4 = true := hd ⟨4, .data⟩ (by simp) rfl
                subst d4
                have d1 : b1 = true := hd ⟨1, .guard⟩ (by simp) rfl
                subst d1
                obtain rfl := cd3.out rfl
                obtain rfl := cd4.out rfl
                obtain rfl := cd1.out rfl
                clear hf hd
                try simp only [List.setIfInBounds_toArray, List.set_cons_zero, List.set_cons_succ]
                intro K hK
                rw [if_neg (Bool.eq_false_iff.1 (by rfl))]
                exact hK.out _ _ ⟨b0, true, b2, true, true, true, b6, b7, b8, b9, b10, b11, x38, .bool false, x40, undef, undef, (undef), x44, x45, x46, x47, x48, x7, (by simp only [Act.put, List.setIfInBounds_toArray, List.set_cons_zero, List.set_cons_succ]), (by simp only [Act.put, List.setIfInBounds_toArray, List.set_cons_zero, List.set_cons_succ]), hb, cd0, (fun _ => rfl), cd2, (fun _ => rfl), (fun _ => rfl), (fun _ => rfl), cd6, cd7, cd8, cd9, cd10, cd11, f_o12, f_s11⟩
              · rintro L a w ⟨b0, b1, b2, b3, b4, b5, b6, b7, b8, b9, b10, b11, x38, x39, x40, x41, x42, x43, x44, x45, x46, x47, x48, x7, rfl, rfl, hb, cd0, cd1, cd2, cd3, cd4, cd5, cd6, cd7, cd8, cd9, cd10, cd11, f_o12, f_s11⟩ hf hd
                have hf' : b6 = false := hf
                subst hf'
                have d5 : b5 = true := hd ⟨5, .data⟩ (by simp) rfl
                subst d5
                have d1 : b1 = true := hd ⟨1, .guard⟩ (by simp) rfl
                subst d1
                obtain rfl := cd5.out rfl
                obtain rfl := cd1.out rfl
                clear hf hd
                try simp only [List.setIfInBounds_toArray, List.set_cons_zero, List.set_cons_succ]
                intro K hK
                rw [if_neg (Bool.eq_false_iff.1 (by rfl))]
                exact hK.out _ _ ⟨b0, true, b2, b3, b4, true, true, b7, b8, b9, b10, b11, x38, .bool false, x40, x41, x42, undef, (undef), x45, x46, x47, x48, x7, (by simp only [Act.put, List.setIfInBounds_toArray, List.set_cons_zero, List.set_cons_succ]), (by simp only [Act.put, List.setIfInBounds_toArray, List.set_cons_zero, List.set_cons_succ]), hb, cd0, (fun _ => rfl), cd2, cd3, cd4, (fun _ => rfl), (fun _ => rfl), cd7, cd8, cd9, cd10, cd11, f_o12, f_s11⟩
              · rintro L a w ⟨b0, b1, b2, b3, b4, b5, b6, b7, b8, b9, b10, b11, x38, x39, x40, x41, x42, x43, x44, x45, x46, x47, x48, x7, rfl, rfl, hb, cd0, cd1, cd2, cd3, cd4, cd5, cd6, cd7, cd8, cd9, cd10, cd11, f_o12, f_s11⟩ hf hd
                have hf' : b7 = false := hf
                subst hf'
                have d1 : b1 = true := hd ⟨1, .guard⟩ (by simp) rfl
                subst d1
                obtain rfl := cd1.out rfl
                clear hf hd
                try simp only [List.setIfInBounds_toArray, List.set_cons_zero, List.set_cons_succ]
                intro K hK
                rw [if_neg (Bool.eq_false_iff.1 (by rfl))]
                exact hK.out _ _ ⟨b0, true, b2, b3, b4, b5, b6, true, b8, b9, b10, b11, x38, .bool false, x40, x41, x42, x43, x44, (undef), x46, x47, x48, x7, (by simp only [Act.put, List.setIfInBounds_toArray, List.set_cons_zero, List.set_cons_succ]), (by simp only [Act.put, List.setIfInBounds_toArray, List.set_cons_zero, List.set_cons_succ]), hb, cd0, (fun _ => rfl), cd2, cd3, cd4, cd5, cd6, (fun _ => rfl), cd8, cd9, cd10, cd11, f_o12, f_s11⟩
              · rintro L a w ⟨b0, b1, b2, b3, b4, b5, b6, b7, b8, b9, b10, b11, x38, x39, x40, x41, x42, x43, x44, x45, x46, x47, x48, x7, rfl, rfl, hb, cd0, cd1, cd2, cd3, cd4, cd5, cd6, cd7, cd8, cd9, cd10, cd11, f_o12, f_s11⟩ hf hd
                have hf' : b8 = false := hf
                subst hf'
                have d6 : b6 = true := hd ⟨6, .data⟩ (by simp) rfl
                subst d6
                have d7 : b7 = true := hd ⟨7, .data⟩ (by simp) rfl
                subst d7
                have d1 : b1 = true := hd ⟨1, .chain⟩ (by simp) rfl
                subst d1
                obtain rfl := cd6.out rfl
                obtain rfl := cd7.out rfl
                obtain rfl := cd1.out rfl
                clear hf hd
                try simp only [List.setIfInBounds_toArray, List.set_cons_zero, List.set_cons_succ]
                intro K hK
                rw [if_neg (Bool.eq_false_iff.1 (by rfl))]
                exact hK.out _ _ ⟨b0, true, b2, b3, b4, b5, true, true, true, b9, b10, b11, x38, .bool false, x40, x41, x42, x43, undef, undef, (undef), x47, x48, x7, (by simp only [Act.put, List.setIfInBounds_toArray, List.set_cons_zero, List.set_cons_succ]), (by simp only [Act.put, List.setIfInBounds_toArray, List.set_cons_zero, List.set_cons_succ]), hb, cd0, (fun _ => rfl), cd2, cd3, cd4, cd5, (fun _ => rfl), (fun _ => rfl), (fun _ => rfl), cd9, cd10, cd11, f_o12, f_s11⟩
              · rintro L a w ⟨b0, b1, b2, b3, b4, b5, b6, b7, b8, b9, b10, b11, x38, x39, x40, x41, x42, x43, x44, x45, x46, x47, x48, x7, rfl, rfl, hb, cd0, cd1, cd2, cd3, cd4, cd5, cd6, cd7, cd8, cd9, cd10, cd11, f_o12, f_s11⟩ hf hd
                have hf' : b9 = false := hf
                subst hf'
                have d8 : b8 = true := hd ⟨8, .data⟩ (by simp) rfl
                subst d8
                have d1 : b1 = true := hd ⟨1, .guard⟩ (by simp) rfl
                subst d1
                obtain rfl := cd8.out rfl
                obtain rfl := cd1.out rfl
                clear hf hd
                try simp only [List.setIfInBounds_toArray, List.set_cons_zero, List.set_cons_succ]
                intro K hK
                rw [if_neg (Bool.eq_false_iff.1 (by rfl))]
                exact hK.out _ _ ⟨b0, true, b2, b3, b4, b5, b6, b7, true, true, b10, b11, x38, .bool false, x40, x41, x42, x43, x44, x45, undef, (undef), x48, x7, (by simp only [Act.put, List.setIfInBounds_toArray, List.set_cons_zero, List.set_cons_succ]), (by simp only [Act.put, List.setIfInBounds_toArray, List.set_cons_zero, List.set_cons_succ]), hb, cd0, (fun _ => rfl), cd2, cd3, cd4, cd5, cd6, cd7, (fun _ => rfl), (fun _ => rfl), cd10, cd11, f_o12, f_s11⟩
              · rintro L a w ⟨b0, b1, b2, b3, b4, b5, b6, b7, b8, b9, b10, b11, x38, x39, x40, x41, x42, x43, x44, x45, x46, x47, x48, x7, rfl, rfl, hb, cd0, cd1, cd2, cd3, cd4, cd5, cd6, cd7, cd8, cd9, cd10, cd11, f_o12, f_s11⟩ hf hd
                have hf' : b10 = false := hf
                subst hf'
                have d1 : b1 = true := hd ⟨1, .data⟩ (by simp) rfl
                subst d1
                have d9 : b9 = true := hd ⟨9, .data⟩ (by simp) rfl
                subst d9
                obtain rfl := cd1.out rfl
                obtain rfl := cd9.out rfl
                clear hf hd
                try simp only [List.setIfInBounds_toArray, List.set_cons_zero, List.set_cons_succ]
                intro K hK
                rw [if_pos (by rfl)]
                go_simp
                exact hK.out _ _ ⟨b0, true, b2, b3, b4, b5, b6, b7, b8, true, true, b11, x38, .bool false, x40, x41, x42, x43, x44, x45, x46, undef, (.bool false), x7, (by simp only [Act.put, List.setIfInBounds_toArray, List.set_cons_zero, List.set_cons_succ]), (by simp only [Act.put, List.setIfInBounds_toArray, List.set_cons_zero, List.set_cons_succ]), hb, cd0, (fun _ => rfl), cd2, cd3, cd4, cd5, cd6, cd7, cd8, (fun _ => rfl), (fun _ => rfl), cd11, f_o12, f_s11⟩
              · rintro L a w ⟨b0, b1, b2, b3, b4, b5, b6, b7, b8, b9, b10, b11, x38, x39, x40, x41, x42, x43, x44, x45, x46, x47, x48, x7, rfl, rfl, hb, cd0, cd1, cd2, cd3, cd4, cd5, cd6, cd7, cd8, cd9, cd10, cd11, f_o12, f_s11⟩ hf hd
                have hf' : b11 = false := hf
                subst hf'
                have d10 : b10 = true := hd ⟨10, .data⟩ (by simp) rfl
                subst d10
                have d8 : b8 = true := hd ⟨8, .chain⟩ (by simp) rfl
                subst d8
                have d0 : b0 = true := hd ⟨0, .phase⟩ (by simp) rfl
                subst d0
                have d1 : b1 = true := hd ⟨1, .phase⟩ (by simp) rfl
                subst d1
                have d2 : b2 = true := hd ⟨2, .phase⟩ (by simp) rfl
                subst d2
                have d3 : b3 = true := hd ⟨3, .phase⟩ (by simp) rfl
                subst d3
                have d4 : b4 = true := hd ⟨4, .phase⟩ (by simp) rfl
                subst d4
                have d5 : b5 = true := hd ⟨5, .phase⟩ (by simp) rfl
                subst d5
                have d6 : b6 = true := hd ⟨6, .phase⟩ (by simp) rfl
                subst d6
                have d7 : b7 = true := hd ⟨7, .phase⟩ (by simp) rfl
                subst d7
                have d9 : b9 = true := hd ⟨9, .phase⟩ (by simp) rfl
                subst d9
                obtain rfl := cd10.out rfl
                obtain rfl := cd8.out rfl
                obtain rfl := cd0.out rfl
                obtain rfl := cd1.out rfl
                obtain rfl := cd2.out rfl
                obtain rfl := cd3.out rfl
                obtain rfl := cd4.out rfl
                obtain rfl := cd5.out rfl
                obtain rfl := cd6.out rfl
                obtain rfl := cd7.out rfl
                obtain rfl := cd9.out rfl
                clear hf hd
                have W_s11 := f_s11.out rfl
                try simp only [List.setIfInBounds_toArray, List.set_cons_zero, List.set_cons_succ]
                intro K hK
                rw [if_pos (by rfl)]
                go_simp
                exact hK.out _ _ ⟨true, true, true, true, true, true, true, true, true, true, true, true, .bool false, .bool false, undef, undef, undef, undef, undef, undef, undef, undef, .bool false, (.bool false), (by simp only [Act.put, List.setIfInBounds_toArray, List.set_cons_zero, List.set_cons_succ]), (by simp only [Act.put, List.setIfInBounds_toArray, List.set_cons_zero, List.set_cons_succ]), hb, (fun _ => rfl), (fun _ => rfl), (fun _ => rfl), (fun _ => rfl), (fun _ => rfl), (fun _ => rfl), (fun _ => rfl), (fun _ => rfl), (fun _ => rfl), (fun _ => rfl), (fun _ => rfl), (fun _ => rfl), (fun _ => rfl), (fun h => by cases h)⟩
            · rintro act V ⟨b0, b1, b2, b3, b4, b5, b6, b7, b8, b9, b10, b11, x38, x39, x40, x41, x42, x43, x44, x45, x46, x47, x48, x7, hL, rfl, hb, cd0, cd1, cd2, cd3, cd4, cd5, cd6, cd7, cd8, cd9, cd10, cd11, f_o12, f_s11⟩
              have hL' : [true, true, true, true, true, true, true, true, true, true, true, true] = [b0, b1, b2, b3, b4, b5, b6, b7, b8, b9, b10, b11] := congrArg Array.toList hL
              simp only [List.cons.injEq, and_true] at hL'
              obtain ⟨rfl, rfl, rfl, rfl, rfl, rfl, rfl, rfl, rfl, rfl, rfl, rfl⟩ := hL'
              obtain rfl := cd0.out rfl
              obtain rfl := cd1.out rfl
              obtain rfl := cd2.out rfl
              obtain rfl := cd3.out rfl
              obtain rfl := cd4.out rfl
              obtain rfl := cd5.out rfl
              obtain rfl := cd6.out rfl
              obtain rfl := cd7.out rfl
              obtain rfl := cd8.out rfl
              obtain rfl := cd9.out rfl
              obtain rfl := cd10.out rfl
              obtain rfl := cd11.out rfl
              have W_o12 := f_o12.out rfl
              clear hL f_o12 f_s11 cd0 cd1 cd2 cd3 cd4 cd5 cd6 cd7 cd8 cd9 cd10 cd11
              simp only [List.setIfInBounds_toArray, List.set_cons_zero, List.set_cons_succ]
              have BU := BU.trans (((Below.refl _ _).drew.trans hb).mono BU.size)
              clear hb
              go_wp2_with fail
              go_roundw
              case rel => exact ⟨_, _, i + 1, rfl, rfl, by go_num, by omega, hA2, hF2, BU⟩
              case measure => simp [intOf]; omega
          · have hF2 : Hid ((!cl) = (H.take (i + 1)).all (fun k => !clash k ⟨s, t, x⟩)) := Lib.hid (by rw [all_next _ hyh.out, ← hF.out, hclh.out]; rfl)
            refine region_inv (Ask8T W8.heap.size p r rb roff hn hc i ys yt yx s t x cl) (by kernel_rfl) (by kernel_rfl) ?_ ?_ ?_
            · exact ⟨false, false, false, false, false, false, false, false, false, false, false, false, u38, u39, u40, u41, u42, u43, u44, u45, u46, u47, u48, .bool true, rfl, (by simp only [Act.put, List.setIfInBounds_toArray, List.set_cons_zero, List.set_cons_succ]), Below.refl _ _, (fun h => by cases h), (fun h => by cases h), (fun h => by cases h), (fun h => by cases h), (fun h => by cases h), (fun h => by cases h), (fun h => by cases h), (fun h => by cases h), (fun h => by cases h), (fun h => by cases h), (fun h => by cases h), (fun h => by cases h), (fun h => by cases h), (fun h1 => rfl)⟩
            · refine ⟨?_, ?_, ?_, ?_, ?_, ?_, ?_, ?_, ?_, ?_, ?_, ?_, trivial⟩
              · rintro L a w ⟨b0, b1, b2, b3, b4, b5, b6, b7, b8, b9, b10, b11, x38, x39, x40, x41, x42, x43, x44, x45, x46, x47, x48, x7, rfl, rfl, hb, cd0, cd1, cd2, cd3, cd4, cd5, cd6, cd7, cd8, cd9, cd10, cd11, f_o12, f_s11⟩ hf hd
                have hf' : b0 = false := hf
                subst hf'
                clear hf hd
                have e11 : b11 = false := by cases hq : b11 with | false => rfl | true => exact absurd (f_o12.out hq) (by simp)
                subst e11
                obtain rfl := f_s11.out rfl
                try simp only [List.setIfInBounds_toArray, List.set_cons_zero, List.set_cons_succ]
                intro K hK
                rw [if_pos (by rfl)]
                go_simp
                exact hK.out _ _ ⟨true, b1, b2, b3, b4, b5, b6, b7, b8, b9, b10, false, (.bool true), x39, x40, x41, x42, x43, x44, x45, x46, x47, x48, (.bool true), (by simp only [Act.put, List.setIfInBounds_toArray, List.set_cons_zero, List.set_cons_succ]), (by simp only [Act.put, List.setIfInBounds_toArray, List.set_cons_zero, List.set_cons_succ]), hb, (fun _ => rfl), cd1, cd2, cd3, cd4, cd5, cd6, cd7, cd8, cd9, cd10, cd11, (fun _ => rfl), f_s11⟩
              · rintro L a w ⟨b0, b1, b2, b3, b4, b5, b6, b7, b8, b9, b10, b11, x38, x39, x40, x41, x42, x43, x44, x45, x46, x47, x48, x7, rfl, rfl, hb, cd0, cd1, cd2, cd3, cd4, cd5, cd6, cd7, cd8, cd9, cd10, cd11, f_o12, f_s11⟩ hf hd
                have hf' : b1 = false := hf
                subst hf'
                have d0 : b0 = true := hd ⟨0, .data⟩ (by simp) rfl
                subst d0
                obtain rfl := cd0.out rfl
                clear hf hd
                try simp only [List.setIfInBounds_toArray, List.set_cons_zero, List.set_cons_succ]
                intro K hK
                rw [if_pos (by rfl)]
                go_simp
                exact hK.out _ _ ⟨true, true, b2, b3, b4, b5, b6, b7, b8, b9, b10, b11, .bool true, (.bool true), x40, x41, x42, x43, x44, x45, x46, x47, x48, x7, (by simp only [Act.put, List.setIfInBounds_toArray, List.set_cons_zero, List.set_cons_succ]), (by simp only [Act.put, List.setIfInBounds_toArray, List.set_cons_zero, List.set_cons_succ]), hb, (fun _ => rfl), (fun _ => rfl), cd2, cd3, cd4, cd5, cd6, cd7, cd8, cd9, cd10, cd11, f_o12, f_s11⟩
              · rintro L a w ⟨b0, b1, b2, b3, b4, b5, b6, b7, b8, b9, b10, b11, x38, x39, x40, x41, x42, x43, x44, x45, x46, x47, x48, x7, rfl, rfl, hb, cd0, cd1, cd2, cd3, cd4, cd5, cd6, cd7, cd8, cd9, cd10, cd11, f_o12, f_s11⟩ hf hd
                have hf' : b2 = false := hf
                subst hf'
                have d1 : b1 = true := hd ⟨1, .guard⟩ (by simp) rfl
                subst d1
                obtain rfl := cd1.out rfl
                clear hf hd
                try simp only [List.setIfInBounds_toArray, List.set_cons_zero, List.set_cons_succ]
                intro K hK
                rw [if_pos (by rfl)]
                go_simp
                exact hK.out _ _ ⟨b0, true, true, b3, b4, b5, b6, b7, b8, b9, b10, b11, x38, .bool true, (.pointer (some ⟨p, 0, none⟩)), x41, x42, x43, x44, x45, x46, x47, x48, x7, (by simp only [Act.put, List.setIfInBounds_toArray, List.set_cons_zero, List.set_cons_succ]), (by simp only [Act.put, List.setIfInBounds_toArray, List.set_cons_zero, List.set_cons_succ]), hb, cd0, (fun _ => rfl), (fun _ => rfl), cd3, cd4, cd5, cd6, cd7, cd8, cd9, cd10, cd11, f_o12, f_s11⟩
              · rintro L a w ⟨b0, b1, b2, b3, b4, b5, b6, b7, b8, b9, b10, b11, x38, x39, x40, x41, x42, x43, x44, x45, x46, x47, x48, x7, rfl, rfl, hb, cd0, cd1, cd2, cd3, cd4, cd5, cd6, cd7, cd8, cd9, cd10, cd11, f_o12, f_s11⟩ hf hd
                have hf' : b3 = false := hf
                subst hf'
                have d2 : b2 = true := hd ⟨2, .data⟩ (by simp) rfl
                subst d2
                have d1 : b1 = true := hd ⟨1, .guard⟩ (by simp) rfl
                subst d1
                obtain rfl := cd2.out rfl
                obtain rfl := cd1.out rfl
                clear hf hd
                try simp only [List.setIfInBounds_toArray, List.set_cons_zero, List.set_cons_succ]
                have z0 := (hb.cell hpB).trans c0_
                intro K hK
                rw [if_pos (by rfl)]
                go_simp
                exact hK.out _ _ ⟨b0, true, true, true, b4, b5, b6, b7, b8, b9, b10, b11, x38, .bool true, .pointer (some ⟨p, 0, none⟩), (.slice (some ⟨rb, roff, none⟩) hn hc), x42, x43, x44, x45, x46, x47, x48, x7, (by simp only [Act.put, List.setIfInBounds_toArray, List.set_cons_zero, List.set_cons_succ]), (by simp only [Act.put, List.setIfInBounds_toArray, List.set_cons_zero, List.set_cons_succ]), hb, cd0, (fun _ => rfl), (fun _ => rfl), (fun _ => rfl), cd4, cd5, cd6, cd7, cd8, cd9, cd10, cd11, f_o12, f_s11⟩
              · rintro L a w ⟨b0, b1, b2, b3, b4, b5, b6, b7, b8, b9, b10, b11, x38, x39, x40, x41, x42, x43, x44, x45, x46, x47, x48, x7, rfl, rfl, hb, cd0, cd1, cd2, cd3, cd4, cd5, cd6, cd7, cd8, cd9, cd10, cd11, f_o12, f_s11⟩ hf hd
                have hf' : b4 = false := hf
                subst hf'
                have d1 : b1 = true := hd ⟨1, .guard⟩ (by simp) rfl
                subst d1
                obtain rfl := cd1.out rfl
                clear hf hd
                try simp only [List.setIfInBounds_toArray, List.set_cons_zero, List.set_cons_succ]
                intro K hK
                rw [if_pos (by rfl)]
                go_simp
                exact hK.out _ _ ⟨b0, true, b2, b3, true, b5, b6, b7, b8, b9, b10, b11, x38, .bool true, x40, x41, (.int .i64 (i : Nat)), x43, x44, x45, x46, x47, x48, x7, (by simp only [Act.put, List.setIfInBounds_toArray, List.set_cons_zero, List.set_cons_succ]), (by simp only [Act.put, List.setIfInBounds_toArray, List.set_cons_zero, List.set_cons_succ]), hb, cd0, (fun _ => rfl), cd2, cd3, (fun _ => rfl), cd5, cd6, cd7, cd8, cd9, cd10, cd11, f_o12, f_s11⟩
              · rintro L a w ⟨b0, b1, b2, b3, b4, b5, b6, b7, b8, b9, b10, b11, x38, x39, x40, x41, x42, x43, x44, x45, x46, x47, x48, x7, rfl, rfl, hb, cd0, cd1, cd2, cd3, cd4, cd5, cd6, cd7, cd8, cd9, cd10, cd11, f_o12, f_s11⟩ hf hd
                have hf' : b5 = false := hf
                subst hf'
                have d3 : b3 = true := hd ⟨3, .data⟩ (by simp) rfl
                subst d3
                have d4 : b4 = true := hd ⟨4, .data⟩ (by simp) rfl
                subst d4
                have d1 : b1 = true := hd ⟨1, .guard⟩ (by simp) rfl
                subst d1
                obtain rfl := cd3.out rfl
                obtain rfl := cd4.out rfl
                obtain rfl := cd1.out rfl
                clear hf hd
                try simp only [List.setIfInBounds_toArray, List.set_cons_zero, List.set_cons_succ]
                intro K hK
                rw [if_pos (by rfl)]
                go_simp
                exact hK.out _ _ ⟨b0, true, b2, true, true, true, b6, b7, b8, b9, b10, b11, x38, .bool true, x40, .slice (some ⟨rb, roff, none⟩) hn hc, .int .i64 (i : Nat), (.pointer (some ⟨rb, roff + i * 3, none⟩)), x44, x45, x46, x47, x48, x7, (by simp only [Act.put, List.setIfInBounds_toArray, List.set_cons_zero, List.set_cons_succ]), (by simp only [Act.put, List.setIfInBounds_toArray, List.set_cons_zero, List.set_cons_succ]), hb, cd0, (fun _ => rfl), cd2, (fun _ => rfl), (fun _ => rfl), (fun _ => rfl), cd6, cd7, cd8, cd9, cd10, cd11, f_o12, f_s11⟩
              · rintro L a w ⟨b0, b1, b2, b3, b4, b5, b6, b7, b8, b9, b10, b11, x38, x39, x40, x41, x42, x43, x44, x45, x46, x47, x48, x7, rfl, rfl, hb, cd0, cd1, cd2, cd3, cd4, cd5, cd6, cd7, cd8, cd9, cd10, cd11, f_o12, f_s11⟩ hf hd
                have hf' : b6 = false := hf
                subst hf'
                have d5 : b5 = true := hd ⟨5, .data⟩ (by simp) rfl
                subst d5
                have d1 : b1 = true := hd ⟨1, .guard⟩ (by simp) rfl
                subst d1
                obtain rfl := cd5.out rfl
                obtain rfl := cd1.out rfl
                clear hf hd
                try simp only [List.setIfInBounds_toArray, List.set_cons_zero, List.set_cons_succ]
                have z0 := (hb.cell hbB).trans y0_
                have z1 := (hb.cell hbB).trans y1_
                have z2 := (hb.cell hbB).trans y2_
                intro K hK
                rw [if_pos (by rfl)]
                go_simp
                exact hK.out _ _ ⟨b0, true, b2, b3, b4, true, true, b7, b8, b9, b10, b11, x38, .bool true, x40, x41, x42, .pointer (some ⟨rb, roff + i * 3, none⟩), (.agg #[.int .i64 ys, .string (bsOf yt), .bool yx]), x45, x46, x47, x48, x7, (by simp only [Act.put, List.setIfInBounds_toArray, List.set_cons_zero, List.set_cons_succ]), (by simp only [Act.put, List.setIfInBounds_toArray, List.set_cons_zero, List.set_cons_succ]), hb, cd0, (fun _ => rfl), cd2, cd3, cd4, (fun _ => rfl), (fun _ => rfl), cd7, cd8, cd9, cd10, cd11, f_o12, f_s11⟩
              · rintro L a w ⟨b0, b1, b2, b3, b4, b5, b6, b7, b8, b9, b10, b11, x38, x39, x40, x41, x42, x43, x44, x45, x46, x47, x48, x7, rfl, rfl, hb, cd0, cd1, cd2, cd3, cd4, cd5, cd6, cd7, cd8, cd9, cd10, cd11, f_o12, f_s11⟩ hf hd
                have hf' : b7 = false := hf
                subst hf'
                have d1 : b1 = true := hd ⟨1, .guard⟩ (by simp) rfl
                subst d1
                obtain rfl := cd1.out rfl
                clear hf hd
                try simp only [List.setIfInBounds_toArray, List.set_cons_zero, List.set_cons_succ]
                have z0 := (hb.cell hrB).trans z0_
                have z1 := (hb.cell hrB).trans z1_
                have z2 := (hb.cell hrB).trans z2_
                intro K hK
                rw [if_pos (by rfl)]
                go_simp
                exact hK.out _ _ ⟨b0, true, b2, b3, b4, b5, b6, true, b8, b9, b10, b11, x38, .bool true, x40, x41, x42, x43, x44, (.agg #[.int .i64 s, .string (bsOf t), .bool x]), x46, x47, x48, x7, (by simp only [Act.put, List.setIfInBounds_toArray, List.set_cons_zero, List.set_cons_succ]), (by simp only [Act.put, List.setIfInBounds_toArray, List.set_cons_zero, List.set_cons_succ]), hb, cd0, (fun _ => rfl), cd2, cd3, cd4, cd5, cd6, (fun _ => rfl), cd8, cd9, cd10, cd11, f_o12, f_s11⟩
              · rintro L a w ⟨b0, b1, b2, b3, b4, b5, b6, b7, b8, b9, b10, b11, x38, x39, x40, x41, x42, x43, x44, x45, x46, x47, x48, x7, rfl, rfl, hb, cd0, cd1, cd2, cd3, cd4, cd5, cd6, cd7, cd8, cd9, cd10, cd11, f_o12, f_s11⟩ hf hd
                have hf' : b8 = false := hf
                subst hf'
                have d6 : b6 = true := hd ⟨6, .data⟩ (by simp) rfl
                subst d6
                have d7 : b7 = true := hd ⟨7, .data⟩ (by simp) rfl
                subst d7
                have d1 : b1 = true := hd ⟨1, .chain⟩ (by simp) rfl
                subst d1
                obtain rfl := cd6.out rfl
                obtain rfl := cd7.out rfl
                obtain rfl := cd1.out rfl
                clear hf hd
                try simp only [List.setIfInBounds_toArray, List.set_cons_zero, List.set_cons_succ]
                intro K hK
                rw [if_pos (by rfl)]
                go_simp
                go_at_call 107
                refine (HC _).mono ?_
                rintro e w' ⟨rfl, bx⟩
                exact hK.out _ _ ⟨b0, true, b2, b3, b4, b5, true, true, true, b9, b10, b11, x38, .bool true, x40, x41, x42, x43, .agg #[.int .i64 ys, .string (bsOf yt), .bool yx], .agg #[.int .i64 s, .string (bsOf t), .bool x], (.bool cl), x47, x48, x7, (by simp only [Act.put, List.setIfInBounds_toArray, List.set_cons_zero, List.set_cons_succ]), (by simp only [Act.put, List.setIfInBounds_toArray, List.set_cons_zero, List.set_cons_succ]), hb.trans (bx.mono (Nat.le_trans hB0 hb.size)), cd0, (fun _ => rfl), cd2, cd3, cd4, cd5, (fun _ => rfl), (fun _ => rfl), (fun _ => rfl), cd9, cd10, cd11, f_o12, f_s11⟩
              · rintro L a w ⟨b0, b1, b2, b3, b4, b5, b6, b7, b8, b9, b10, b11, x38, x39, x40, x41, x42, x43, x44, x45, x46, x47, x48, x7, rfl, rfl, hb, cd0, cd1, cd2, cd3, cd4, cd5, cd6, cd7, cd8, cd9, cd10, cd11, f_o12, f_s11⟩ hf hd
                have hf' : b9 = false := hf
                subst hf'
                have d8 : b8 = true := hd ⟨8, .data⟩ (by simp) rfl
                subst d8
                have d1 : b1 = true := hd ⟨1, .guard⟩ (by simp) rfl
                subst d1
                obtain rfl := cd8.out rfl
                obtain rfl := cd1.out rfl
                clear hf hd
                try simp only [List.setIfInBounds_toArray, List.set_cons_zero, List.set_cons_succ]
                intro K hK
                rw [if_pos (by rfl)]
                go_simp
                exact hK.out _ _ ⟨b0, true, b2, b3, b4, b5, b6, b7, true, true, b10, b11, x38, .bool true, x40, x41, x42, x43, x44, x45, .bool cl, (.bool (!cl)), x48, x7, (by simp only [Act.put, List.setIfInBounds_toArray, List.set_cons_zero, List.set_cons_succ]), (by simp only [Act.put, List.setIfInBounds_toArray, List.set_cons_zero, List.set_cons_succ]), hb, cd0, (fun _ => rfl), cd2, cd3, cd4, cd5, cd6, cd7, (fun _ => rfl), (fun _ => rfl), cd10, cd11, f_o12, f_s11⟩
              · rintro L a w ⟨b0, b1, b2, b3, b4, b5, b6, b7, b8, b9, b10, b11, x38, x39, x40, x41, x42, x43, x44, x45, x46, x47, x48, x7, rfl, rfl, hb, cd0, cd1, cd2, cd3, cd4, cd5, cd6, cd7, cd8, cd9, cd10, cd11, f_o12, f_s11⟩ hf hd
                have hf' : b10 = false := hf
                subst hf'
                have d1 : b1 = true := hd ⟨1, .data⟩ (by simp) rfl
                subst d1
                have d9 : b9 = true := hd ⟨9, .data⟩ (by simp) rfl
                subst d9
                obtain rfl := cd1.out rfl
                obtain rfl := cd9.out rfl
                clear hf hd
                try simp only [List.setIfInBounds_toArray, List.set_cons_zero, List.set_cons_succ]
                intro K hK
                rw [if_pos (by rfl)]
                go_simp
                exact hK.out _ _ ⟨b0, true, b2, b3, b4, b5, b6, b7, b8, true, true, b11, x38, .bool true, x40, x41, x42, x43, x44, x45, x46, .bool (!cl), (.bool (!cl)), x7, (by simp only [Act.put, List.setIfInBounds_toArray, List.set_cons_zero, List.set_cons_succ]), (by simp only [Act.put, List.setIfInBounds_toArray, List.set_cons_zero, List.set_cons_succ]), hb, cd0, (fun _ => rfl), cd2, cd3, cd4, cd5, cd6, cd7, cd8, (fun _ => rfl), (fun _ => rfl), cd11, f_o12, f_s11⟩
              · rintro L a w ⟨b0, b1, b2, b3, b4, b5, b6, b7, b8, b9, b10, b11, x38, x39, x40, x41, x42, x43, x44, x45, x46, x47, x48, x7, rfl, rfl, hb, cd0, cd1, cd2, cd3, cd4, cd5, cd6, cd7, cd8, cd9, cd10, cd11, f_o12, f_s11⟩ hf hd
                have hf' : b11 = false := hf
                subst hf'
                have d10 : b10 = true := hd ⟨10, .data⟩ (by simp) rfl
                subst d10
                have d8 : b8 = true := hd ⟨8, .chain⟩ (by simp) rfl
                subst d8
                have d0 : b0 = true := hd ⟨0, .phase⟩ (by simp) rfl
                subst d0
                have d1 : b1 = true := hd ⟨1, .phase⟩ (by simp) rfl
                subst d1
                have d2 : b2 = true := hd ⟨2, .phase⟩ (by simp) rfl
                subst d2
                have d3 : b3 = true := hd ⟨3, .phase⟩ (by simp) rfl
                subst d3
                have d4 : b4 = true := hd ⟨4, .phase⟩ (by simp) rfl
                subst d4
                have d5 : b5 = true := hd ⟨5, .phase⟩ (by simp) rfl
                subst d5
                have d6 : b6 = true := hd ⟨6, .phase⟩ (by simp) rfl
                subst d6
                have d7 : b7 = true := hd ⟨7, .phase⟩ (by simp) rfl
                subst d7
                have d9 : b9 = true := hd ⟨9, .phase⟩ (by simp) rfl
                subst d9
                obtain rfl := cd10.out rfl
                obtain rfl := cd8.out rfl
                obtain rfl := cd0.out rfl
                obtain rfl := cd1.out rfl
                obtain rfl := cd2.out rfl
                obtain rfl := cd3.out rfl
                obtain rfl := cd4.out rfl
                obtain rfl := cd5.out rfl
                obtain rfl := cd6.out rfl
                obtain rfl := cd7.out rfl
                obtain rfl := cd9.out rfl
                clear hf hd
                have W_s11 := f_s11.out rfl
                try simp only [List.setIfInBounds_toArray, List.set_cons_zero, List.set_cons_succ]
                intro K hK
                rw [if_pos (by rfl)]
                go_simp
                exact hK.out _ _ ⟨true, true, true, true, true, true, true, true, true, true, true, true, .bool true, .bool true, .pointer (some ⟨p, 0, none⟩), .slice (some ⟨rb, roff, none⟩) hn hc, .int .i64 (i : Nat), .pointer (some ⟨rb, roff + i * 3, none⟩), .agg #[.int .i64 ys, .string (bsOf yt), .bool yx], .agg #[.int .i64 s, .string (bsOf t), .bool x], .bool cl, .bool (!cl), .bool (!cl), (.bool (!cl)), (by simp only [Act.put, List.setIfInBounds_toArray, List.set_cons_zero, List.set_cons_succ]), (by simp only [Act.put, List.setIfInBounds_toArray, List.set_cons_zero, List.set_cons_succ]), hb, (fun _ => rfl), (fun _ => rfl), (fun _ => rfl), (fun _ => rfl), (fun _ => rfl), (fun _ => rfl), (fun _ => rfl), (fun _ => rfl), (fun _ => rfl), (fun _ => rfl), (fun _ => rfl), (fun _ => rfl), (fun _ => rfl), (fun h => by cases h)⟩
            · rintro act V ⟨b0, b1, b2, b3, b4, b5, b6, b7, b8, b9, b10, b11, x38, x39, x40, x41, x42, x43, x44, x45, x46, x47, x48, x7, hL, rfl, hb, cd0, cd1, cd2, cd3, cd4, cd5, cd6, cd7, cd8, cd9, cd10, cd11, f_o12, f_s11⟩
              have hL' : [true, true, true, true, true, true, true, true, true, true, true, true] = [b0, b1, b2, b3, b4, b5, b6, b7, b8, b9, b10, b11] := congrArg Array.toList hL
              simp only [List.cons.injEq, and_true] at hL'
              obtain ⟨rfl, rfl, rfl, rfl, rfl, rfl, rfl, rfl, rfl, rfl, rfl, rfl⟩ := hL'
              obtain rfl := cd0.out rfl
              obtain rfl := cd1.out rfl
              obtain rfl := cd2.out rfl
              obtain rfl := cd3.out rfl
              obtain rfl := cd4.out rfl
              obtain rfl := cd5.out rfl
              obtain rfl := cd6.out rfl
              obtain rfl := cd7.out rfl
              obtain rfl := cd8.out rfl
              obtain rfl := cd9.out rfl
              obtain rfl := cd10.out rfl
              obtain rfl := cd11.out rfl
              have W_o12 := f_o12.out rfl
              clear hL f_o12 f_s11 cd0 cd1 cd2 cd3 cd4 cd5 cd6 cd7 cd8 cd9 cd10 cd11
              simp only [List.setIfInBounds_toArray, List.set_cons_zero, List.set_cons_succ]
              have BU := BU.trans (((Below.refl _ _).drew.trans hb).mono BU.size)
              clear hb
              go_wp2_with fail
              go_roundw
              case rel => exact ⟨_, _, i + 1, rfl, rfl, by go_num, by omega, hA2, hF2, BU⟩
              case measure => simp [intOf]; omega
    · have hlti : ¬ ((i : Int) < (hn : Int)) := by omega
      obtain rfl : i = hn := by omega
      rw [List.take_of_length_le (by omega)] at hA hF
      rcases hA.out with ⟨rfl, hno⟩ | ⟨j, k, rfl, hj, hks, hkt⟩
      · have hcv := At.covers_neg hno
        clear hA
        cases fr
        · skip
          obtain ⟨rfl, rfl, rfl⟩ : A1 = H ∧ A2 = wo W s ++ [⟨s, t, x⟩] ∧ A3 = false := by
            obtain ⟨e1, e2, e3⟩ := hR.out
            obtain ⟨d1, d2, d3⟩ := rask_no (W := W) hcv hF.out
            exact ⟨e1.trans d1, e2.trans d2, e3.trans d3⟩
          clear hR hcv hF
          obtain ⟨z0_, z1_, z2_⟩ := (Z0.past BU).c
          simp only at z0_ z1_ z2_
          go_upto_region 13 with fail
          clear z0_ z1_ z2_
          have BP : Below p w wr := B0.trans (BU.mono (Nat.le_of_lt X0.lt))
          have X := X0.past BU
          have Z := T0.past BU
          have ZH := Z0.past BU
          generalize wr = W7 at BP X Z ZH ⊢
          obtain ⟨S0, hS⟩ : ∃ S0, W7.heap.size = S0 := ⟨_, rfl⟩
          have hS0 : S0 ≤ W7.heap.size := by omega
          have hpS0 : p < S0 := by have := X.lt; omega
          have hrS0 : r < S0 := by have := ZH.lt; omega
          have hgS0 : g < S0 := by have := Z.lt; omega
          have hpS : p ≤ S0 := by omega
          have hB0 : p ≤ W7.heap.size := by omega
          clear hS
          have HW2 := fun (w' : World) (hb : Below p W7.drew w') => rwithout_any w' wq wn wc W (h2.past (by rw [HP.out]; exact BP.trans ((Below.refl _ _).drew.trans hb))) (by omega) s
          refine region_inv (Ask13 p p r g S0 ho i hc wq wn wc s t x W) (by kernel_rfl) (by kernel_rfl) ?_ ?_ ?_
          · exact ⟨false, false, false, false, false, false, false, false, false, false, undef, undef, undef, undef, undef, undef, undef, undef, undef, none, 0, 0, 0, 0, 0, rfl, (by simp only [Act.put, List.setIfInBounds_toArray, List.set_cons_zero, List.set_cons_succ]), Below.refl _ _, (fun h => by cases h), (fun h => by cases h), (fun h => by cases h), (fun h => by cases h), (fun h => by cases h), (fun h => by cases h), (fun h => by cases h), (fun h => by cases h), (fun h => by cases h), (fun h1 => X.past (Below.refl _ _).drew), (ZH.past (Below.refl _ _).drew), (Z.past (Below.refl _ _).drew), (fun h => by cases h), (fun h => by cases h), (fun h => by cases h), (fun h => by cases h), (fun h => by cases h), (fun h => by cases h), (fun h => by cases h), (fun h => by cases h), (fun h => by cases h), (fun h => by cases h), (fun h => by cases h), (fun h => by cases h)⟩
          · refine ⟨?_, ?_, ?_, ?_, ?_, ?_, ?_, ?_, ?_, ?_, trivial⟩
            · rintro L a w ⟨b0, b1, b2, b3, b4, b5, b6, b7, b8, b9, x73, x74, x75, x76, x77, x78, x79, x80, x81, a1, n1, c1, gb, g9, c9, rfl, rfl, hb, cd0, cd1, cd2, cd3, cd4, cd5, cd6, cd7, cd8, f_v, f_zh, f_zt, f_m, f_bl, f_rr, f_o, f_q4, f_q6, f_q44, f_q66, f_q77, f_q1, f_q1a, w_7_4⟩ hf hd
              have hf' : b0 = false := hf
              subst hf'
              clear hf hd
              have W_zh := f_zh.out
              have W_zt := f_zt.out
              try simp only [List.setIfInBounds_toArray, List.set_cons_zero, List.set_cons_succ]
              intro K hK
              rw [if_pos (by rfl)]
              go_simp
              exact hK.out _ _ ⟨true, b1, b2, b3, b4, b5, b6, b7, b8, b9, (.pointer (some ⟨p, 1, none⟩)), x74, x75, x76, x77, x78, x79, x80, x81, a1, n1, c1, gb, g9, c9, (by simp only [Act.put, List.setIfInBounds_toArray, List.set_cons_zero, List.set_cons_succ]), (by simp only [Act.put, List.setIfInBounds_toArray, List.set_cons_zero, List.set_cons_succ]), hb, (fun _ => rfl), cd1, cd2, cd3, cd4, cd5, cd6, cd7, cd8, f_v, f_zh, f_zt, f_m, f_bl, f_rr, f_o, f_q4, f_q6, f_q44, f_q66, f_q77, f_q1, f_q1a, w_7_4⟩
            · rintro L a w ⟨b0, b1, b2, b3, b4, b5, b6, b7, b8, b9, x73, x74, x75, x76, x77, x78, x79, x80, x81, a1, n1, c1, gb, g9, c9, rfl, rfl, hb, cd0, cd1, cd2, cd3, cd4, cd5, cd6, cd7, cd8, f_v, f_zh, f_zt, f_m, f_bl, f_rr, f_o, f_q4, f_q6, f_q44, f_q66, f_q77, f_q1, f_q1a, w_7_4⟩ hf hd
              have hf' : b1 = false := hf
              subst hf'
              have d0 : b0 = true := hd ⟨0, .data⟩ (by simp) rfl
              subst d0
              obtain rfl := cd0.out rfl
              clear hf hd
              have W_zh := f_zh.out
              have W_zt := f_zt.out
              try simp only [List.setIfInBounds_toArray, List.set_cons_zero, List.set_cons_succ]
              have e_v : b9 = false := by cases hq : b9 with | false => rfl | true => exact absurd (f_q1.out hq) (by simp)
              have W_v := f_v.out e_v
              obtain ⟨z0, z1⟩ := W_v.c
              intro K hK
              rw [if_pos (by rfl)]
              go_simp
              exact hK.out _ _ ⟨true, true, b2, b3, b4, b5, b6, b7, b8, b9, .pointer (some ⟨p, 1, none⟩), (.slice wq wn wc), x75, x76, x77, x78, x79, x80, x81, a1, n1, c1, gb, g9, c9, (by simp only [Act.put, List.setIfInBounds_toArray, List.set_cons_zero, List.set_cons_succ]), (by simp only [Act.put, List.setIfInBounds_toArray, List.set_cons_zero, List.set_cons_succ]), hb, (fun _ => rfl), (fun _ => rfl), cd2, cd3, cd4, cd5, cd6, cd7, cd8, f_v, f_zh, f_zt, f_m, f_bl, f_rr, f_o, f_q4, f_q6, f_q44, f_q66, f_q77, (fun _ => rfl), (fun _ => rfl), w_7_4⟩
            · rintro L a w ⟨b0, b1, b2, b3, b4, b5, b6, b7, b8, b9, x73, x74, x75, x76, x77, x78, x79, x80, x81, a1, n1, c1, gb, g9, c9, rfl, rfl, hb, cd0, cd1, cd2, cd3, cd4, cd5, cd6, cd7, cd8, f_v, f_zh, f_zt, f_m, f_bl, f_rr, f_o, f_q4, f_q6, f_q44, f_q66, f_q77, f_q1, f_q1a, w_7_4⟩ hf hd
              have hf' : b2 = false := hf
              subst hf'
              clear hf hd
              have W_zh := f_zh.out
              have W_zt := f_zt.out
              try simp only [List.setIfInBounds_toArray, List.set_cons_zero, List.set_cons_succ]
              intro K hK
              rw [if_pos (by rfl)]
              go_simp
              exact hK.out _ _ ⟨b0, b1, true, b3, b4, b5, b6, b7, b8, b9, x73, x74, (.pointer (some ⟨r, 0, none⟩)), x76, x77, x78, x79, x80, x81, a1, n1, c1, gb, g9, c9, (by simp only [Act.put, List.setIfInBounds_toArray, List.set_cons_zero, List.set_cons_succ]), (by simp only [Act.put, List.setIfInBounds_toArray, List.set_cons_zero, List.set_cons_succ]), hb, cd0, cd1, (fun _ => rfl), cd3, cd4, cd5, cd6, cd7, cd8, f_v, f_zh, f_zt, f_m, f_bl, f_rr, f_o, f_q4, f_q6, f_q44, f_q66, f_q77, f_q1, f_q1a, w_7_4⟩
            · rintro L a w ⟨b0, b1, b2, b3, b4, b5, b6, b7, b8, b9, x73, x74, x75, x76, x77, x78, x79, x80, x81, a1, n1, c1, gb, g9, c9, rfl, rfl, hb, cd0, cd1, cd2, cd3, cd4, cd5, cd6, cd7, cd8, f_v, f_zh, f_zt, f_m, f_bl, f_rr, f_o, f_q4, f_q6, f_q44, f_q66, f_q77, f_q1, f_q1a, w_7_4⟩ hf hd
              have hf' : b3 = false := hf
              subst hf'
              have d2 : b2 = true := hd ⟨2, .data⟩ (by simp) rfl
              subst d2
              obtain rfl := cd2.out rfl
              clear hf hd
              have W_zh := f_zh.out
              have W_zt := f_zt.out
              try simp only [List.setIfInBounds_toArray, List.set_cons_zero, List.set_cons_succ]
              obtain ⟨z0, z1, z2⟩ := W_zh.c
              simp only at z0 z1 z2
              intro K hK
              rw [if_pos (by rfl)]
              go_simp
              exact hK.out _ _ ⟨b0, b1, true, true, b4, b5, b6, b7, b8, b9, x73, x74, .pointer (some ⟨r, 0, none⟩), (.int .i64 s), x77, x78, x79, x80, x81, a1, n1, c1, gb, g9, c9, (by simp only [Act.put, List.setIfInBounds_toArray, List.set_cons_zero, List.set_cons_succ]), (by simp only [Act.put, List.setIfInBounds_toArray, List.set_cons_zero, List.set_cons_succ]), hb, cd0, cd1, (fun _ => rfl), (fun _ => rfl), cd4, cd5, cd6, cd7, cd8, f_v, f_zh, f_zt, f_m, f_bl, f_rr, f_o, f_q4, f_q6, f_q44, f_q66, f_q77, f_q1, f_q1a, w_7_4⟩
            · rintro L a w ⟨b0, b1, b2, b3, b4, b5, b6, b7, b8, b9, x73, x74, x75, x76, x77, x78, x79, x80, x81, a1, n1, c1, gb, g9, c9, rfl, rfl, hb, cd0, cd1, cd2, cd3, cd4, cd5, cd6, cd7, cd8, f_v, f_zh, f_zt, f_m, f_bl, f_rr, f_o, f_q4, f_q6, f_q44, f_q66, f_q77, f_q1, f_q1a, w_7_4⟩ hf hd
              have hf' : b4 = false := hf
              subst hf'
              have d1 : b1 = true := hd ⟨1, .data⟩ (by simp) rfl
              subst d1
              have d3 : b3 = true := hd ⟨3, .data⟩ (by simp) rfl
              subst d3
              obtain rfl := cd1.out rfl
              obtain rfl := cd3.out rfl
              clear hf hd
              have W_zh := f_zh.out
              have W_zt := f_zt.out
              try simp only [List.setIfInBounds_toArray, List.set_cons_zero, List.set_cons_succ]
              intro K hK
              rw [if_pos (by rfl)]
              go_simp
              go_at_call 101
              refine (HW2 _ hb).mono ?_
              rintro e w' ⟨a3, n3, c3, rfl, r9, bx⟩
              have e_7 : b7 = false := by cases hq : b7 with | false => rfl | true => exact absurd (w_7_4.out hq) (by simp)
              subst e_7
              exact hK.out _ _ ⟨b0, true, b2, true, true, b5, b6, false, b8, b9, x73, .slice wq wn wc, x75, .int .i64 s, (.slice a3 n3 c3), x78, x79, x80, x81, a3, n3, c3, gb, g9, c9, (by simp only [Act.put, List.setIfInBounds_toArray, List.set_cons_zero, List.set_cons_succ]), (by simp only [Act.put, List.setIfInBounds_toArray, List.set_cons_zero, List.set_cons_succ]), hb.trans (bx.mono (Nat.le_trans hB0 hb.size)), cd0, (fun _ => rfl), cd2, (fun _ => rfl), (fun _ => rfl), cd5, cd6, (fun h => by cases h), cd8, (fun h1 => (f_v.out h1).past bx), (f_zh.out.past bx), (f_zt.out.past bx), (fun _ _ => r9.monoB (Nat.le_trans hS0 hb.size)), (fun h0 h1 => (f_bl.out h0 h1).past bx), (fun h0 => absurd (f_q4.out h0) (by simp)), (fun h0 => absurd (f_q44.out h0) (by simp)), (fun _ => rfl), f_q6, (fun _ => rfl), f_q66, f_q77, f_q1, (fun _ => rfl), (fun _ => rfl)⟩
            · rintro L a w ⟨b0, b1, b2, b3, b4, b5, b6, b7, b8, b9, x73, x74, x75, x76, x77, x78, x79, x80, x81, a1, n1, c1, gb, g9, c9, rfl, rfl, hb, cd0, cd1, cd2, cd3, cd4, cd5, cd6, cd7, cd8, f_v, f_zh, f_zt, f_m, f_bl, f_rr, f_o, f_q4, f_q6, f_q44, f_q66, f_q77, f_q1, f_q1a, w_7_4⟩ hf hd
              have hf' : b5 = false := hf
              subst hf'
              clear hf hd
              have W_zh := f_zh.out
              have W_zt := f_zt.out
              try simp only [List.setIfInBounds_toArray, List.set_cons_zero, List.set_cons_succ]
              obtain ⟨z0, z1, z2⟩ := W_zh.c
              simp only at z0 z1 z2
              intro K hK
              rw [if_pos (by rfl)]
              go_simp
              exact hK.out _ _ ⟨b0, b1, b2, b3, b4, true, b6, b7, b8, b9, x73, x74, x75, x76, x77, (.agg #[.int .i64 s, .string (bsOf t), .bool x]), x79, x80, x81, a1, n1, c1, gb, g9, c9, (by simp only [Act.put, List.setIfInBounds_toArray, List.set_cons_zero, List.set_cons_succ]), (by simp only [Act.put, List.setIfInBounds_toArray, List.set_cons_zero, List.set_cons_succ]), hb, cd0, cd1, cd2, cd3, cd4, (fun _ => rfl), cd6, cd7, cd8, f_v, f_zh, f_zt, f_m, f_bl, f_rr, f_o, f_q4, f_q6, f_q44, f_q66, f_q77, f_q1, f_q1a, w_7_4⟩
            · rintro L a w ⟨b0, b1, b2, b3, b4, b5, b6, b7, b8, b9, x73, x74, x75, x76, x77, x78, x79, x80, x81, a1, n1, c1, gb, g9, c9, rfl, rfl, hb, cd0, cd1, cd2, cd3, cd4, cd5, cd6, cd7, cd8, f_v, f_zh, f_zt, f_m, f_bl, f_rr, f_o, f_q4, f_q6, f_q44, f_q66, f_q77, f_q1, f_q1a, w_7_4⟩ hf hd
              have hf' : b6 = false := hf
              subst hf'
              have d5 : b5 = true := hd ⟨5, .data⟩ (by simp) rfl
              subst d5
              obtain rfl := cd5.out rfl
              clear hf hd
              have W_zh := f_zh.out
              have W_zt := f_zt.out
              try simp only [List.setIfInBounds_toArray, List.set_cons_zero, List.set_cons_succ]
              intro K hK
              rw [if_pos (by rfl)]
              refine wp_buildSlice_one 97 112 _ rfl (Hd.cells (⟨s, t, x⟩ : Hd)) 3 rfl rfl (by omega) (by omega) Try.underlying97 rhd_inf' fun w5 hB5 bq5 sq5 => ?_
              have bx := bq5
              exact hK.out _ _ ⟨b0, b1, b2, b3, b4, true, true, b7, b8, b9, x73, x74, x75, x76, x77, .agg #[.int .i64 s, .string (bsOf t), .bool x], (.slice (some ⟨(w.heap.size), 0, none⟩) 1 1), x80, x81, a1, n1, c1, w.heap.size, g9, c9, (by simp only [Act.put, List.setIfInBounds_toArray, List.set_cons_zero, List.set_cons_succ]), (by simp only [Act.put, List.setIfInBounds_toArray, List.set_cons_zero, List.set_cons_succ]), hb.trans (bx.mono (Nat.le_trans hB0 hb.size)), cd0, cd1, cd2, cd3, cd4, (fun _ => rfl), (fun _ => rfl), cd7, cd8, (fun h1 => (f_v.out h1).past bx), (f_zh.out.past bx), (f_zt.out.past bx), (fun h0 h1 => (f_m.out h0 h1).past bx), (fun _ _ => OwnR.ofBlk hB5 rfl rfl (by omega)), (fun h0 => absurd (f_q6.out h0) (by simp)), (fun h0 => absurd (f_q66.out h0) (by simp)), f_q4, (fun _ => rfl), f_q44, (fun _ => rfl), f_q77, f_q1, f_q1a, w_7_4⟩
            · rintro L a w ⟨b0, b1, b2, b3, b4, b5, b6, b7, b8, b9, x73, x74, x75, x76, x77, x78, x79, x80, x81, a1, n1, c1, gb, g9, c9, rfl, rfl, hb, cd0, cd1, cd2, cd3, cd4, cd5, cd6, cd7, cd8, f_v, f_zh, f_zt, f_m, f_bl, f_rr, f_o, f_q4, f_q6, f_q44, f_q66, f_q77, f_q1, f_q1a, w_7_4⟩ hf hd
              have hf' : b7 = false := hf
              subst hf'
              have d4 : b4 = true := hd ⟨4, .data⟩ (by simp) rfl
              subst d4
              have d6 : b6 = true := hd ⟨6, .data⟩ (by simp) rfl
              subst d6
              obtain rfl := cd4.out rfl
              obtain rfl := cd6.out rfl
              clear hf hd
              have W_zh := f_zh.out
              have W_zt := f_zt.out
              have W_m := f_m.out rfl rfl
              have W_bl := f_bl.out rfl rfl
              have W_q1a := f_q1a.out rfl
              try simp only [List.setIfInBounds_toArray, List.set_cons_zero, List.set_cons_succ]
              intro K hK
              rw [if_pos (by rfl)]
              have hlm := W_m.len
              refine wp_append_r _ _ 97 97 rfl rowTyRh rfl W_m (Nat.le_trans hS0 hb.size) _ rfl 1 [(⟨s, t, x⟩ : Hd)] (W_bl.isR.src Try.underlying97) rfl (by omega) (n1 + 1) rfl _ rfl (by have := wo_length W s; omega) ?_
              intro g10 c10 w2 o10 gr10 q10 bq10
              have hb2 := hb.trans (bq10.mono hpS)
              have nq : ∀ z, z < S0 → some z ≠ Go.Proofs.Ytllijeciodmckaa.blk a1 := fun z hz e => by have h0 := W_m.from' z e.symm; omega
              exact hK.out _ _ ⟨b0, b1, b2, b3, true, b5, true, true, b8, b9, x73, x74, x75, x76, .slice a1 n1 c1, x78, .slice (some ⟨gb, 0, none⟩) 1 1, (.slice (some ⟨g10, 0, none⟩) (n1 + 1) c10), x81, a1, n1, c1, gb, g10, c10, (by simp only [Act.put, List.setIfInBounds_toArray, List.set_cons_zero, List.set_cons_succ]), (by simp only [Act.put, List.setIfInBounds_toArray, List.set_cons_zero, List.set_cons_succ]), hb2, cd0, cd1, cd2, cd3, (fun _ => rfl), cd5, (fun _ => rfl), (fun _ => rfl), cd8, (fun h1 => (gr10.block p ((f_v.out h1)).lt (nq p hpS0)).trans ((f_v.out h1))), ((gr10.block r (f_zh.out).lt (nq r hrS0)).trans (f_zh.out)), ((gr10.block g (f_zt.out).lt (nq g hgS0)).trans (f_zt.out)), (fun _ h => by cases h), (fun _ h => by cases h), (fun _ => o10), (fun h0 => absurd (f_q77.out h0) (by simp)), (fun _ => rfl), (fun _ => rfl), f_q44, f_q66, (fun _ => rfl), f_q1, f_q1a, (fun _ => rfl)⟩
            · rintro L a w ⟨b0, b1, b2, b3, b4, b5, b6, b7, b8, b9, x73, x74, x75, x76, x77, x78, x79, x80, x81, a1, n1, c1, gb, g9, c9, rfl, rfl, hb, cd0, cd1, cd2, cd3, cd4, cd5, cd6, cd7, cd8, f_v, f_zh, f_zt, f_m, f_bl, f_rr, f_o, f_q4, f_q6, f_q44, f_q66, f_q77, f_q1, f_q1a, w_7_4⟩ hf hd
              have hf' : b8 = false := hf
              subst hf'
              have d0 : b0 = true := hd ⟨0, .phase⟩ (by simp) rfl
              subst d0
              have d1 : b1 = true := hd ⟨1, .phase⟩ (by simp) rfl
              subst d1
              have d2 : b2 = true := hd ⟨2, .phase⟩ (by simp) rfl
              subst d2
              have d3 : b3 = true := hd ⟨3, .phase⟩ (by simp) rfl
              subst d3
              have d4 : b4 = true := hd ⟨4, .phase⟩ (by simp) rfl
              subst d4
              have d5 : b5 = true := hd ⟨5, .phase⟩ (by simp) rfl
              subst d5
              have d6 : b6 = true := hd ⟨6, .phase⟩ (by simp) rfl
              subst d6
              have d7 : b7 = true := hd ⟨7, .phase⟩ (by simp) rfl
              subst d7
              obtain rfl := cd0.out rfl
              obtain rfl := cd1.out rfl
              obtain rfl := cd2.out rfl
              obtain rfl := cd3.out rfl
              obtain rfl := cd4.out rfl
              obtain rfl := cd5.out rfl
              obtain rfl := cd6.out rfl
              obtain rfl := cd7.out rfl
              clear hf hd
              have W_zh := f_zh.out
              have W_zt := f_zt.out
              have W_rr := f_rr.out rfl
              have W_q4 := f_q4.out rfl
              have W_q6 := f_q6.out rfl
              have W_q1a := f_q1a.out rfl
              try simp only [List.setIfInBounds_toArray, List.set_cons_zero, List.set_cons_succ]
              intro K hK
              rw [if_pos (by rfl)]
              go_simp
              exact hK.out _ _ ⟨true, true, true, true, true, true, true, true, true, b9, .pointer (some ⟨p, 1, none⟩), .slice wq wn wc, .pointer (some ⟨r, 0, none⟩), .int .i64 s, .slice a1 n1 c1, .agg #[.int .i64 s, .string (bsOf t), .bool x], .slice (some ⟨gb, 0, none⟩) 1 1, .slice (some ⟨g9, 0, none⟩) (n1 + 1) c9, (.pointer (some ⟨p, 1, none⟩)), a1, n1, c1, gb, g9, c9, (by simp only [Act.put, List.setIfInBounds_toArray, List.set_cons_zero, List.set_cons_succ]), (by simp only [Act.put, List.setIfInBounds_toArray, List.set_cons_zero, List.set_cons_succ]), hb, (fun _ => rfl), (fun _ => rfl), (fun _ => rfl), (fun _ => rfl), (fun _ => rfl), (fun _ => rfl), (fun _ => rfl), (fun _ => rfl), (fun _ => rfl), f_v, f_zh, f_zt, (fun _ h => by cases h), (fun _ h => by cases h), f_rr, f_o, f_q4, f_q6, f_q44, f_q66, f_q77, f_q1, f_q1a, (fun _ => rfl)⟩
            · rintro L a w ⟨b0, b1, b2, b3, b4, b5, b6, b7, b8, b9, x73, x74, x75, x76, x77, x78, x79, x80, x81, a1, n1, c1, gb, g9, c9, rfl, rfl, hb, cd0, cd1, cd2, cd3, cd4, cd5, cd6, cd7, cd8, f_v, f_zh, f_zt, f_m, f_bl, f_rr, f_o, f_q4, f_q6, f_q44, f_q66, f_q77, f_q1, f_q1a, w_7_4⟩ hf hd
              have hf' : b9 = false := hf
              subst hf'
              have d8 : b8 = true := hd ⟨8, .data⟩ (by simp) rfl
              subst d8
              have d7 : b7 = true := hd ⟨7, .data⟩ (by simp) rfl
              subst d7
              have d0 : b0 = true := hd ⟨0, .phase⟩ (by simp) rfl
              subst d0
              have d1 : b1 = true := hd ⟨1, .phase⟩ (by simp) rfl
              subst d1
              have d2 : b2 = true := hd ⟨2, .phase⟩ (by simp) rfl
              subst d2
              have d3 : b3 = true := hd ⟨3, .phase⟩ (by simp) rfl
              subst d3
              have d4 : b4 = true := hd ⟨4, .phase⟩ (by simp) rfl
              subst d4
              have d5 : b5 = true := hd ⟨5, .phase⟩ (by simp) rfl
              subst d5
              have d6 : b6 = true := hd ⟨6, .phase⟩ (by simp) rfl
              subst d6
              obtain rfl := cd8.out rfl
              obtain rfl := cd7.out rfl
              obtain rfl := cd0.out rfl
              obtain rfl := cd1.out rfl
              obtain rfl := cd2.out rfl
              obtain rfl := cd3.out rfl
              obtain rfl := cd4.out rfl
              obtain rfl := cd5.out rfl
              obtain rfl := cd6.out rfl
              clear hf hd
              have W_v := f_v.out rfl
              have W_zh := f_zh.out
              have W_zt := f_zt.out
              have W_rr := f_rr.out rfl
              have W_q4 := f_q4.out rfl
              have W_q6 := f_q6.out rfl
              have W_q1a := f_q1a.out rfl
              try simp only [List.setIfInBounds_toArray, List.set_cons_zero, List.set_cons_succ]
              intro K hK
              rw [if_pos (by rfl)]
              obtain ⟨z0, z1⟩ := W_v.c
              obtain ⟨f0, f1⟩ := W_v.free
              go_simp
              have g8 := set1_grown w p 1 (.slice (some ⟨g9, 0, none⟩) (n1 + 1) c9)
              have hb2 := hb.grown g8 (Nat.le_trans hB0 hb.size) (fun z hz => by cases hz; exact Nat.le_refl _)
              have po := W_v.put1 (some ⟨g9, 0, none⟩) (n1 + 1) c9
              exact hK.out _ _ ⟨true, true, true, true, true, true, true, true, true, true, .pointer (some ⟨p, 1, none⟩), .slice wq wn wc, .pointer (some ⟨r, 0, none⟩), .int .i64 s, .slice a1 n1 c1, .agg #[.int .i64 s, .string (bsOf t), .bool x], .slice (some ⟨gb, 0, none⟩) 1 1, .slice (some ⟨g9, 0, none⟩) (n1 + 1) c9, .pointer (some ⟨p, 1, none⟩), a1, n1, c1, gb, g9, c9, (by simp only [Act.put, List.setIfInBounds_toArray, List.set_cons_zero, List.set_cons_succ]), (by simp only [Act.put, List.setIfInBounds_toArray, List.set_cons_zero, List.set_cons_succ]), hb2, (fun _ => rfl), (fun _ => rfl), (fun _ => rfl), (fun _ => rfl), (fun _ => rfl), (fun _ => rfl), (fun _ => rfl), (fun _ => rfl), (fun _ => rfl), (fun h => by cases h), ((f_zh.out).far g8 (fun e => hpr e.symm)), ((f_zt.out).far g8 (fun e => hpg e.symm)), (fun _ h => by cases h), (fun _ h => by cases h), (fun h0 => ((f_rr.out h0)).farT W_v (by decide) g8), (fun _ => po), f_q4, f_q6, (fun _ => f_q4.out rfl), (fun _ => f_q6.out rfl), (fun _ => rfl), (fun _ => f_q1a.out (f_q4.out rfl)), f_q1a, (fun _ => rfl)⟩
          · rintro act V ⟨b0, b1, b2, b3, b4, b5, b6, b7, b8, b9, x73, x74, x75, x76, x77, x78, x79, x80, x81, a1, n1, c1, gb, g9, c9, hL, rfl, hb, cd0, cd1, cd2, cd3, cd4, cd5, cd6, cd7, cd8, f_v, f_zh, f_zt, f_m, f_bl, f_rr, f_o, f_q4, f_q6, f_q44, f_q66, f_q77, f_q1, f_q1a, w_7_4⟩
            have hL' : [true, true, true, true, true, true, true, true, true, true] = [b0, b1, b2, b3, b4, b5, b6, b7, b8, b9] := congrArg Array.toList hL
            simp only [List.cons.injEq, and_true] at hL'
            obtain ⟨rfl, rfl, rfl, rfl, rfl, rfl, rfl, rfl, rfl, rfl⟩ := hL'
            obtain rfl := cd0.out rfl
            obtain rfl := cd1.out rfl
            obtain rfl := cd2.out rfl
            obtain rfl := cd3.out rfl
            obtain rfl := cd4.out rfl
            obtain rfl := cd5.out rfl
            obtain rfl := cd6.out rfl
            obtain rfl := cd7.out rfl
            obtain rfl := cd8.out rfl
            have W_zh := f_zh.out
            have W_zt := f_zt.out
            have W_rr := f_rr.out rfl
            have W_o := f_o.out rfl
            have W_q4 := f_q4.out rfl
            have W_q6 := f_q6.out rfl
            have W_q44 := f_q44.out rfl
            have W_q66 := f_q66.out rfl
            have W_q77 := f_q77.out rfl
            have W_q1 := f_q1.out rfl
            have W_q1a := f_q1a.out rfl
            clear hL f_v f_zh f_zt f_m f_bl f_rr f_o f_q4 f_q6 f_q44 f_q66 f_q77 f_q1 f_q1a cd0 cd1 cd2 cd3 cd4 cd5 cd6 cd7 cd8 w_7_4
            simp only [List.setIfInBounds_toArray, List.set_cons_zero, List.set_cons_succ]
            have B := BP.trans ((Below.refl _ _).drew.trans hb)
            have X := W_o
            have Z := W_zt
            have TW := W_rr.monoB hpS
            clear hb W_o W_zt W_rr
            obtain ⟨wo9, hwo9⟩ : ∃ z_, z_ = (some ⟨g9, 0, none⟩ : Option Addr) := ⟨_, rfl⟩
            obtain ⟨n9, hn9⟩ : ∃ z_, z_ = n1 + 1 := ⟨_, rfl⟩
            rw [← hwo9, ← hn9] at X TW
            clear hwo9 hn9
            generalize V = U9 at X Z TW B ⊢
            obtain ⟨c0_, c1_⟩ := X.c
            obtain ⟨f0_, f1_⟩ := Z.free
            obtain ⟨t0_, t1_⟩ := Z.c
            have hBs := B.size
            have Y := (Z.put0 ho i hc).put1 wo9 n9 c9
            have BF := LkAt.below B g hpg2 (by have := Z.lt; omega) (.slice ho i hc) (.slice wo9 n9 c9)
            have TW2 := (TW.farT Z (by decide) (set1_grown U9 g 0 (.slice ho i hc))).farT (Z.put0 ho i hc) (by decide) (set1_grown _ g 1 (.slice wo9 n9 c9))
            obtain ⟨y0_, y1_⟩ := Y.c
            go_wp2_with fail
            refine bodyPost_ret (v := .tuple #[.agg #[.slice ho i hc, .slice wo9 n9 c9], .bool false]) (by simp [results, Try.results56, go_sem, y0_, y1_]) rfl ?_
            have hsz := HP.out
            exact ⟨_, rfl, ⟨ho, i, hc, wo9, n9, c9, rfl, h1.past (by rw [hsz]; exact BF), TW2.isR, (fun g0 _ hh => hh), TW2.rowO.from2 (by omega)⟩, by rw [hsz]; exact BF⟩
        · skip
          obtain ⟨rfl, rfl, rfl⟩ : A1 = H ++ [⟨s, t, x⟩] ∧ A2 = wo W s ∧ A3 = true := by
            obtain ⟨e1, e2, e3⟩ := hR.out
            obtain ⟨d1, d2, d3⟩ := rask_yes (W := W) hcv hF.out
            exact ⟨(e1.trans d1).trans (At.wth_neg hno), e2.trans d2, e3.trans d3⟩
          clear hR hcv hF
          have bZ : Below wr.heap.size wr (wr.alloc (.cells #[] 112)) := (Below.refl _ _).alloc (Nat.le_refl _) _
          have oZ : OwnR EHd (wr.alloc (.cells #[] 112)) 112 wr.heap.size 0 0 [] := ⟨rfl, Nat.le_refl _, Nat.zero_le _, #[], heap_alloc_new wr _, rfl, rfl⟩
          have hs := ((hU1.past BU).past bZ).src (P := Try.prog) Try.underlying97
          have BU1 := BU.trans (bZ.mono BU.size)
          obtain ⟨z0_, z1_, z2_⟩ := (Z0.past BU).c
          simp only at z0_ z1_ z2_
          have hwr := BU.size
          have hpB := Nat.lt_of_lt_of_le X0.lt BU.size
          have c9 := ((X0.past BU).past bZ).c.1
          go_upto_region 18 with (at_builtin; refine wpList_append_or rfl _ _ 97 97 rfl 112 rowTyRh wr.heap.size 0 0 [] rfl oZ _ rfl i H hs hlH i (Nat.zero_add i) H rfl (by omega) ?_; intro g1 c1 w1 o1 p1 q1)
          have hg1 : wr.heap.size ≤ g1 := by
            rcases q1 with rfl | q1
            · exact Nat.le_refl _
            · rw [World.size_alloc] at q1; omega
          have BV := BU.trans ((bZ.trans (p1.below (Nat.le_refl _) (by rw [World.size_alloc]; omega))).mono BU.size)
          clear bZ oZ hs BU1 q1 p1
          have BP : Below p w w1 := B0.trans (BV.mono (Nat.le_of_lt X0.lt))
          have X := X0.past BV
          have Z := T0.past BV
          have ZH := Z0.past BV
          have hpg1 : p < g1 := by have := X0.lt; omega
          have hrg1 : r < g1 := by have := Z0.lt; omega
          have hgg1 : g < g1 := by have := T0.lt; omega
          have o2 : OwnR EHd (w1.alloc (.cells #[.int .i64 s, .string (bsOf t), .bool x] 112)) 112 w1.heap.size 1 1 [⟨s, t, x⟩] := OwnR.ofBlk (heap_alloc_new w1 _) rfl rfl (by omega)
          have b2 : Below w1.heap.size w1 (w1.alloc (.cells #[.int .i64 s, .string (bsOf t), .bool x] 112)) := (Below.refl _ _).alloc (Nat.le_refl _) _
          have s2 := o2.isR.src (P := Try.prog) Try.underlying97
          have S1 : TxtR EHd w1 112 wr.heap.size (some ⟨g1, 0, none⟩) i c1 H := ⟨.inr ⟨g1, rfl, o1, hg1⟩⟩
          have S2 := S1.past b2
          have hS3 : wr.heap.size ≤ (w1.alloc (.cells #[.int .i64 s, .string (bsOf t), .bool x] 112)).heap.size := Nat.le_trans (Nat.le_trans hg1 (Nat.le_of_lt o1.lt)) b2.size
          have hi1 : i + 1 ≤ 1000000 := by omega
          obtain ⟨xn, hxn⟩ : ∃ xn, i + 1 = xn := ⟨_, rfl⟩
          obtain ⟨z0_, z1_, z2_⟩ := ZH.c
          simp only at z0_ z1_ z2_
          go_upto_region 19 with (at_builtin; refine wpList_append_txtR rfl _ _ 97 97 rfl 112 rowTyRh wr.heap.size (some ⟨g1, 0, none⟩) i c1 H rfl S2 hS3 _ rfl 1 [⟨s, t, x⟩] s2 rfl hi1 ?_; intro xo xc w3 TX0 b3; rw [hxn] at TX0 ⊢)
          have b4 : Below wr.heap.size w1 w3 := (b2.mono (Nat.le_trans hg1 (Nat.le_of_lt o1.lt))).trans b3
          have hpw : p ≤ wr.heap.size := by have := X0.lt; omega
          have TX := TX0.monoB hpw
          replace BP := BP.trans (b4.mono hpw)
          replace X : LkB w3 p ho i hc wq wn wc 99 := (b4.block p (by have := X0.lt; omega)).trans X
          replace Z : LkB w3 g none 0 0 none 0 0 99 := (b4.block g (by have := T0.lt; omega)).trans Z
          replace ZH : HdB w3 r ⟨s, t, x⟩ 112 := (b4.block r (by have := Z0.lt; omega)).trans ZH
          clear o1 o2 b2 s2 S1 S2 hS3 b3 b4 TX0 z0_ z1_ z2_
          have HWo := rwithout_any w3 wq wn wc W (h2.past (by rw [HP.out]; exact BP)) (by omega) s
          obtain ⟨z0_, z1_, z2_⟩ := ZH.c
          simp only at z0_ z1_ z2_
          obtain ⟨c0_, c1_⟩ := X.c
          have hpw3 : p ≤ w3.heap.size := Nat.le_of_lt X.lt
          go_upto_region 20 with (go_at_call 101; refine HWo.mono ?_; rintro e w5 ⟨ao5, n5, c5, rfl, T5, b5⟩; have X5 := X.past b5; obtain ⟨d0_, d1_⟩ := X5.c; obtain ⟨e0_, e1_⟩ := X5.free)
          have TX5 := TX.past b5
          have Z5 := Z.past b5
          have B5 := BP.trans (b5.mono hpw3)
          have B := LkAt.below B5 p (Nat.le_refl _) (Nat.le_trans hpw3 b5.size) (.slice xo xn xc) (.slice ao5 n5 c5)
          have TW := ((T5.monoB hpw3).farT X5 (by decide) (set1_grown w5 p 0 (.slice xo xn xc))).farT (X5.put0 xo xn xc) (by decide) (set1_grown _ p 1 (.slice ao5 n5 c5))
          replace TX := (TX5.farT X5 (by decide) (set1_grown w5 p 0 (.slice xo xn xc))).farT (X5.put0 xo xn xc) (by decide) (set1_grown _ p 1 (.slice ao5 n5 c5))
          replace Z := (Z5.far (set1_grown w5 p 0 (.slice xo xn xc)) (fun e => hpg e.symm)).far (set1_grown _ p 1 (.slice ao5 n5 c5)) (fun e => hpg e.symm)
          replace X := (X5.put0 xo xn xc).put1 ao5 n5 c5
          clear T5 X5 Z5 TX5 B5 d0_ d1_ e0_ e1_ b5 HWo z0_ z1_ z2_ c0_ c1_
          generalize (w5.setCell ⟨p, 0, none⟩ (.slice xo xn xc)).setCell ⟨p, 1, none⟩ (.slice ao5 n5 c5) = U9 at X Z TW TX B ⊢
          obtain ⟨c0_, c1_⟩ := X.c
          obtain ⟨f0_, f1_⟩ := Z.free
          obtain ⟨t0_, t1_⟩ := Z.c
          have hBs := B.size
          have Y := (Z.put0 xo xn xc).put1 ao5 n5 c5
          have BF := LkAt.below B g hpg2 (by have := Z.lt; omega) (.slice xo xn xc) (.slice ao5 n5 c5)
          have TW2 := (TW.farT Z (by decide) (set1_grown U9 g 0 (.slice xo xn xc))).farT (Z.put0 xo xn xc) (by decide) (set1_grown _ g 1 (.slice ao5 n5 c5))
          obtain ⟨y0_, y1_⟩ := Y.c
          go_wp2_with fail
          refine bodyPost_ret (v := .tuple #[.agg #[.slice xo xn xc, .slice ao5 n5 c5], .bool true]) (by simp [results, Try.results56, go_sem, y0_, y1_]) rfl ?_
          have hsz := HP.out
          exact ⟨_, rfl, ⟨xo, xn, xc, ao5, n5, c5, rfl, ((TX.farT Z (by decide) (set1_grown U9 g 0 (.slice xo xn xc))).farT (Z.put0 xo xn xc) (by decide) (set1_grown _ g 1 (.slice ao5 n5 c5))).isR, TW2.isR, (fun g0 hg0 _ h0 a ha => by have := TX.rowO.from2 (Nat.le_refl p) h0 a ha; omega), TW2.rowO.from2 (by omega)⟩, by rw [hsz]; exact BF⟩
      · have hcv := At.covers_pos hApt.out hj hks hkt
        obtain ⟨rb, roff, rfl, hrb, hrc⟩ := hU1.open (by have := (List.getElem?_eq_some_iff.1 hj).1; omega) (by decide)
        obtain ⟨yu0, yu1, yu2⟩ := cells_hd hrc j k hj
        have y2_ := (BU.cell (show (⟨rb, roff + j * 3 + 2, none⟩ : Addr).block < U.heap.size from hrb)).trans yu2
        have hji : (j : Int) < (i : Int) := by have := (List.getElem?_eq_some_iff.1 hj).1; omega
        have hj0 : (0 : Int) ≤ (j : Int) := by omega
        clear hrc yu0 yu1 yu2
        obtain ⟨ks, kt, kx⟩ := k
        simp only at hks hkt y2_ hcv
        cases kx
        · cases x
          · have hcv : covers H ⟨s, t, false⟩ = true := hcv
            have BP : Below p w wr := B0.trans (BU.mono (Nat.le_of_lt X0.lt))
            have X := X0.past BU
            have Z := T0.past BU
            have ZH := Z0.past BU
            have hs0 := BU.size
            have HWo := rwithout_any wr wq wn wc W (h2.past (by rw [HP.out]; exact BP)) (by omega) s
            obtain ⟨z0_, z1_, z2_⟩ := ZH.c
            simp only at z0_ z1_ z2_
            obtain ⟨ho, hho⟩ : ∃ z_, z_ = (some ⟨rb, roff, none⟩ : Option Addr) := ⟨_, rfl⟩
            have hhoh := Lib.hid hho
            rw [← hho] at X h1
            clear hho
            obtain ⟨rfl, rfl, rfl⟩ : A1 = H ∧ A2 = wo W s ∧ A3 = true := by
              obtain ⟨e1, e2, e3⟩ := hR.out
              obtain ⟨d1, d2, d3⟩ := rask_cov (W := W) hcv
              exact ⟨e1.trans d1, e2.trans d2, e3.trans d3⟩
            clear hR hcv
            go_upto_region 11 with (go_at_call 101; refine HWo.mono ?_; rintro e w5 ⟨ao5, n5, c5, rfl, T5, b5⟩; have X5 := X.past b5; obtain ⟨d0_, d1_⟩ := X5.c; obtain ⟨e0_, e1_⟩ := X5.free)
            have Z5 := Z.past b5
            have TW := (T5.monoB (show p ≤ wr.heap.size by have := X.lt; omega)).farT X5 (by decide) (set1_grown w5 p 1 (.slice ao5 n5 c5))
            have B := (BP.trans (b5.mono (by have := X.lt; omega))).grown (set1_grown w5 p 1 (.slice ao5 n5 c5)) (by have := X5.lt; omega) (fun z hz => by cases hz; exact Nat.le_refl _)
            replace Z := Z5.far (set1_grown w5 p 1 (.slice ao5 n5 c5)) (fun e => hpg e.symm)
            replace X := X5.put1 ao5 n5 c5
            clear T5 X5 Z5 d0_ d1_ e0_ e1_ b5 HWo
            generalize w5.setCell ⟨p, 1, none⟩ (.slice ao5 n5 c5) = U9 at X Z TW B ⊢
            obtain ⟨c0_, c1_⟩ := X.c
            obtain ⟨f0_, f1_⟩ := Z.free
            obtain ⟨t0_, t1_⟩ := Z.c
            have hBs := B.size
            have Y := (Z.put0 ho i hc).put1 ao5 n5 c5
            have BF := LkAt.below B g hpg2 (by have := Z.lt; omega) (.slice ho i hc) (.slice ao5 n5 c5)
            have TW2 := (TW.farT Z (by decide) (set1_grown U9 g 0 (.slice ho i hc))).farT (Z.put0 ho i hc) (by decide) (set1_grown _ g 1 (.slice ao5 n5 c5))
            obtain ⟨y0_, y1_⟩ := Y.c
            go_wp2_with fail
            refine bodyPost_ret (v := .tuple #[.agg #[.slice ho i hc, .slice ao5 n5 c5], .bool true]) (by simp [results, Try.results56, go_sem, y0_, y1_]) rfl ?_
            have hsz := HP.out
            exact ⟨_, rfl, ⟨ho, i, hc, ao5, n5, c5, rfl, h1.past (by rw [hsz]; exact BF), TW2.isR, (fun g0 _ hh h0 a ha => hh h0 a (hhoh.out.symm.trans ha)), TW2.rowO.from2 (by omega)⟩, by rw [hsz]; exact BF⟩
          · have hcv : covers H ⟨s, t, true⟩ = false := hcv
            cases fr
            · skip
              obtain ⟨rfl, rfl, rfl⟩ : A1 = H ∧ A2 = wo W s ++ [⟨s, t, true⟩] ∧ A3 = false := by
                obtain ⟨e1, e2, e3⟩ := hR.out
                obtain ⟨d1, d2, d3⟩ := rask_no (W := W) hcv hF.out
                exact ⟨e1.trans d1, e2.trans d2, e3.trans d3⟩
              clear hR hcv hF
              obtain ⟨z0_, z1_, z2_⟩ := (Z0.past BU).c
              simp only at z0_ z1_ z2_
              go_upto_region 13 with fail
              clear z0_ z1_ z2_
              have BP : Below p w wr := B0.trans (BU.mono (Nat.le_of_lt X0.lt))
              have X := X0.past BU
              have Z := T0.past BU
              have ZH := Z0.past BU
              generalize wr = W7 at BP X Z ZH ⊢
              obtain ⟨S0, hS⟩ : ∃ S0, W7.heap.size = S0 := ⟨_, rfl⟩
              have hS0 : S0 ≤ W7.heap.size := by omega
              have hpS0 : p < S0 := by have := X.lt; omega
              have hrS0 : r < S0 := by have := ZH.lt; omega
              have hgS0 : g < S0 := by have := Z.lt; omega
              have hpS : p ≤ S0 := by omega
              have hB0 : p ≤ W7.heap.size := by omega
              clear hS
              have HW2 := fun (w' : World) (hb : Below p W7.drew w') => rwithout_any w' wq wn wc W (h2.past (by rw [HP.out]; exact BP.trans ((Below.refl _ _).drew.trans hb))) (by omega) s
              refine region_inv (Ask13 p p r g S0 (some ⟨rb, roff, none⟩) i hc wq wn wc s t true W) (by kernel_rfl) (by kernel_rfl) ?_ ?_ ?_
              · exact ⟨false, false, false, false, false, false, false, false, false, false, undef, undef, undef, undef, undef, undef, undef, undef, undef, none, 0, 0, 0, 0, 0, rfl, (by simp only [Act.put, List.setIfInBounds_toArray, List.set_cons_zero, List.set_cons_succ]), Below.refl _ _, (fun h => by cases h), (fun h => by cases h), (fun h => by cases h), (fun h => by cases h), (fun h => by cases h), (fun h => by cases h), (fun h => by cases h), (fun h => by cases h), (fun h => by cases h), (fun h1 => X.past (Below.refl _ _).drew), (ZH.past (Below.refl _ _).drew), (Z.past (Below.refl _ _).drew), (fun h => by cases h), (fun h => by cases h), (fun h => by cases h), (fun h => by cases h), (fun h => by cases h), (fun h => by cases h), (fun h => by cases h), (fun h => by cases h), (fun h => by cases h), (fun h => by cases h), (fun h => by cases h), (fun h => by cases h)⟩
              · refine ⟨?_, ?_, ?_, ?_, ?_, ?_, ?_, ?_, ?_, ?_, trivial⟩
                · rintro L a w ⟨b0, b1, b2, b3, b4, b5, b6, b7, b8, b9, x73, x74, x75, x76, x77, x78, x79, x80, x81, a1, n1, c1, gb, g9, c9, rfl, rfl, hb, cd0, cd1, cd2, cd3, cd4, cd5, cd6, cd7, cd8, f_v, f_zh, f_zt, f_m, f_bl, f_rr, f_o, f_q4, f_q6, f_q44, f_q66, f_q77, f_q1, f_q1a, w_7_4⟩ hf hd
                  have hf' : b0 = false := hf
                  subst hf'
                  clear hf hd
                  have W_zh := f_zh.out
                  have W_zt := f_zt.out
                  try simp only [List.setIfInBounds_toArray, List.set_cons_zero, List.set_cons_succ]
                  intro K hK
                  rw [if_pos (by rfl)]
                  go_simp
                  exact hK.out _ _ ⟨true, b1, b2, b3, b4, b5, b6, b7, b8, b9, (.pointer (some ⟨p, 1, none⟩)), x74, x75, x76, x77, x78, x79, x80, x81, a1, n1, c1, gb, g9, c9, (by simp only [Act.put, List.setIfInBounds_toArray, List.set_cons_zero, List.set_cons_succ]), (by simp only [Act.put, List.setIfInBounds_toArray, List.set_cons_zero, List.set_cons_succ]), hb, (fun _ => rfl), cd1, cd2, cd3, cd4, cd5, cd6, cd7, cd8, f_v, f_zh, f_zt, f_m, f_bl, f_rr, f_o, f_q4, f_q6, f_q44, f_q66, f_q77, f_q1, f_q1a, w_7_4⟩
                · rintro L a w ⟨b0, b1, b2, b3, b4, b5, b6, b7, b8, b9, x73, x74, x75, x76, x77, x78, x79, x80, x81, a1, n1, c1, gb, g9, c9, rfl, rfl, hb, cd0, cd1, cd2, cd3, cd4, cd5, cd6, cd7, cd8, f_v, f_zh, f_zt, f_m, f_bl, f_rr, f_o, f_q4, f_q6, f_q44, f_q66, f_q77, f_q1, f_q1a, w_7_4⟩ hf hd
                  have hf' : b1 = false := hf
                  subst hf'
                  have d0 : b0 = true := hd ⟨0, .data⟩ (by simp) rfl
                  subst d0
                  obtain rfl := cd0.out rfl
                  clear hf hd
                  have W_zh := f_zh.out
                  have W_zt := f_zt.out
                  try simp only [List.setIfInBounds_toArray, List.set_cons_zero, List.set_cons_succ]
                  have e_v : b9 = false := by cases hq : b9 with | false => rfl | true => exact absurd (f_q1.out hq) (by simp)
                  have W_v := f_v.out e_v
                  obtain ⟨z0, z1⟩ := W_v.c
                  intro K hK
                  rw [if_pos (by rfl)]
                  go_simp
                  exact hK.out _ _ ⟨true, true, b2, b3, b4, b5, b6, b7, b8, b9, .pointer (some ⟨p, 1, none⟩), (.slice wq wn wc), x75, x76, x77, x78, x79, x80, x81, a1, n1, c1, gb, g9, c9, (by simp only [Act.put, List.setIfInBounds_toArray, List.set_cons_zero, List.set_cons_succ]), (by simp only [Act.put, List.setIfInBounds_toArray, List.set_cons_zero, List.set_cons_succ]), hb, (fun _ => rfl), (fun _ => rfl), cd2, cd3, cd4, cd5, cd6, cd7, cd8, f_v, f_zh, f_zt, f_m, f_bl, f_rr, f_o, f_q4, f_q6, f_q44, f_q66, f_q77, (fun _ => rfl), (fun _ => rfl), w_7_4⟩
                · rintro L a w ⟨b0, b1, b2, b3, b4, b5, b6, b7, b8, b9, x73, x74, x75, x76, x77, x78, x79, x80, x81, a1, n1, c1, gb, g9, c9, rfl, rfl, hb, cd0, cd1, cd2, cd3, cd4, cd5, cd6, cd7, cd8, f_v, f_zh, f_zt, f_m, f_bl, f_rr, f_o, f_q4, f_q6, f_q44, f_q66, f_q77, f_q1, f_q1a, w_7_4⟩ hf hd
                  have hf' : b2 = false := hf
                  subst hf'
                  clear hf hd
                  have W_zh := f_zh.out
                  have W_zt := f_zt.out
                  try simp only [List.setIfInBounds_toArray, List.set_cons_zero, List.set_cons_succ]
                  intro K hK
                  rw [if_pos (by rfl)]
                  go_simp
                  exact hK.out _ _ ⟨b0, b1, true, b3, b4, b5, b6, b7, b8, b9, x73, x74, (.pointer (some ⟨r, 0, none⟩)), x76, x77, x78, x79, x80, x81, a1, n1, c1, gb, g9, c9, (by simp only [Act.put, List.setIfInBounds_toArray, List.set_cons_zero, List.set_cons_succ]), (by simp only [Act.put, List.setIfInBounds_toArray, List.set_cons_zero, List.set_cons_succ]), hb, cd0, cd1, (fun _ => rfl), cd3, cd4, cd5, cd6, cd7, cd8, f_v, f_zh, f_zt, f_m, f_bl, f_rr, f_o, f_q4, f_q6, f_q44, f_q66, f_q77, f_q1, f_q1a, w_7_4⟩
                · rintro L a w ⟨b0, b1, b2, b3, b4, b5, b6, b7, b8, b9, x73, x74, x75, x76, x77, x78, x79, x80, x81, a1, n1, c1, gb, g9, c9, rfl, rfl, hb, cd0, cd1, cd2, cd3, cd4, cd5, cd6, cd7, cd8, f_v, f_zh, f_zt, f_m, f_bl, f_rr, f_o, f_q4, f_q6, f_q44, f_q66, f_q77, f_q1, f_q1a, w_7_4⟩ hf hd
                  have hf' : b3 = false := hf
                  subst hf'
                  have d2 : b2 = true := hd ⟨2, .data⟩ (by simp) rfl
                  subst d2
                  obtain rfl := cd2.out rfl
                  clear hf hd
                  have W_zh := f_zh.out
                  have W_zt := f_zt.out
                  try simp only [List.setIfInBounds_toArray, List.set_cons_zero, List.set_cons_succ]
                  obtain ⟨z0, z1, z2⟩ := W_zh.c
                  simp only at z0 z1 z2
                  intro K hK
                  rw [if_pos (by rfl)]
                  go_simp
                  exact hK.out _ _ ⟨b0, b1, true, true, b4, b5, b6, b7, b8, b9, x73, x74, .pointer (some ⟨r, 0, none⟩), (.int .i64 s), x77, x78, x79, x80, x81, a1, n1, c1, gb, g9, c9, (by simp only [Act.put, List.setIfInBounds_toArray, List.set_cons_zero, List.set_cons_succ]), (by simp only [Act.put, List.setIfInBounds_toArray, List.set_cons_zero, List.set_cons_succ]), hb, cd0, cd1, (fun _ => rfl), (fun _ => rfl), cd4, cd5, cd6, cd7, cd8, f_v, f_zh, f_zt, f_m, f_bl, f_rr, f_o, f_q4, f_q6, f_q44, f_q66, f_q77, f_q1, f_q1a, w_7_4⟩
                · rintro L a w ⟨b0, b1, b2, b3, b4, b5, b6, b7, b8, b9, x73, x74, x75, x76, x77, x78, x79, x80, x81, a1, n1, c1, gb, g9, c9, rfl, rfl, hb, cd0, cd1, cd2, cd3, cd4, cd5, cd6, cd7, cd8, f_v, f_zh, f_zt, f_m, f_bl, f_rr, f_o, f_q4, f_q6, f_q44, f_q66, f_q77, f_q1, f_q1a, w_7_4⟩ hf hd
                  have hf' : b4 = false := hf
                  subst hf'
                  have d1 : b1 = true := hd ⟨1, .data⟩ (by simp) rfl
                  subst d1
                  have d3 : b3 = true := hd ⟨3, .data⟩ (by simp) rfl
                  subst d3
                  obtain rfl := cd1.out rfl
                  obtain rfl := cd3.out rfl
                  clear hf hd
                  have W_zh := f_zh.out
                  have W_zt := f_zt.out
                  try simp only [List.setIfInBounds_toArray, List.set_cons_zero, List.set_cons_succ]
                  intro K hK
                  rw [if_pos (by rfl)]
                  go_simp
                  go_at_call 101
                  refine (HW2 _ hb).mono ?_
                  rintro e w' ⟨a3, n3, c3, rfl, r9, bx⟩
                  have e_7 : b7 = false := by cases hq : b7 with | false => rfl | true => exact absurd (w_7_4.out hq) (by simp)
                  subst e_7
                  exact hK.out _ _ ⟨b0, true, b2, true, true, b5, b6, false, b8, b9, x73, .slice wq wn wc, x75, .int .i64 s, (.slice a3 n3 c3), x78, x79, x80, x81, a3, n3, c3, gb, g9, c9, (by simp only [Act.put, List.setIfInBounds_toArray, List.set_cons_zero, List.set_cons_succ]), (by simp only [Act.put, List.setIfInBounds_toArray, List.set_cons_zero, List.set_cons_succ]), hb.trans (bx.mono (Nat.le_trans hB0 hb.size)), cd0, (fun _ => rfl), cd2, (fun _ => rfl), (fun _ => rfl), cd5, cd6, (fun h => by cases h), cd8, (fun h1 => (f_v.out h1).past bx), (f_zh.out.past bx), (f_zt.out.past bx), (fun _ _ => r9.monoB (Nat.le_trans hS0 hb.size)), (fun h0 h1 => (f_bl.out h0 h1).past bx), (fun h0 => absurd (f_q4.out h0) (by simp)), (fun h0 => absurd (f_q44.out h0) (by simp)), (fun _ => rfl), f_q6, (fun _ => rfl), f_q66, f_q77, f_q1, (fun _ => rfl), (fun _ => rfl)⟩
                · rintro L a w ⟨b0, b1, b2, b3, b4, b5, b6, b7, b8, b9, x73, x74, x75, x76, x77, x78, x79, x80, x81, a1, n1, c1, gb, g9, c9, rfl, rfl, hb, cd0, cd1, cd2, cd3, cd4, cd5, cd6, cd7, cd8, f_v, f_zh, f_zt, f_m, f_bl, f_rr, f_o, f_q4, f_q6, f_q44, f_q66, f_q77, f_q1, f_q1a, w_7_4⟩ hf hd
                  have hf' : b5 = false := hf
                  subst hf'
                  clear hf hd
                  have W_zh := f_zh.out
                  have W_zt := f_zt.out
                  try simp only [List.setIfInBounds_toArray, List.set_cons_zero, List.set_cons_succ]
                  obtain ⟨z0, z1, z2⟩ := W_zh.c
                  simp only at z0 z1 z2
                  intro K hK
                  rw [if_pos (by rfl)]
                  go_simp
                  exact hK.out _ _ ⟨b0, b1, b2, b3, b4, true, b6, b7, b8, b9, x73, x74, x75, x76, x77, (.agg #[.int .i64 s, .string (bsOf t), .bool true]), x79, x80, x81, a1, n1, c1, gb, g9, c9, (by simp only [Act.put, List.setIfInBounds_toArray, List.set_cons_zero, List.set_cons_succ]), (by simp only [Act.put, List.setIfInBounds_toArray, List.set_cons_zero, List.set_cons_succ]), hb, cd0, cd1, cd2, cd3, cd4, (fun _ => rfl), cd6, cd7, cd8, f_v, f_zh, f_zt, f_m, f_bl, f_rr, f_o, f_q4, f_q6, f_q44, f_q66, f_q77, f_q1, f_q1a, w_7_4⟩
                · rintro L a w ⟨b0, b1, b2, b3, b4, b5, b6, b7, b8, b9, x73, x74, x75, x76, x77, x78, x79, x80, x81, a1, n1, c1, gb, g9, c9, rfl, rfl, hb, cd0, cd1, cd2, cd3, cd4, cd5, cd6, cd7, cd8, f_v, f_zh, f_zt, f_m, f_bl, f_rr, f_o, f_q4, f_q6, f_q44, f_q66, f_q77, f_q1, f_q1a, w_7_4⟩ hf hd
                  have hf' : b6 = false := hf
                  subst hf'
                  have d5 : b5 = true := hd ⟨5, .data⟩ (by simp) rfl
                  subst d5
                  obtain rfl := cd5.out rfl
                  clear hf hd
                  have W_zh := f_zh.out
                  have W_zt := f_zt.out
                  try simp only [List.setIfInBounds_toArray, List.set_cons_zero, List.set_cons_succ]
                  intro K hK
                  rw [if_pos (by rfl)]
                  refine wp_buildSlice_one 97 112 _ rfl (Hd.cells (⟨s, t, true⟩ : Hd)) 3 rfl rfl (by omega) (by omega) Try.underlying97 rhd_inf' fun w5 hB5 bq5 sq5 => ?_
                  have bx := bq5
                  exact hK.out _ _ ⟨b0, b1, b2, b3, b4, true, true, b7, b8, b9, x73, x74, x75, x76, x77, .agg #[.int .i64 s, .string (bsOf t), .bool true], (.slice (some ⟨(w.heap.size), 0, none⟩) 1 1), x80, x81, a1, n1, c1, w.heap.size, g9, c9, (by simp only [Act.put, List.setIfInBounds_toArray, List.set_cons_zero, List.set_cons_succ]), (by simp only [Act.put, List.setIfInBounds_toArray, List.set_cons_zero, List.set_cons_succ]), hb.trans (bx.mono (Nat.le_trans hB0 hb.size)), cd0, cd1, cd2, cd3, cd4, (fun _ => rfl), (fun _ => rfl), cd7, cd8, (fun h1 => (f_v.out h1).past bx), (f_zh.out.past bx), (f_zt.out.past bx), (fun h0 h1 => (f_m.out h0 h1).past bx), (fun _ _ => OwnR.ofBlk hB5 rfl rfl (by omega)), (fun h0 => absurd (f_q6.out h0) (by simp)), (fun h0 => absurd (f_q66.out h0) (by simp)), f_q4, (fun _ => rfl), f_q44, (fun _ => rfl), f_q77, f_q1, f_q1a, w_7_4⟩
                · rintro L a w ⟨b0, b1, b2, b3, b4, b5, b6, b7, b8, b9, x73, x74, x75, x76, x77, x78, x79, x80, x81, a1, n1, c1, gb, g9, c9, rfl, rfl, hb, cd0, cd1, cd2, cd3, cd4, cd5, cd6, cd7, cd8, f_v, f_zh, f_zt, f_m, f_bl, f_rr, f_o, f_q4, f_q6, f_q44, f_q66, f_q77, f_q1, f_q1a, w_7_4⟩ hf hd
                  have hf' : b7 = false := hf
                  subst hf'
                  have d4 : b4 = true := hd ⟨4, .data⟩ (by simp) rfl
                  subst d4
                  have d6 : b6 = true := hd ⟨6, .data⟩ (by simp) rfl
                  subst d6
                  obtain rfl := cd4.out rfl
                  obtain rfl := cd6.out rfl
                  clear hf hd
                  have W_zh := f_zh.out
                  have W_zt := f_zt.out
                  have W_m := f_m.out rfl rfl
                  have W_bl := f_bl.out rfl rfl
                  have W_q1a := f_q1a.out rfl
                  try simp only [List.setIfInBounds_toArray, List.set_cons_zero, List.set_cons_succ]
                  intro K hK
                  rw [if_pos (by rfl)]
                  have hlm := W_m.len
                  refine wp_append_r _ _ 97 97 rfl rowTyRh rfl W_m (Nat.le_trans hS0 hb.size) _ rfl 1 [(⟨s, t, true⟩ : Hd)] (W_bl.isR.src Try.underlying97) rfl (by omega) (n1 + 1) rfl _ rfl (by have := wo_length W s; omega) ?_
                  intro g10 c10 w2 o10 gr10 q10 bq10
                  have hb2 := hb.trans (bq10.mono hpS)
                  have nq : ∀ z, z < S0 → some z ≠ Go.Proofs.Ytllijeciodmckaa.blk a1 := fun z hz e => by have h0 := W_m.from' z e.symm; omega
                  exact hK.out _ _ ⟨b0, b1, b2, b3, true, b5, true, true, b8, b9, x73, x74, x75, x76, .slice a1 n1 c1, x78, .slice (some ⟨gb, 0, none⟩) 1 1, (.slice (some ⟨g10, 0, none⟩) (n1 + 1) c10), x81, a1, n1, c1, gb, g10, c10, (by simp only [Act.put, List.setIfInBounds_toArray, List.set_cons_zero, List.set_cons_succ]), (by simp only [Act.put, List.setIfInBounds_toArray, List.set_cons_zero, List.set_cons_succ]), hb2, cd0, cd1, cd2, cd3, (fun _ => rfl), cd5, (fun _ => rfl), (fun _ => rfl), cd8, (fun h1 => (gr10.block p ((f_v.out h1)).lt (nq p hpS0)).trans ((f_v.out h1))), ((gr10.block r (f_zh.out).lt (nq r hrS0)).trans (f_zh.out)), ((gr10.block g (f_zt.out).lt (nq g hgS0)).trans (f_zt.out)), (fun _ h => by cases h), (fun _ h => by cases h), (fun _ => o10), (fun h0 => absurd (f_q77.out h0) (by simp)), (fun _ => rfl), (fun _ => rfl), f_q44, f_q66, (fun _ => rfl), f_q1, f_q1a, (fun _ => rfl)⟩
                · rintro L a w ⟨b0, b1, b2, b3, b4, b5, b6, b7, b8, b9, x73, x74, x75, x76, x77, x78, x79, x80, x81, a1, n1, c1, gb, g9, c9, rfl, rfl, hb, cd0, cd1, cd2, cd3, cd4, cd5, cd6, cd7, cd8, f_v, f_zh, f_zt, f_m, f_bl, f_rr, f_o, f_q4, f_q6, f_q44, f_q66, f_q77, f_q1, f_q1a, w_7_4⟩ hf hd
                  have hf' : b8 = false := hf
                  subst hf'
                  have d0 : b0 = true := hd ⟨0, .phase⟩ (by simp) rfl
                  subst d0
                  have d1 : b1 = true := hd ⟨1, .phase⟩ (by simp) rfl
                  subst d1
                  have d2 : b2 = true := hd ⟨2, .phase⟩ (by simp) rfl
                  subst d2
                  have d3 : b3 = true := hd ⟨3, .phase⟩ (by simp) rfl
                  subst d3
                  have d4 : b4 = true := hd ⟨4, .phase⟩ (by simp) rfl
                  subst d4
                  have d5 : b5 = true := hd ⟨5, .phase⟩ (by simp) rfl
                  subst d5
                  have d6 : b6 = true := hd ⟨6, .phase⟩ (by simp) rfl
                  subst d6
                  have d7 : b7 = true := hd ⟨7, .phase⟩ (by simp) rfl
                  subst d7
                  obtain rfl := cd0.out rfl
                  obtain rfl := cd1.out rfl
                  obtain rfl := cd2.out rfl
                  obtain rfl := cd3.out rfl
                  obtain rfl := cd4.out rfl
                  obtain rfl := cd5.out rfl
                  obtain rfl := cd6.out rfl
                  obtain rfl := cd7.out rfl
                  clear hf hd
                  have W_zh := f_zh.out
                  have W_zt := f_zt.out
                  have W_rr := f_rr.out rfl
                  have W_q4 := f_q4.out rfl
                  have W_q6 := f_q6.out rfl
                  have W_q1a := f_q1a.out rfl
                  try simp only [List.setIfInBounds_toArray, List.set_cons_zero, List.set_cons_succ]
                  intro K hK
                  rw [if_pos (by rfl)]
                  go_simp
                  exact hK.out _ _ ⟨true, true, true, true, true, true, true, true, true, b9, .pointer (some ⟨p, 1, none⟩), .slice wq wn wc, .pointer (some ⟨r, 0, none⟩), .int .i64 s, .slice a1 n1 c1, .agg #[.int .i64 s, .string (bsOf t), .bool true], .slice (some ⟨gb, 0, none⟩) 1 1, .slice (some ⟨g9, 0, none⟩) (n1 + 1) c9, (.pointer (some ⟨p, 1, none⟩)), a1, n1, c1, gb, g9, c9, (by simp only [Act.put, List.setIfInBounds_toArray, List.set_cons_zero, List.set_cons_succ]), (by simp only [Act.put, List.setIfInBounds_toArray, List.set_cons_zero, List.set_cons_succ]), hb, (fun _ => rfl), (fun _ => rfl), (fun _ => rfl), (fun _ => rfl), (fun _ => rfl), (fun _ => rfl), (fun _ => rfl), (fun _ => rfl), (fun _ => rfl), f_v, f_zh, f_zt, (fun _ h => by cases h), (fun _ h => by cases h), f_rr, f_o, f_q4, f_q6, f_q44, f_q66, f_q77, f_q1, f_q1a, (fun _ => rfl)⟩
                · rintro L a w ⟨b0, b1, b2, b3, b4, b5, b6, b7, b8, b9, x73, x74, x75, x76, x77, x78, x79, x80, x81, a1, n1, c1, gb, g9, c9, rfl, rfl, hb, cd0, cd1, cd2, cd3, cd4, cd5, cd6, cd7, cd8, f_v, f_zh, f_zt, f_m, f_bl, f_rr, f_o, f_q4, f_q6, f_q44, f_q66, f_q77, f_q1, f_q1a, w_7_4⟩ hf hd
                  have hf' : b9 = false := hf
                  subst hf'
                  have d8 : b8 = true := hd ⟨8, .data⟩ (by simp) rfl
                  subst d8
                  have d7 : b7 = true := hd ⟨7, .data⟩ (by simp) rfl
                  subst d7
                  have d0 : b0 = true := hd ⟨0, .phase⟩ (by simp) rfl
                  subst d0
                  have d1 : b1 = true := hd ⟨1, .phase⟩ (by simp) rfl
                  subst d1
                  have d2 : b2 = true := hd ⟨2, .phase⟩ (by simp) rfl
                  subst d2
                  have d3 : b3 = true := hd ⟨3, .phase⟩ (by simp) rfl
                  subst d3
                  have d4 : b4 = true := hd ⟨4, .phase⟩ (by simp) rfl
                  subst d4
                  have d5 : b5 = true := hd ⟨5, .phase⟩ (by simp) rfl
                  subst d5
                  have d6 : b6 = true := hd ⟨6, .phase⟩ (by simp) rfl
                  subst d6
                  obtain rfl := cd8.out rfl
                  obtain rfl := cd7.out rfl
                  obtain rfl := cd0.out rfl
                  obtain rfl := cd1.out rfl
                  obtain rfl := cd2.out rfl
                  obtain rfl := cd3.out rfl
                  obtain rfl := cd4.out rfl
                  obtain rfl := cd5.out rfl
                  obtain rfl := cd6.out rfl
                  clear hf hd
                  have W_v := f_v.out rfl
                  have W_zh := f_zh.out
                  have W_zt := f_zt.out
                  have W_rr := f_rr.out rfl
                  have W_q4 := f_q4.out rfl
                  have W_q6 := f_q6.out rfl
                  have W_q1a := f_q1a.out rfl
                  try simp only [List.setIfInBounds_toArray, List.set_cons_zero, List.set_cons_succ]
                  intro K hK
                  rw [if_pos (by rfl)]
                  obtain ⟨z0, z1⟩ := W_v.c
                  obtain ⟨f0, f1⟩ := W_v.free
                  go_simp
                  have g8 := set1_grown w p 1 (.slice (some ⟨g9, 0, none⟩) (n1 + 1) c9)
                  have hb2 := hb.grown g8 (Nat.le_trans hB0 hb.size) (fun z hz => by cases hz; exact Nat.le_refl _)
                  have po := W_v.put1 (some ⟨g9, 0, none⟩) (n1 + 1) c9
                  exact hK.out _ _ ⟨true, true, true, true, true, true, true, true, true, true, .pointer (some ⟨p, 1, none⟩), .slice wq wn wc, .pointer (some ⟨r, 0, none⟩), .int .i64 s, .slice a1 n1 c1, .agg #[.int .i64 s, .string (bsOf t), .bool true], .slice (some ⟨gb, 0, none⟩) 1 1, .slice (some ⟨g9, 0, none⟩) (n1 + 1) c9, .pointer (some ⟨p, 1, none⟩), a1, n1, c1, gb, g9, c9, (by simp only [Act.put, List.setIfInBounds_toArray, List.set_cons_zero, List.set_cons_succ]), (by simp only [Act.put, List.setIfInBounds_toArray, List.set_cons_zero, List.set_cons_succ]), hb2, (fun _ => rfl), (fun _ => rfl), (fun _ => rfl), (fun _ => rfl), (fun _ => rfl), (fun _ => rfl), (fun _ => rfl), (fun _ => rfl), (fun _ => rfl), (fun h => by cases h), ((f_zh.out).far g8 (fun e => hpr e.symm)), ((f_zt.out).far g8 (fun e => hpg e.symm)), (fun _ h => by cases h), (fun _ h => by cases h), (fun h0 => ((f_rr.out h0)).farT W_v (by decide) g8), (fun _ => po), f_q4, f_q6, (fun _ => f_q4.out rfl), (fun _ => f_q6.out rfl), (fun _ => rfl), (fun _ => f_q1a.out (f_q4.out rfl)), f_q1a, (fun _ => rfl)⟩
              · rintro act V ⟨b0, b1, b2, b3, b4, b5, b6, b7, b8, b9, x73, x74, x75, x76, x77, x78, x79, x80, x81, a1, n1, c1, gb, g9, c9, hL, rfl, hb, cd0, cd1, cd2, cd3, cd4, cd5, cd6, cd7, cd8, f_v, f_zh, f_zt, f_m, f_bl, f_rr, f_o, f_q4, f_q6, f_q44, f_q66, f_q77, f_q1, f_q1a, w_7_4⟩
                have hL' : [true, true, true, true, true, true, true, true, true, true] = [b0, b1, b2, b3, b4, b5, b6, b7, b8, b9] := congrArg Array.toList hL
                simp only [List.cons.injEq, and_true] at hL'
                obtain ⟨rfl, rfl, rfl, rfl, rfl, rfl, rfl, rfl, rfl, rfl⟩ := hL'
                obtain rfl := cd0.out rfl
                obtain rfl := cd1.out rfl
                obtain rfl := cd2.out rfl
                obtain rfl := cd3.out rfl
                obtain rfl := cd4.out rfl
                obtain rfl := cd5.out rfl
                obtain rfl := cd6.out rfl
                obtain rfl := cd7.out rfl
                obtain rfl := cd8.out rfl
                have W_zh := f_zh.out
                have W_zt := f_zt.out
                have W_rr := f_rr.out rfl
                have W_o := f_o.out rfl
                have W_q4 := f_q4.out rfl
                have W_q6 := f_q6.out rfl
                have W_q44 := f_q44.out rfl
                have W_q66 := f_q66.out rfl
                have W_q77 := f_q77.out rfl
                have W_q1 := f_q1.out rfl
                have W_q1a := f_q1a.out rfl
                clear hL f_v f_zh f_zt f_m f_bl f_rr f_o f_q4 f_q6 f_q44 f_q66 f_q77 f_q1 f_q1a cd0 cd1 cd2 cd3 cd4 cd5 cd6 cd7 cd8 w_7_4
                simp only [List.setIfInBounds_toArray, List.set_cons_zero, List.set_cons_succ]
                have B := BP.trans ((Below.refl _ _).drew.trans hb)
                have X := W_o
                have Z := W_zt
                have TW := W_rr.monoB hpS
                clear hb W_o W_zt W_rr
                obtain ⟨wo9, hwo9⟩ : ∃ z_, z_ = (some ⟨g9, 0, none⟩ : Option Addr) := ⟨_, rfl⟩
                obtain ⟨n9, hn9⟩ : ∃ z_, z_ = n1 + 1 := ⟨_, rfl⟩
                rw [← hwo9, ← hn9] at X TW
                clear hwo9 hn9
                generalize V = U9 at X Z TW B ⊢
                obtain ⟨c0_, c1_⟩ := X.c
                obtain ⟨f0_, f1_⟩ := Z.free
                obtain ⟨t0_, t1_⟩ := Z.c
                have hBs := B.size
                have Y := (Z.put0 (some ⟨rb, roff, none⟩) i hc).put1 wo9 n9 c9
                have BF := LkAt.below B g hpg2 (by have := Z.lt; omega) (.slice (some ⟨rb, roff, none⟩) i hc) (.slice wo9 n9 c9)
                have TW2 := (TW.farT Z (by decide) (set1_grown U9 g 0 (.slice (some ⟨rb, roff, none⟩) i hc))).farT (Z.put0 (some ⟨rb, roff, none⟩) i hc) (by decide) (set1_grown _ g 1 (.slice wo9 n9 c9))
                obtain ⟨y0_, y1_⟩ := Y.c
                go_wp2_with fail
                refine bodyPost_ret (v := .tuple #[.agg #[.slice (some ⟨rb, roff, none⟩) i hc, .slice wo9 n9 c9], .bool false]) (by simp [results, Try.results56, go_sem, y0_, y1_]) rfl ?_
                have hsz := HP.out
                exact ⟨_, rfl, ⟨(some ⟨rb, roff, none⟩), i, hc, wo9, n9, c9, rfl, h1.past (by rw [hsz]; exact BF), TW2.isR, (fun g0 _ hh => hh), TW2.rowO.from2 (by omega)⟩, by rw [hsz]; exact BF⟩
            · skip
              obtain ⟨rfl, rfl, rfl⟩ : A1 = H.set j ⟨ks, kt, true⟩ ∧ A2 = wo W s ∧ A3 = true := by
                obtain ⟨e1, e2, e3⟩ := hR.out
                obtain ⟨d1, d2, d3⟩ := rask_yes (W := W) hcv hF.out
                exact ⟨(e1.trans d1).trans (At.wth_pos hApt.out hj hks hkt hcv), e2.trans d2, e3.trans d3⟩
              clear hR hcv hF
              have bZ : Below wr.heap.size wr (wr.alloc (.cells #[] 112)) := (Below.refl _ _).alloc (Nat.le_refl _) _
              have oZ : OwnR EHd (wr.alloc (.cells #[] 112)) 112 wr.heap.size 0 0 [] := ⟨rfl, Nat.le_refl _, Nat.zero_le _, #[], heap_alloc_new wr _, rfl, rfl⟩
              have hs := ((hU1.past BU).past bZ).src (P := Try.prog) Try.underlying97
              have BU1 := BU.trans (bZ.mono BU.size)
              obtain ⟨z0_, z1_, z2_⟩ := (Z0.past BU).c
              simp only at z0_ z1_ z2_
              have hwr := BU.size
              have hpB := Nat.lt_of_lt_of_le X0.lt BU.size
              have c9 := ((X0.past BU).past bZ).c.1
              go_upto_region 17 with (at_builtin; refine wpList_append_or rfl _ _ 97 97 rfl 112 rowTyRh wr.heap.size 0 0 [] rfl oZ _ rfl i H hs hlH i (Nat.zero_add i) H rfl (by omega) ?_; intro g1 c1 w1 o1 p1 q1)
              have hg1 : wr.heap.size ≤ g1 := by
                rcases q1 with rfl | q1
                · exact Nat.le_refl _
                · rw [World.size_alloc] at q1; omega
              have BV := BU.trans ((bZ.trans (p1.below (Nat.le_refl _) (by rw [World.size_alloc]; omega))).mono BU.size)
              clear bZ oZ hs BU1 q1 p1
              have BP : Below p w w1 := B0.trans (BV.mono (Nat.le_of_lt X0.lt))
              have X := X0.past BV
              have Z := T0.past BV
              have ZH := Z0.past BV
              have hpg1 : p < g1 := by have := X0.lt; omega
              have hrg1 : r < g1 := by have := Z0.lt; omega
              have hgg1 : g < g1 := by have := T0.lt; omega
              obtain ⟨fa_, fb_, fc_, q0_, q1_, q2_, r0_, r1_, r2_⟩ := own_cells3 o1 rfl j (by omega)
              have o2 := own_setX o1 j _ hj
              have gr := set1_grown w1 g1 (j * 3 + 2) (.bool true)
              replace BP := BP.grown gr (by have := X.lt; omega) (fun z hz => by cases hz; omega)
              replace X := X.far gr (by omega)
              replace Z := Z.far gr (by omega)
              replace ZH := ZH.far gr (by omega)
              have TX0 : TxtR EHd (w1.setCell ⟨g1, j * 3 + 2, none⟩ (.bool true)) 112 p (some ⟨g1, 0, none⟩) i c1 (H.set j ⟨ks, kt, true⟩) := ⟨.inr ⟨g1, rfl, o2, by omega⟩⟩
              go_upto_region 19 with fail
              clear o1 o2 gr q0_ q1_ q2_ r0_ r1_ r2_
              generalize w1.setCell ⟨g1, j * 3 + 2, none⟩ (.bool true) = w3 at X Z ZH TX0 BP ⊢
              obtain ⟨xo, hxo⟩ : ∃ z_, (some ⟨g1, 0, none⟩ : Option Addr) = z_ := ⟨_, rfl⟩
              have TX : TxtR EHd w3 112 p xo i c1 (H.set j ⟨ks, kt, true⟩) := by rw [← hxo]; exact TX0
              simp only [hxo]
              have HWo := rwithout_any w3 wq wn wc W (h2.past (by rw [HP.out]; exact BP)) (by omega) s
              obtain ⟨z0_, z1_, z2_⟩ := ZH.c
              simp only at z0_ z1_ z2_
              obtain ⟨c0_, c1_⟩ := X.c
              have hpw3 : p ≤ w3.heap.size := Nat.le_of_lt X.lt
              go_upto_region 20 with (go_at_call 101; refine HWo.mono ?_; rintro e w5 ⟨ao5, n5, c5, rfl, T5, b5⟩; have X5 := X.past b5; obtain ⟨d0_, d1_⟩ := X5.c; obtain ⟨e0_, e1_⟩ := X5.free)
              have TX5 := TX.past b5
              have Z5 := Z.past b5
              have B5 := BP.trans (b5.mono hpw3)
              have B := LkAt.below B5 p (Nat.le_refl _) (Nat.le_trans hpw3 b5.size) (.slice xo i c1) (.slice ao5 n5 c5)
              have TW := ((T5.monoB hpw3).farT X5 (by decide) (set1_grown w5 p 0 (.slice xo i c1))).farT (X5.put0 xo i c1) (by decide) (set1_grown _ p 1 (.slice ao5 n5 c5))
              replace TX := (TX5.farT X5 (by decide) (set1_grown w5 p 0 (.slice xo i c1))).farT (X5.put0 xo i c1) (by decide) (set1_grown _ p 1 (.slice ao5 n5 c5))
              replace Z := (Z5.far (set1_grown w5 p 0 (.slice xo i c1)) (fun e => hpg e.symm)).far (set1_grown _ p 1 (.slice ao5 n5 c5)) (fun e => hpg e.symm)
              replace X := (X5.put0 xo i c1).put1 ao5 n5 c5
              clear T5 X5 Z5 TX5 B5 d0_ d1_ e0_ e1_ b5 HWo z0_ z1_ z2_ c0_ c1_
              generalize (w5.setCell ⟨p, 0, none⟩ (.slice xo i c1)).setCell ⟨p, 1, none⟩ (.slice ao5 n5 c5) = U9 at X Z TW TX B ⊢
              obtain ⟨c0_, c1_⟩ := X.c
              obtain ⟨f0_, f1_⟩ := Z.free
              obtain ⟨t0_, t1_⟩ := Z.c
              have hBs := B.size
              have Y := (Z.put0 xo i c1).put1 ao5 n5 c5
              have BF := LkAt.below B g hpg2 (by have := Z.lt; omega) (.slice xo i c1) (.slice ao5 n5 c5)
              have TW2 := (TW.farT Z (by decide) (set1_grown U9 g 0 (.slice xo i c1))).farT (Z.put0 xo i c1) (by decide) (set1_grown _ g 1 (.slice ao5 n5 c5))
              obtain ⟨y0_, y1_⟩ := Y.c
              go_wp2_with fail
              refine bodyPost_ret (v := .tuple #[.agg #[.slice xo i c1, .slice ao5 n5 c5], .bool true]) (by simp [results, Try.results56, go_sem, y0_, y1_]) rfl ?_
              have hsz := HP.out
              exact ⟨_, rfl, ⟨xo, i, c1, ao5, n5, c5, rfl, ((TX.farT Z (by decide) (set1_grown U9 g 0 (.slice xo i c1))).farT (Z.put0 xo i c1) (by decide) (set1_grown _ g 1 (.slice ao5 n5 c5))).isR, TW2.isR, (fun g0 hg0 _ h0 a ha => by have := TX.rowO.from2 (Nat.le_refl p) h0 a ha; omega), TW2.rowO.from2 (by omega)⟩, by rw [hsz]; exact BF⟩
        · have hcv : covers H ⟨s, t, x⟩ = true := hcv
          have BP : Below p w wr := B0.trans (BU.mono (Nat.le_of_lt X0.lt))
          have X := X0.past BU
          have Z := T0.past BU
          have ZH := Z0.past BU
          have hs0 := BU.size
          have HWo := rwithout_any wr wq wn wc W (h2.past (by rw [HP.out]; exact BP)) (by omega) s
          obtain ⟨z0_, z1_, z2_⟩ := ZH.c
          simp only at z0_ z1_ z2_
          obtain ⟨ho, hho⟩ : ∃ z_, z_ = (some ⟨rb, roff, none⟩ : Option Addr) := ⟨_, rfl⟩
          have hhoh := Lib.hid hho
          rw [← hho] at X h1
          clear hho
          obtain ⟨rfl, rfl, rfl⟩ : A1 = H ∧ A2 = wo W s ∧ A3 = true := by
            obtain ⟨e1, e2, e3⟩ := hR.out
            obtain ⟨d1, d2, d3⟩ := rask_cov (W := W) hcv
            exact ⟨e1.trans d1, e2.trans d2, e3.trans d3⟩
          clear hR hcv
          go_upto_region 11 with (go_at_call 101; refine HWo.mono ?_; rintro e w5 ⟨ao5, n5, c5, rfl, T5, b5⟩; have X5 := X.past b5; obtain ⟨d0_, d1_⟩ := X5.c; obtain ⟨e0_, e1_⟩ := X5.free)
          have Z5 := Z.past b5
          have TW := (T5.monoB (show p ≤ wr.heap.size by have := X.lt; omega)).farT X5 (by decide) (set1_grown w5 p 1 (.slice ao5 n5 c5))
          have B := (BP.trans (b5.mono (by have := X.lt; omega))).grown (set1_grown w5 p 1 (.slice ao5 n5 c5)) (by have := X5.lt; omega) (fun z hz => by cases hz; exact Nat.le_refl _)
          replace Z := Z5.far (set1_grown w5 p 1 (.slice ao5 n5 c5)) (fun e => hpg e.symm)
          replace X := X5.put1 ao5 n5 c5
          clear T5 X5 Z5 d0_ d1_ e0_ e1_ b5 HWo
          generalize w5.setCell ⟨p, 1, none⟩ (.slice ao5 n5 c5) = U9 at X Z TW B ⊢
          obtain ⟨c0_, c1_⟩ := X.c
          obtain ⟨f0_, f1_⟩ := Z.free
          obtain ⟨t0_, t1_⟩ := Z.c
          have hBs := B.size
          have Y := (Z.put0 ho i hc).put1 ao5 n5 c5
          have BF := LkAt.below B g hpg2 (by have := Z.lt; omega) (.slice ho i hc) (.slice ao5 n5 c5)
          have TW2 := (TW.farT Z (by decide) (set1_grown U9 g 0 (.slice ho i hc))).farT (Z.put0 ho i hc) (by decide) (set1_grown _ g 1 (.slice ao5 n5 c5))
          obtain ⟨y0_, y1_⟩ := Y.c
          go_wp2_with fail
          refine bodyPost_ret (v := .tuple #[.agg #[.slice ho i hc, .slice ao5 n5 c5], .bool true]) (by simp [results, Try.results56, go_sem, y0_, y1_]) rfl ?_
          have hsz := HP.out
          exact ⟨_, rfl, ⟨ho, i, hc, ao5, n5, c5, rfl, h1.past (by rw [hsz]; exact BF), TW2.isR, (fun g0 _ hh h0 a ha => hh h0 a (hhoh.out.symm.trans ha)), TW2.rowO.from2 (by omega)⟩, by rw [hsz]; exact BF⟩

end Go.Proofs.Ytllijeciodmckaa
