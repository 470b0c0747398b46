/-
  lock's without, covers (by gen_lkf.py).
-/
import Derived.Test.YtllijeciodmckaaLkE
import Derived.Test.YtllijeciodmckaaInv
namespace Go.Proofs.Ytllijeciodmckaa
open Go.RowKit
set_option linter.unusedSimpArgs false
/-- What stands while the region's operations come up. -/
inductive CovA (B : Nat) (p : Nat) (q : Nat) (ho : Option Addr) (hn : Nat) (hc : Nat) (s : Int) (t : List UInt8) (x : Bool) (B2 : Bool) (a0 : Act) (w0 : World) (L : Array Bool) (a : Act) (w : World) : Prop
  | mk (b0 b1 b2 b3 b4 b5 b6 b7 b8 b9 b10 b11 : Bool) (x5 x6 x7 x8 x9 x10 x11 x12 x13 x14 x15 x4 : Value) (hL : L = #[b0, b1, b2, b3, b4, b5, b6, b7, b8, b9, b10, b11]) (ha : a = ⟨((((((((((((a0.tmps.setIfInBounds 5 x5).setIfInBounds 6 x6).setIfInBounds 7 x7).setIfInBounds 8 x8).setIfInBounds 9 x9).setIfInBounds 10 x10).setIfInBounds 11 x11).setIfInBounds 12 x12).setIfInBounds 13 x13).setIfInBounds 14 x14).setIfInBounds 15 x15).setIfInBounds 4 x4), a0.defers⟩) (hb : Below B w0 w) (cd0 : Hid (b0 = true → x5 = .pointer (some ⟨p, 0, none⟩))) (cd1 : Hid (b1 = true → x6 = .slice ho hn hc)) (cd2 : Hid (b2 = true → x7 = .agg #[.int .i64 s, .string (bsOf t), .bool x])) (cd3 : Hid (b3 = true → x8 = .bool false)) (cd4 : Hid (b4 = true → x9 = .bool false)) (cd5 : Hid (b5 = true → x10 = .pointer (some ⟨p, 0, none⟩))) (cd6 : Hid (b6 = true → x11 = .slice ho hn hc)) (cd7 : Hid (b7 = true → x12 = .agg #[.int .i64 s, .string (bsOf t), .bool x])) (cd8 : Hid (b8 = true → x13 = .agg #[.int .i64 s, .string (bsOf t), .bool true])) (cd9 : Hid (b9 = true → x14 = .bool B2)) (cd10 : Hid (b10 = true → x15 = .bool B2)) (cd11 : Hid (b11 = true → x4 = .bool B2)) : CovA B p q ho hn hc s t x B2 a0 w0 L a w

/-- What stands while the region's operations come up. -/
inductive CovB (B : Nat) (p : Nat) (q : Nat) (ho : Option Addr) (hn : Nat) (hc : Nat) (s : Int) (t : List UInt8) (x : Bool) (B2 : Bool) (a0 : Act) (w0 : World) (L : Array Bool) (a : Act) (w : World) : Prop
  | mk (b0 b1 b2 b3 b4 b5 b6 b7 b8 b9 b10 b11 : Bool) (x5 x6 x7 x8 x9 x10 x11 x12 x13 x14 x15 x4 : Value) (hL : L = #[b0, b1, b2, b3, b4, b5, b6, b7, b8, b9, b10, b11]) (ha : a = ⟨((((((((((((a0.tmps.setIfInBounds 5 x5).setIfInBounds 6 x6).setIfInBounds 7 x7).setIfInBounds 8 x8).setIfInBounds 9 x9).setIfInBounds 10 x10).setIfInBounds 11 x11).setIfInBounds 12 x12).setIfInBounds 13 x13).setIfInBounds 14 x14).setIfInBounds 15 x15).setIfInBounds 4 x4), a0.defers⟩) (hb : Below B w0 w) (cd0 : Hid (b0 = true → x5 = .pointer (some ⟨p, 0, none⟩))) (cd1 : Hid (b1 = true → x6 = .slice ho hn hc)) (cd2 : Hid (b2 = true → x7 = .agg #[.int .i64 s, .string (bsOf t), .bool x])) (cd3 : Hid (b3 = true → x8 = .bool true)) (cd4 : Hid (b4 = true → x9 = .bool true)) (cd5 : Hid (b5 = true → x10 = undef)) (cd6 : Hid (b6 = true → x11 = undef)) (cd7 : Hid (b7 = true → x12 = undef)) (cd8 : Hid (b8 = true → x13 = undef)) (cd9 : Hid (b9 = true → x14 = undef)) (cd10 : Hid (b10 = true → x15 = .bool true)) (cd11 : Hid (b11 = true → x4 = .bool true)) : CovB B p q ho hn hc s t x B2 a0 w0 L a w
set_option maxRecDepth 100000 in
theorem without_any (w : World) (ao : Option Addr) (n c : Nat) (l : List Hd) (h : IsR EHd w ao n c l) (hn : n ≤ 1000000) (s : Int) :
    Calls Try.prog 100 #[.slice ao n c, .int .i64 s] w fun e w' => ∃ ao' k c', e = .returned (.slice ao' k c') ∧ TxtR EHd w' 101 w.heap.size ao' k c' (wo l s) ∧ Below w.heap.size w w' := by
  have BA : Below w.heap.size w (w.alloc (.cells #[.int .i64 s] 3)) := (Below.refl _ _).alloc (Nat.le_refl _) _
  have X : (w.alloc (.cells #[.int .i64 s] 3)).heap[w.heap.size]? = some (.cells #[.int .i64 s] 3 (0, 0)) := heap_alloc_new w _
  go_enter Try.func100, Try.ntmps100
  go_upto_region 1 with fail
  generalize w.alloc (.cells #[.int .i64 s] 3) = W at X BA ⊢
  obtain ⟨p, hp⟩ : ∃ p, w.heap.size = p := ⟨_, rfl⟩
  have hP := Lib.hid hp
  rw [hp] at X BA
  simp only [hp]
  have hpW : p < W.heap.size := (Array.getElem?_eq_some_iff.1 X).1
  have HC := clone_hd W ao n c l (h.past (by rw [hP.out]; exact BA)) hn
  have HX := Lib.hid (cell_blk X (i := 0) (v := .int .i64 s) rfl)
  clear hp X
  go_wp2_with (first
    | (go_at_call 102; refine HC.mono ?_; rintro e w1 ⟨ao1, c1, rfl, o1, b1⟩)
    | (go_at_call 152; refine (deleteF_w w1 W.heap.size b1.size ao1 n c1 l o1 p s ((b1.cell (show (⟨p, 0, none⟩ : Addr).block < W.heap.size from hpW)).trans HX.out) hpW).mono ?_; rintro e w2 ⟨ao2, k2, c2, rfl, o2, b2⟩))
  go_ret
  rw [hP.out]
  exact ⟨ao2, k2, c2, rfl, ⟨o2.either.imp id fun ⟨g, h1, h2, h3⟩ => ⟨g, h1, h2, Nat.le_trans (Nat.le_of_lt hpW) h3⟩⟩, BA.trans ((b1.trans b2).mono (Nat.le_of_lt hpW))⟩
set_option maxRecDepth 100000 in
set_option maxHeartbeats 1000000 in
theorem covers_any (w : World) (ho : Option Addr) (hn hc : Nat) (wo : Option Addr) (wn wc : Nat) (H : List Hd) (h : IsR EHd w ho hn hc H) (k : Hd) :
    Calls Try.prog 103 #[lkV ho hn hc wo wn wc, k.val] w fun e w' => e = .returned (.bool (covers H k)) ∧ Below w.heap.size w w' := by
  have X0 := LkB.new w ho hn hc wo wn wc 96
  have B0 : Below w.heap.size w (w.alloc (.cells #[.slice ho hn hc, .slice wo wn wc] 96)) := (Below.refl _ _).alloc (Nat.le_refl _) _
  have Y0 := HdB.new (w.alloc (.cells #[.slice ho hn hc, .slice wo wn wc] 96)) k 101
  have X1 := X0.past ((Below.refl _ _).alloc (Nat.le_refl _) (.cells #[.int .i64 k.s, .string (bsOf k.t), .bool k.x] 101))
  have BA := B0.alloc B0.size (.cells #[.int .i64 k.s, .string (bsOf k.t), .bool k.x] 101)
  rw [World.size_alloc] at Y0
  have HCov : Hid (covers H k = (decide (k ∈ H) || decide (k.as true ∈ H))) := Lib.hid rfl
  clear X0 B0
  obtain ⟨B1, hB1⟩ : ∃ b, decide (k ∈ H) = b := ⟨_, rfl⟩
  obtain ⟨B2, hB2⟩ : ∃ b, decide (k.as true ∈ H) = b := ⟨_, rfl⟩
  have HC1 := fun (w' : World) (hr : IsR EHd w' ho hn hc H) => contains_hd w' ho hn hc H hr k
  have HC2 := fun (w' : World) (hr : IsR EHd w' ho hn hc H) => contains_hd w' ho hn hc H hr (k.as true)
  have HA := fun w' => as_any w' k true
  rw [hB1] at HC1 HCov
  rw [hB2] at HC2 HCov
  clear hB1 hB2
  obtain ⟨s, t, x⟩ := k
  unfold Hd.as at HC2 HA
  unfold Hd.val at HC1 HC2 HA ⊢
  unfold lkV
  simp only at HC1 HC2 HA X1 Y0 BA ⊢
  go_enter Try.func103, Try.ntmps103
  go_upto_region 1 with fail
  generalize (w.alloc (.cells #[.slice ho hn hc, .slice wo wn wc] 96)).alloc (.cells #[.int .i64 s, .string (bsOf t), .bool x] 101) = W at X1 Y0 BA ⊢
  have h1 : IsR EHd W ho hn hc H := h.past BA
  obtain ⟨p, hp⟩ : ∃ p, w.heap.size = p := ⟨_, rfl⟩
  have HP := Lib.hid hp
  rw [hp] at X1 Y0 BA
  simp only [hp]
  clear hp h
  have hpB := X1.lt
  have hqB := Y0.lt
  have hpW := Nat.le_of_lt hpB
  obtain ⟨q, hq⟩ : ∃ q, p + 1 = q := ⟨_, rfl⟩
  rw [hq] at Y0 hqB
  simp only [hq]
  have HQ := Lib.hid hq
  clear hq
  obtain ⟨c0, c1⟩ := X1.c
  obtain ⟨d0, d1, d2⟩ := Y0.c
  simp only at d0 d1 d2
  have HC1 := fun (w' : World) (hb : Below W.heap.size W.drew w') => HC1 w' (h1.drew.past hb)
  have HC2 := fun (w' : World) (hb : Below W.heap.size W.drew w') => HC2 w' (h1.drew.past hb)
  have hB0 : W.heap.size ≤ W.heap.size := Nat.le_refl _
  cases B1
  · have HR := HCov
    rw [Bool.false_or] at HR
    clear HCov
    refine region_inv (CovA W.heap.size p q ho hn hc s t x B2) (by kernel_rfl) (by kernel_rfl) ?_ ?_ ?_
    · exact ⟨false, false, false, false, false, false, false, false, false, false, false, false, undef, undef, undef, undef, undef, undef, undef, undef, undef, undef, undef, .bool false, rfl, (by simp only [Act.put, List.setIfInBounds_toArray, List.set_cons_zero, List.set_cons_succ]), Below.refl _ _, (fun h => by cases h), (fun h => by cases h), (fun h => by cases h), (fun h => by cases h), (fun h => by cases h), (fun h => by cases h), (fun h => by cases h), (fun h => by cases h), (fun h => by cases h), (fun h => by cases h), (fun h => by cases h), (fun h => by cases h)⟩
    · refine ⟨?_, ?_, ?_, ?_, ?_, ?_, ?_, ?_, ?_, ?_, ?_, ?_, trivial⟩
      · rintro L a w ⟨b0, b1, b2, b3, b4, b5, b6, b7, b8, b9, b10, b11, x5, x6, x7, x8, x9, x10, x11, x12, x13, x14, x15, x4, rfl, rfl, hb, cd0, cd1, cd2, cd3, cd4, cd5, cd6, cd7, cd8, cd9, cd10, cd11⟩ hf hd
        have hf' : b0 = false := hf
        subst hf'
        clear hf hd
        try simp only [List.setIfInBounds_toArray, List.set_cons_zero, List.set_cons_succ]
        intro K hK
        rw [if_pos (by rfl)]
        go_simp
        exact hK.out _ _ ⟨true, b1, b2, b3, b4, b5, b6, b7, b8, b9, b10, b11, (.pointer (some ⟨p, 0, none⟩)), x6, x7, x8, x9, x10, x11, x12, x13, x14, x15, x4, (by simp only [Act.put, List.setIfInBounds_toArray, List.set_cons_zero, List.set_cons_succ]), (by simp only [Act.put, List.setIfInBounds_toArray, List.set_cons_zero, List.set_cons_succ]), hb, (fun _ => rfl), cd1, cd2, cd3, cd4, cd5, cd6, cd7, cd8, cd9, cd10, cd11⟩
      · rintro L a w ⟨b0, b1, b2, b3, b4, b5, b6, b7, b8, b9, b10, b11, x5, x6, x7, x8, x9, x10, x11, x12, x13, x14, x15, x4, rfl, rfl, hb, cd0, cd1, cd2, cd3, cd4, cd5, cd6, cd7, cd8, cd9, cd10, cd11⟩ hf hd
        have hf' : b1 = false := hf
        subst hf'
        have d0 : b0 = true := hd ⟨0, .data⟩ (by simp) rfl
        subst d0
        obtain rfl := cd0.out rfl
        clear hf hd
        try simp only [List.setIfInBounds_toArray, List.set_cons_zero, List.set_cons_succ]
        have z0 := (hb.cell hpB).trans c0
        intro K hK
        rw [if_pos (by rfl)]
        go_simp
        exact hK.out _ _ ⟨true, true, b2, b3, b4, b5, b6, b7, b8, b9, b10, b11, .pointer (some ⟨p, 0, none⟩), (.slice ho hn hc), x7, x8, x9, x10, x11, x12, x13, x14, x15, x4, (by simp only [Act.put, List.setIfInBounds_toArray, List.set_cons_zero, List.set_cons_succ]), (by simp only [Act.put, List.setIfInBounds_toArray, List.set_cons_zero, List.set_cons_succ]), hb, (fun _ => rfl), (fun _ => rfl), cd2, cd3, cd4, cd5, cd6, cd7, cd8, cd9, cd10, cd11⟩
      · rintro L a w ⟨b0, b1, b2, b3, b4, b5, b6, b7, b8, b9, b10, b11, x5, x6, x7, x8, x9, x10, x11, x12, x13, x14, x15, x4, rfl, rfl, hb, cd0, cd1, cd2, cd3, cd4, cd5, cd6, cd7, cd8, cd9, cd10, cd11⟩ hf hd
        have hf' : b2 = false := hf
        subst hf'
        clear hf hd
        try simp only [List.setIfInBounds_toArray, List.set_cons_zero, List.set_cons_succ]
        have z0 := (hb.cell hqB).trans d0
        have z1 := (hb.cell hqB).trans d1
        have z2 := (hb.cell hqB).trans d2
        intro K hK
        rw [if_pos (by rfl)]
        go_simp
        exact hK.out _ _ ⟨b0, b1, true, b3, b4, b5, b6, b7, b8, b9, b10, b11, x5, x6, (.agg #[.int .i64 s, .string (bsOf t), .bool x]), x8, x9, x10, x11, x12, x13, x14, x15, x4, (by simp only [Act.put, List.setIfInBounds_toArray, List.set_cons_zero, List.set_cons_succ]), (by simp only [Act.put, List.setIfInBounds_toArray, List.set_cons_zero, List.set_cons_succ]), hb, cd0, cd1, (fun _ => rfl), cd3, cd4, cd5, cd6, cd7, cd8, cd9, cd10, cd11⟩
      · rintro L a w ⟨b0, b1, b2, b3, b4, b5, b6, b7, b8, b9, b10, b11, x5, x6, x7, x8, x9, x10, x11, x12, x13, x14, x15, x4, rfl, rfl, hb, cd0, cd1, cd2, cd3, cd4, cd5, cd6, cd7, cd8, cd9, cd10, cd11⟩ hf hd
        have hf' : b3 = false := hf
        subst hf'
        have d1 : b1 = true := hd ⟨1, .data⟩ (by simp) rfl
        subst d1
        have d2 : b2 = true := hd ⟨2, .data⟩ (by simp) rfl
        subst d2
        obtain rfl := cd1.out rfl
        obtain rfl := cd2.out rfl
        clear hf hd
        try simp only [List.setIfInBounds_toArray, List.set_cons_zero, List.set_cons_succ]
        intro K hK
        rw [if_pos (by rfl)]
        go_simp
        go_at_call 154
        refine (HC1 _ hb).mono ?_
        rintro e w' ⟨rfl, bx⟩
        exact hK.out _ _ ⟨b0, true, true, true, b4, b5, b6, b7, b8, b9, b10, b11, x5, .slice ho hn hc, .agg #[.int .i64 s, .string (bsOf t), .bool x], (.bool false), x9, x10, x11, x12, x13, x14, x15, x4, (by simp only [Act.put, List.setIfInBounds_toArray, List.set_cons_zero, List.set_cons_succ]), (by simp only [Act.put, List.setIfInBounds_toArray, List.set_cons_zero, List.set_cons_succ]), hb.trans (bx.mono (Nat.le_trans hB0 hb.size)), cd0, (fun _ => rfl), (fun _ => rfl), (fun _ => rfl), cd4, cd5, cd6, cd7, cd8, cd9, cd10, cd11⟩
      · rintro L a w ⟨b0, b1, b2, b3, b4, b5, b6, b7, b8, b9, b10, b11, x5, x6, x7, x8, x9, x10, x11, x12, x13, x14, x15, x4, rfl, rfl, hb, cd0, cd1, cd2, cd3, cd4, cd5, cd6, cd7, cd8, cd9, cd10, cd11⟩ hf hd
        have hf' : b4 = false := hf
        subst hf'
        have d3 : b3 = true := hd ⟨3, .data⟩ (by simp) rfl
        subst d3
        obtain rfl := cd3.out rfl
        clear hf hd
        try simp only [List.setIfInBounds_toArray, List.set_cons_zero, List.set_cons_succ]
        intro K hK
        rw [if_pos (by rfl)]
        go_simp
        exact hK.out _ _ ⟨b0, b1, b2, true, true, b5, b6, b7, b8, b9, b10, b11, x5, x6, x7, .bool false, (.bool false), x10, x11, x12, x13, x14, x15, x4, (by simp only [Act.put, List.setIfInBounds_toArray, List.set_cons_zero, List.set_cons_succ]), (by simp only [Act.put, List.setIfInBounds_toArray, List.set_cons_zero, List.set_cons_succ]), hb, cd0, cd1, cd2, (fun _ => rfl), (fun _ => rfl), cd5, cd6, cd7, cd8, cd9, cd10, cd11⟩
      · rintro L a w ⟨b0, b1, b2, b3, b4, b5, b6, b7, b8, b9, b10, b11, x5, x6, x7, x8, x9, x10, x11, x12, x13, x14, x15, x4, rfl, rfl, hb, cd0, cd1, cd2, cd3, cd4, cd5, cd6, cd7, cd8, cd9, cd10, cd11⟩ hf hd
        have hf' : b5 = false := hf
        subst hf'
        have d4 : b4 = true := hd ⟨4, .guard⟩ (by simp) rfl
        subst d4
        obtain rfl := cd4.out rfl
        clear hf hd
        try simp only [List.setIfInBounds_toArray, List.set_cons_zero, List.set_cons_succ]
        intro K hK
        rw [if_pos (by rfl)]
        go_simp
        exact hK.out _ _ ⟨b0, b1, b2, b3, true, true, b6, b7, b8, b9, b10, b11, x5, x6, x7, x8, .bool false, (.pointer (some ⟨p, 0, none⟩)), x11, x12, x13, x14, x15, x4, (by simp only [Act.put, List.setIfInBounds_toArray, List.set_cons_zero, List.set_cons_succ]), (by simp only [Act.put, List.setIfInBounds_toArray, List.set_cons_zero, List.set_cons_succ]), hb, cd0, cd1, cd2, cd3, (fun _ => rfl), (fun _ => rfl), cd6, cd7, cd8, cd9, cd10, cd11⟩
      · rintro L a w ⟨b0, b1, b2, b3, b4, b5, b6, b7, b8, b9, b10, b11, x5, x6, x7, x8, x9, x10, x11, x12, x13, x14, x15, x4, rfl, rfl, hb, cd0, cd1, cd2, cd3, cd4, cd5, cd6, cd7, cd8, cd9, cd10, cd11⟩ hf hd
        have hf' : b6 = false := hf
        subst hf'
        have d5 : b5 = true := hd ⟨5, .data⟩ (by simp) rfl
        subst d5
        have d4 : b4 = true := hd ⟨4, .guard⟩ (by simp) rfl
        subst d4
        obtain rfl := cd5.out rfl
        obtain rfl := cd4.out rfl
        clear hf hd
        try simp only [List.setIfInBounds_toArray, List.set_cons_zero, List.set_cons_succ]
        have z0 := (hb.cell hpB).trans c0
        intro K hK
        rw [if_pos (by rfl)]
        go_simp
        exact hK.out _ _ ⟨b0, b1, b2, b3, true, true, true, b7, b8, b9, b10, b11, x5, x6, x7, x8, .bool false, .pointer (some ⟨p, 0, none⟩), (.slice ho hn hc), x12, x13, x14, x15, x4, (by simp only [Act.put, List.setIfInBounds_toArray, List.set_cons_zero, List.set_cons_succ]), (by simp only [Act.put, List.setIfInBounds_toArray, List.set_cons_zero, List.set_cons_succ]), hb, cd0, cd1, cd2, cd3, (fun _ => rfl), (fun _ => rfl), (fun _ => rfl), cd7, cd8, cd9, cd10, cd11⟩
      · rintro L a w ⟨b0, b1, b2, b3, b4, b5, b6, b7, b8, b9, b10, b11, x5, x6, x7, x8, x9, x10, x11, x12, x13, x14, x15, x4, rfl, rfl, hb, cd0, cd1, cd2, cd3, cd4, cd5, cd6, cd7, cd8, cd9, cd10, cd11⟩ hf hd
        have hf' : b7 = false := hf
        subst hf'
        have d4 : b4 = true := hd ⟨4, .guard⟩ (by simp) rfl
        subst d4
        obtain rfl := cd4.out rfl
        clear hf hd
        try simp only [List.setIfInBounds_toArray, List.set_cons_zero, List.set_cons_succ]
        have z0 := (hb.cell hqB).trans d0
        have z1 := (hb.cell hqB).trans d1
        have z2 := (hb.cell hqB).trans d2
        intro K hK
        rw [if_pos (by rfl)]
        go_simp
        exact hK.out _ _ ⟨b0, b1, b2, b3, true, b5, b6, true, b8, b9, b10, b11, x5, x6, x7, x8, .bool false, x10, x11, (.agg #[.int .i64 s, .string (bsOf t), .bool x]), x13, x14, x15, x4, (by simp only [Act.put, List.setIfInBounds_toArray, List.set_cons_zero, List.set_cons_succ]), (by simp only [Act.put, List.setIfInBounds_toArray, List.set_cons_zero, List.set_cons_succ]), hb, cd0, cd1, cd2, cd3, (fun _ => rfl), cd5, cd6, (fun _ => rfl), cd8, cd9, cd10, cd11⟩
      · rintro L a w ⟨b0, b1, b2, b3, b4, b5, b6, b7, b8, b9, b10, b11, x5, x6, x7, x8, x9, x10, x11, x12, x13, x14, x15, x4, rfl, rfl, hb, cd0, cd1, cd2, cd3, cd4, cd5, cd6, cd7, cd8, cd9, cd10, cd11⟩ hf hd
        have hf' : b8 = false := hf
        subst hf'
        have d7 : b7 = true := hd ⟨7, .data⟩ (by simp) rfl
        subst d7
        have d4 : b4 = true := hd ⟨4, .chain⟩ (by simp) rfl
        subst d4
        obtain rfl := cd7.out rfl
        obtain rfl := cd4.out rfl
        clear hf hd
        try simp only [List.setIfInBounds_toArray, List.set_cons_zero, List.set_cons_succ]
        intro K hK
        rw [if_pos (by rfl)]
        go_simp
        go_at_call 155
        refine (HA _).mono ?_
        rintro e w' ⟨rfl, bx⟩
        exact hK.out _ _ ⟨b0, b1, b2, b3, true, b5, b6, true, true, b9, b10, b11, x5, x6, x7, x8, .bool false, x10, x11, .agg #[.int .i64 s, .string (bsOf t), .bool x], (.agg #[.int .i64 s, .string (bsOf t), .bool true]), x14, x15, x4, (by simp only [Act.put, List.setIfInBounds_toArray, List.set_cons_zero, List.set_cons_succ]), (by simp only [Act.put, List.setIfInBounds_toArray, List.set_cons_zero, List.set_cons_succ]), hb.trans (bx.mono (Nat.le_trans hB0 hb.size)), cd0, cd1, cd2, cd3, (fun _ => rfl), cd5, cd6, (fun _ => rfl), (fun _ => rfl), cd9, cd10, cd11⟩
      · rintro L a w ⟨b0, b1, b2, b3, b4, b5, b6, b7, b8, b9, b10, b11, x5, x6, x7, x8, x9, x10, x11, x12, x13, x14, x15, x4, rfl, rfl, hb, cd0, cd1, cd2, cd3, cd4, cd5, cd6, cd7, cd8, cd9, cd10, cd11⟩ hf hd
        have hf' : b9 = false := hf
        subst hf'
        have d6 : b6 = true := hd ⟨6, .data⟩ (by simp) rfl
        subst d6
        have d8 : b8 = true := hd ⟨8, .data⟩ (by simp) rfl
        subst d8
        have d4 : b4 = true := hd ⟨4, .guard⟩ (by simp) rfl
        subst d4
        obtain rfl := cd6.out rfl
        obtain rfl := cd8.out rfl
        obtain rfl := cd4.out rfl
        clear hf hd
        try simp only [List.setIfInBounds_toArray, List.set_cons_zero, List.set_cons_succ]
        intro K hK
        rw [if_pos (by rfl)]
        go_simp
        go_at_call 154
        refine (HC2 _ hb).mono ?_
        rintro e w' ⟨rfl, bx⟩
        exact hK.out _ _ ⟨b0, b1, b2, b3, true, b5, true, b7, true, true, b10, b11, x5, x6, x7, x8, .bool false, x10, .slice ho hn hc, x12, .agg #[.int .i64 s, .string (bsOf t), .bool true], (.bool B2), x15, x4, (by simp only [Act.put, List.setIfInBounds_toArray, List.set_cons_zero, List.set_cons_succ]), (by simp only [Act.put, List.setIfInBounds_toArray, List.set_cons_zero, List.set_cons_succ]), hb.trans (bx.mono (Nat.le_trans hB0 hb.size)), cd0, cd1, cd2, cd3, (fun _ => rfl), cd5, (fun _ => rfl), cd7, (fun _ => rfl), (fun _ => rfl), cd10, cd11⟩
      · rintro L a w ⟨b0, b1, b2, b3, b4, b5, b6, b7, b8, b9, b10, b11, x5, x6, x7, x8, x9, x10, x11, x12, x13, x14, x15, x4, rfl, rfl, hb, cd0, cd1, cd2, cd3, cd4, cd5, cd6, cd7, cd8, cd9, cd10, cd11⟩ hf hd
        have hf' : b10 = false := hf
        subst hf'
        have d4 : b4 = true := hd ⟨4, .data⟩ (by simp) rfl
        subst d4
        have d9 : b9 = true := hd ⟨9, .data⟩ (by simp) rfl
        subst d9
        obtain rfl := cd4.out rfl
        obtain rfl := cd9.out rfl
        clear hf hd
        try simp only [List.setIfInBounds_toArray, List.set_cons_zero, List.set_cons_succ]
        intro K hK
        rw [if_pos (by rfl)]
        go_simp
        exact hK.out _ _ ⟨b0, b1, b2, b3, true, b5, b6, b7, b8, true, true, b11, x5, x6, x7, x8, .bool false, x10, x11, x12, x13, .bool B2, (.bool B2), x4, (by simp only [Act.put, List.setIfInBounds_toArray, List.set_cons_zero, List.set_cons_succ]), (by simp only [Act.put, List.setIfInBounds_toArray, List.set_cons_zero, List.set_cons_succ]), hb, cd0, cd1, cd2, cd3, (fun _ => rfl), cd5, cd6, cd7, cd8, (fun _ => rfl), (fun _ => rfl), cd11⟩
      · rintro L a w ⟨b0, b1, b2, b3, b4, b5, b6, b7, b8, b9, b10, b11, x5, x6, x7, x8, x9, x10, x11, x12, x13, x14, x15, x4, rfl, rfl, hb, cd0, cd1, cd2, cd3, cd4, cd5, cd6, cd7, cd8, cd9, cd10, cd11⟩ hf hd
        have hf' : b11 = false := hf
        subst hf'
        have d10 : b10 = true := hd ⟨10, .data⟩ (by simp) rfl
        subst d10
        have d9 : b9 = true := hd ⟨9, .chain⟩ (by simp) rfl
        subst d9
        have d0 : b0 = true := hd ⟨0, .phase⟩ (by simp) rfl
        subst d0
        have d1 : b1 = true := hd ⟨1, .phase⟩ (by simp) rfl
        subst d1
        have d2 : b2 = true := hd ⟨2, .phase⟩ (by simp) rfl
        subst d2
        have d3 : b3 = true := hd ⟨3, .phase⟩ (by simp) rfl
        subst d3
        have d4 : b4 = true := hd ⟨4, .phase⟩ (by simp) rfl
        subst d4
        have d5 : b5 = true := hd ⟨5, .phase⟩ (by simp) rfl
        subst d5
        have d6 : b6 = true := hd ⟨6, .phase⟩ (by simp) rfl
        subst d6
        have d7 : b7 = true := hd ⟨7, .phase⟩ (by simp) rfl
        subst d7
        have d8 : b8 = true := hd ⟨8, .phase⟩ (by simp) rfl
        subst d8
        obtain rfl := cd10.out rfl
        obtain rfl := cd9.out rfl
        obtain rfl := cd0.out rfl
        obtain rfl := cd1.out rfl
        obtain rfl := cd2.out rfl
        obtain rfl := cd3.out rfl
        obtain rfl := cd4.out rfl
        obtain rfl := cd5.out rfl
        obtain rfl := cd6.out rfl
        obtain rfl := cd7.out rfl
        obtain rfl := cd8.out rfl
        clear hf hd
        try simp only [List.setIfInBounds_toArray, List.set_cons_zero, List.set_cons_succ]
        intro K hK
        rw [if_pos (by rfl)]
        go_simp
        exact hK.out _ _ ⟨true, true, true, true, true, true, true, true, true, true, true, true, .pointer (some ⟨p, 0, none⟩), .slice ho hn hc, .agg #[.int .i64 s, .string (bsOf t), .bool x], .bool false, .bool false, .pointer (some ⟨p, 0, none⟩), .slice ho hn hc, .agg #[.int .i64 s, .string (bsOf t), .bool x], .agg #[.int .i64 s, .string (bsOf t), .bool true], .bool B2, .bool B2, (.bool B2), (by simp only [Act.put, List.setIfInBounds_toArray, List.set_cons_zero, List.set_cons_succ]), (by simp only [Act.put, List.setIfInBounds_toArray, List.set_cons_zero, List.set_cons_succ]), hb, (fun _ => rfl), (fun _ => rfl), (fun _ => rfl), (fun _ => rfl), (fun _ => rfl), (fun _ => rfl), (fun _ => rfl), (fun _ => rfl), (fun _ => rfl), (fun _ => rfl), (fun _ => rfl), (fun _ => rfl)⟩
    · rintro act V ⟨b0, b1, b2, b3, b4, b5, b6, b7, b8, b9, b10, b11, x5, x6, x7, x8, x9, x10, x11, x12, x13, x14, x15, x4, hL, rfl, hb, cd0, cd1, cd2, cd3, cd4, cd5, cd6, cd7, cd8, cd9, cd10, cd11⟩
      have hL' : [true, true, true, true, true, true, true, true, true, true, true, true] = [b0, b1, b2, b3, b4, b5, b6, b7, b8, b9, b10, b11] := congrArg Array.toList hL
      simp only [List.cons.injEq, and_true] at hL'
      obtain ⟨rfl, rfl, rfl, rfl, rfl, rfl, rfl, rfl, rfl, rfl, rfl, rfl⟩ := hL'
      obtain rfl := cd0.out rfl
      obtain rfl := cd1.out rfl
      obtain rfl := cd2.out rfl
      obtain rfl := cd3.out rfl
      obtain rfl := cd4.out rfl
      obtain rfl := cd5.out rfl
      obtain rfl := cd6.out rfl
      obtain rfl := cd7.out rfl
      obtain rfl := cd8.out rfl
      obtain rfl := cd9.out rfl
      obtain rfl := cd10.out rfl
      obtain rfl := cd11.out rfl
      clear hL cd0 cd1 cd2 cd3 cd4 cd5 cd6 cd7 cd8 cd9 cd10 cd11
      simp only [List.setIfInBounds_toArray, List.set_cons_zero, List.set_cons_succ]
      go_wp2_with fail
      go_ret
      exact ⟨by rw [HR.out]; rfl, by rw [HP.out]; exact BA.trans (((Below.refl _ _).drew.trans hb).mono hpW)⟩
  · have HR := HCov
    rw [Bool.true_or] at HR
    clear HCov
    refine region_inv (CovB W.heap.size p q ho hn hc s t x B2) (by kernel_rfl) (by kernel_rfl) ?_ ?_ ?_
    · exact ⟨false, false, false, false, false, false, false, false, false, false, false, false, undef, undef, undef, undef, undef, undef, undef, undef, undef, undef, undef, .bool false, rfl, (by simp only [Act.put, List.setIfInBounds_toArray, List.set_cons_zero, List.set_cons_succ]), Below.refl _ _, (fun h => by cases h), (fun h => by cases h), (fun h => by cases h), (fun h => by cases h), (fun h => by cases h), (fun h => by cases h), (fun h => by cases h), (fun h => by cases h), (fun h => by cases h), (fun h => by cases h), (fun h => by cases h), (fun h => by cases h)⟩
    · refine ⟨?_, ?_, ?_, ?_, ?_, ?_, ?_, ?_, ?_, ?_, ?_, ?_, trivial⟩
      · rintro L a w ⟨b0, b1, b2, b3, b4, b5, b6, b7, b8, b9, b10, b11, x5, x6, x7, x8, x9, x10, x11, x12, x13, x14, x15, x4, rfl, rfl, hb, cd0, cd1, cd2, cd3, cd4, cd5, cd6, cd7, cd8, cd9, cd10, cd11⟩ hf hd
        have hf' : b0 = false := hf
        subst hf'
        clear hf hd
        try simp only [List.setIfInBounds_toArray, List.set_cons_zero, List.set_cons_succ]
        intro K hK
        rw [if_pos (by rfl)]
        go_simp
        exact hK.out _ _ ⟨true, b1, b2, b3, b4, b5, b6, b7, b8, b9, b10, b11, (.pointer (some ⟨p, 0, none⟩)), x6, x7, x8, x9, x10, x11, x12, x13, x14, x15, x4, (by simp only [Act.put, List.setIfInBounds_toArray, List.set_cons_zero, List.set_cons_succ]), (by simp only [Act.put, List.setIfInBounds_toArray, List.set_cons_zero, List.set_cons_succ]), hb, (fun _ => rfl), cd1, cd2, cd3, cd4, cd5, cd6, cd7, cd8, cd9, cd10, cd11⟩
      · rintro L a w ⟨b0, b1, b2, b3, b4, b5, b6, b7, b8, b9, b10, b11, x5, x6, x7, x8, x9, x10, x11, x12, x13, x14, x15, x4, rfl, rfl, hb, cd0, cd1, cd2, cd3, cd4, cd5, cd6, cd7, cd8, cd9, cd10, cd11⟩ hf hd
        have hf' : b1 = false := hf
        subst hf'
        have d0 : b0 = true := hd ⟨0, .data⟩ (by simp) rfl
        subst d0
        obtain rfl := cd0.out rfl
        clear hf hd
        try simp only [List.setIfInBounds_toArray, List.set_cons_zero, List.set_cons_succ]
        have z0 := (hb.cell hpB).trans c0
        intro K hK
        rw [if_pos (by rfl)]
        go_simp
        exact hK.out _ _ ⟨true, true, b2, b3, b4, b5, b6, b7, b8, b9, b10, b11, .pointer (some ⟨p, 0, none⟩), (.slice ho hn hc), x7, x8, x9, x10, x11, x12, x13, x14, x15, x4, (by simp only [Act.put, List.setIfInBounds_toArray, List.set_cons_zero, List.set_cons_succ]), (by simp only [Act.put, List.setIfInBounds_toArray, List.set_cons_zero, List.set_cons_succ]), hb, (fun _ => rfl), (fun _ => rfl), cd2, cd3, cd4, cd5, cd6, cd7, cd8, cd9, cd10, cd11⟩
      · rintro L a w ⟨b0, b1, b2, b3, b4, b5, b6, b7, b8, b9, b10, b11, x5, x6, x7, x8, x9, x10, x11, x12, x13, x14, x15, x4, rfl, rfl, hb, cd0, cd1, cd2, cd3, cd4, cd5, cd6, cd7, cd8, cd9, cd10, cd11⟩ hf hd
        have hf' : b2 = false := hf
        subst hf'
        clear hf hd
        try simp only [List.setIfInBounds_toArray, List.set_cons_zero, List.set_cons_succ]
        have z0 := (hb.cell hqB).trans d0
        have z1 := (hb.cell hqB).trans d1
        have z2 := (hb.cell hqB).trans d2
        intro K hK
        rw [if_pos (by rfl)]
        go_simp
        exact hK.out _ _ ⟨b0, b1, true, b3, b4, b5, b6, b7, b8, b9, b10, b11, x5, x6, (.agg #[.int .i64 s, .string (bsOf t), .bool x]), x8, x9, x10, x11, x12, x13, x14, x15, x4, (by simp only [Act.put, List.setIfInBounds_toArray, List.set_cons_zero, List.set_cons_succ]), (by simp only [Act.put, List.setIfInBounds_toArray, List.set_cons_zero, List.set_cons_succ]), hb, cd0, cd1, (fun _ => rfl), cd3, cd4, cd5, cd6, cd7, cd8, cd9, cd10, cd11⟩
      · rintro L a w ⟨b0, b1, b2, b3, b4, b5, b6, b7, b8, b9, b10, b11, x5, x6, x7, x8, x9, x10, x11, x12, x13, x14, x15, x4, rfl, rfl, hb, cd0, cd1, cd2, cd3, cd4, cd5, cd6, cd7, cd8, cd9, cd10, cd11⟩ hf hd
        have hf' : b3 = false := hf
        subst hf'
        have d1 : b1 = true := hd ⟨1, .data⟩ (by simp) rfl
        subst d1
        have d2 : b2 = true := hd ⟨2, .data⟩ (by simp) rfl
        subst d2
        obtain rfl := cd1.out rfl
        obtain rfl := cd2.out rfl
        clear hf hd
        try simp only [List.setIfInBounds_toArray, List.set_cons_zero, List.set_cons_succ]
        intro K hK
        rw [if_pos (by rfl)]
        go_simp
        go_at_call 154
        refine (HC1 _ hb).mono ?_
        rintro e w' ⟨rfl, bx⟩
        exact hK.out _ _ ⟨b0, true, true, true, b4, b5, b6, b7, b8, b9, b10, b11, x5, .slice ho hn hc, .agg #[.int .i64 s, .string (bsOf t), .bool x], (.bool true), x9, x10, x11, x12, x13, x14, x15, x4, (by simp only [Act.put, List.setIfInBounds_toArray, List.set_cons_zero, List.set_cons_succ]), (by simp only [Act.put, List.setIfInBounds_toArray, List.set_cons_zero, List.set_cons_succ]), hb.trans (bx.mono (Nat.le_trans hB0 hb.size)), cd0, (fun _ => rfl), (fun _ => rfl), (fun _ => rfl), cd4, cd5, cd6, cd7, cd8, cd9, cd10, cd11⟩
      · rintro L a w ⟨b0, b1, b2, b3, b4, b5, b6, b7, b8, b9, b10, b11, x5, x6, x7, x8, x9, x10, x11, x12, x13, x14, x15, x4, rfl, rfl, hb, cd0, cd1, cd2, cd3, cd4, cd5, cd6, cd7, cd8, cd9, cd10, cd11⟩ hf hd
        have hf' : b4 = false := hf
        subst hf'
        have d3 : b3 = true := hd ⟨3, .data⟩ (by simp) rfl
        subst d3
        obtain rfl := cd3.out rfl
        clear hf hd
        try simp only [List.setIfInBounds_toArray, List.set_cons_zero, List.set_cons_succ]
        intro K hK
        rw [if_pos (by rfl)]
        go_simp
        exact hK.out _ _ ⟨b0, b1, b2, true, true, b5, b6, b7, b8, b9, b10, b11, x5, x6, x7, .bool true, (.bool true), x10, x11, x12, x13, x14, x15, x4, (by simp only [Act.put, List.setIfInBounds_toArray, List.set_cons_zero, List.set_cons_succ]), (by simp only [Act.put, List.setIfInBounds_toArray, List.set_cons_zero, List.set_cons_succ]), hb, cd0, cd1, cd2, (fun _ => rfl), (fun _ => rfl), cd5, cd6, cd7, cd8, cd9, cd10, cd11⟩
      · rintro L a w ⟨b0, b1, b2, b3, b4, b5, b6, b7, b8, b9, b10, b11, x5, x6, x7, x8, x9, x10, x11, x12, x13, x14, x15, x4, rfl, rfl, hb, cd0, cd1, cd2, cd3, cd4, cd5, cd6, cd7, cd8, cd9, cd10, cd11⟩ hf hd
        have hf' : b5 = false := hf
        subst hf'
        have d4 : b4 = true := hd ⟨4, .guard⟩ (by simp) rfl
        subst d4
        obtain rfl := cd4.out rfl
        clear hf hd
        try simp only [List.setIfInBounds_toArray, List.set_cons_zero, List.set_cons_succ]
        intro K hK
        rw [if_neg (Bool.eq_false_iff.1 (by rfl))]
        exact hK.out _ _ ⟨b0, b1, b2, b3, true, true, b6, b7, b8, b9, b10, b11, x5, x6, x7, x8, .bool true, (undef), x11, x12, x13, x14, x15, x4, (by simp only [Act.put, List.setIfInBounds_toArray, List.set_cons_zero, List.set_cons_succ]), (by simp only [Act.put, List.setIfInBounds_toArray, List.set_cons_zero, List.set_cons_succ]), hb, cd0, cd1, cd2, cd3, (fun _ => rfl), (fun _ => rfl), cd6, cd7, cd8, cd9, cd10, cd11⟩
      · rintro L a w ⟨b0, b1, b2, b3, b4, b5, b6, b7, b8, b9, b10, b11, x5, x6, x7, x8, x9, x10, x11, x12, x13, x14, x15, x4, rfl, rfl, hb, cd0, cd1, cd2, cd3, cd4, cd5, cd6, cd7, cd8, cd9, cd10, cd11⟩ hf hd
        have hf' : b6 = false := hf
        subst hf'
        have d5 : b5 = true := hd ⟨5, .data⟩ (by simp) rfl
        subst d5
        have d4 : b4 = true := hd ⟨4, .guard⟩ (by simp) rfl
        subst d4
        obtain rfl := cd5.out rfl
        obtain rfl := cd4.out rfl
        clear hf hd
        try simp only [List.setIfInBounds_toArray, List.set_cons_zero, List.set_cons_succ]
        intro K hK
        rw [if_neg (Bool.eq_false_iff.1 (by rfl))]
        exact hK.out _ _ ⟨b0, b1, b2, b3, true, true, true, b7, b8, b9, b10, b11, x5, x6, x7, x8, .bool true, undef, (undef), x12, x13, x14, x15, x4, (by simp only [Act.put, List.setIfInBounds_toArray, List.set_cons_zero, List.set_cons_succ]), (by simp only [Act.put, List.setIfInBounds_toArray, List.set_cons_zero, List.set_cons_succ]), hb, cd0, cd1, cd2, cd3, (fun _ => rfl), (fun _ => rfl), (fun _ => rfl), cd7, cd8, cd9, cd10, cd11⟩
      · rintro L a w ⟨b0, b1, b2, b3, b4, b5, b6, b7, b8, b9, b10, b11, x5, x6, x7, x8, x9, x10, x11, x12, x13, x14, x15, x4, rfl, rfl, hb, cd0, cd1, cd2, cd3, cd4, cd5, cd6, cd7, cd8, cd9, cd10, cd11⟩ hf hd
        have hf' : b7 = false := hf
        subst hf'
        have d4 : b4 = true := hd ⟨4, .guard⟩ (by simp) rfl
        subst d4
        obtain rfl := cd4.out rfl
        clear hf hd
        try simp only [List.setIfInBounds_toArray, List.set_cons_zero, List.set_cons_succ]
        intro K hK
        rw [if_neg (Bool.eq_false_iff.1 (by rfl))]
        exact hK.out _ _ ⟨b0, b1, b2, b3, true, b5, b6, true, b8, b9, b10, b11, x5, x6, x7, x8, .bool true, x10, x11, (undef), x13, x14, x15, x4, (by simp only [Act.put, List.setIfInBounds_toArray, List.set_cons_zero, List.set_cons_succ]), (by simp only [Act.put, List.setIfInBounds_toArray, List.set_cons_zero, List.set_cons_succ]), hb, cd0, cd1, cd2, cd3, (fun _ => rfl), cd5, cd6, (fun _ => rfl), cd8, cd9, cd10, cd11⟩
      · rintro L a w ⟨b0, b1, b2, b3, b4, b5, b6, b7, b8, b9, b10, b11, x5, x6, x7, x8, x9, x10, x11, x12, x13, x14, x15, x4, rfl, rfl, hb, cd0, cd1, cd2, cd3, cd4, cd5, cd6, cd7, cd8, cd9, cd10, cd11⟩ hf hd
        have hf' : b8 = false := hf
        subst hf'
        have d7 : b7 = true := hd ⟨7, .data⟩ (by simp) rfl
        subst d7
        have d4 : b4 = true := hd ⟨4, .chain⟩ (by simp) rfl
        subst d4
        obtain rfl := cd7.out rfl
        obtain rfl := cd4.out rfl
        clear hf hd
        try simp only [List.setIfInBounds_toArray, List.set_cons_zero, List.set_cons_succ]
        intro K hK
        rw [if_neg (Bool.eq_false_iff.1 (by rfl))]
        exact hK.out _ _ ⟨b0, b1, b2, b3, true, b5, b6, true, true, b9, b10, b11, x5, x6, x7, x8, .bool true, x10, x11, undef, (undef), x14, x15, x4, (by simp only [Act.put, List.setIfInBounds_toArray, List.set_cons_zero, List.set_cons_succ]), (by simp only [Act.put, List.setIfInBounds_toArray, List.set_cons_zero, List.set_cons_succ]), hb, cd0, cd1, cd2, cd3, (fun _ => rfl), cd5, cd6, (fun _ => rfl), (fun _ => rfl), cd9, cd10, cd11⟩
      · rintro L a w ⟨b0, b1, b2, b3, b4, b5, b6, b7, b8, b9, b10, b11, x5, x6, x7, x8, x9, x10, x11, x12, x13, x14, x15, x4, rfl, rfl, hb, cd0, cd1, cd2, cd3, cd4, cd5, cd6, cd7, cd8, cd9, cd10, cd11⟩ hf hd
        have hf' : b9 = false := hf
        subst hf'
        have d6 : b6 = true := hd ⟨6, .data⟩ (by simp) rfl
        subst d6
        have d8 : b8 = true := hd ⟨8, .data⟩ (by simp) rfl
        subst d8
        have d4 : b4 = true := hd ⟨4, .guard⟩ (by simp) rfl
        subst d4
        obtain rfl := cd6.out rfl
        obtain rfl := cd8.out rfl
        obtain rfl := cd4.out rfl
        clear hf hd
        try simp only [List.setIfInBounds_toArray, List.set_cons_zero, List.set_cons_succ]
        intro K hK
        rw [if_neg (Bool.eq_false_iff.1 (by rfl))]
        exact hK.out _ _ ⟨b0, b1, b2, b3, true, b5, true, b7, true, true, b10, b11, x5, x6, x7, x8, .bool true, x10, undef, x12, undef, (undef), x15, x4, (by simp only [Act.put, List.setIfInBounds_toArray, List.set_cons_zero, List.set_cons_succ]), (by simp only [Act.put, List.setIfInBounds_toArray, List.set_cons_zero, List.set_cons_succ]), hb, cd0, cd1, cd2, cd3, (fun _ => rfl), cd5, (fun _ => rfl), cd7, (fun _ => rfl), (fun _ => rfl), cd10, cd11⟩
      · rintro L a w ⟨b0, b1, b2, b3, b4, b5, b6, b7, b8, b9, b10, b11, x5, x6, x7, x8, x9, x10, x11, x12, x13, x14, x15, x4, rfl, rfl, hb, cd0, cd1, cd2, cd3, cd4, cd5, cd6, cd7, cd8, cd9, cd10, cd11⟩ hf hd
        have hf' : b10 = false := hf
        subst hf'
        have d4 : b4 = true := hd ⟨4, .data⟩ (by simp) rfl
        subst d4
        have d9 : b9 = true := hd ⟨9, .data⟩ (by simp) rfl
        subst d9
        obtain rfl := cd4.out rfl
        obtain rfl := cd9.out rfl
        clear hf hd
        try simp only [List.setIfInBounds_toArray, List.set_cons_zero, List.set_cons_succ]
        intro K hK
        rw [if_pos (by rfl)]
        go_simp
        exact hK.out _ _ ⟨b0, b1, b2, b3, true, b5, b6, b7, b8, true, true, b11, x5, x6, x7, x8, .bool true, x10, x11, x12, x13, undef, (.bool true), x4, (by simp only [Act.put, List.setIfInBounds_toArray, List.set_cons_zero, List.set_cons_succ]), (by simp only [Act.put, List.setIfInBounds_toArray, List.set_cons_zero, List.set_cons_succ]), hb, cd0, cd1, cd2, cd3, (fun _ => rfl), cd5, cd6, cd7, cd8, (fun _ => rfl), (fun _ => rfl), cd11⟩
      · rintro L a w ⟨b0, b1, b2, b3, b4, b5, b6, b7, b8, b9, b10, b11, x5, x6, x7, x8, x9, x10, x11, x12, x13, x14, x15, x4, rfl, rfl, hb, cd0, cd1, cd2, cd3, cd4, cd5, cd6, cd7, cd8, cd9, cd10, cd11⟩ hf hd
        have hf' : b11 = false := hf
        subst hf'
        have d10 : b10 = true := hd ⟨10, .data⟩ (by simp) rfl
        subst d10
        have d9 : b9 = true := hd ⟨9, .chain⟩ (by simp) rfl
        subst d9
        have d0 : b0 = true := hd ⟨0, .phase⟩ (by simp) rfl
        subst d0
        have d1 : b1 = true := hd ⟨1, .phase⟩ (by simp) rfl
        subst d1
        have d2 : b2 = true := hd ⟨2, .phase⟩ (by simp) rfl
        subst d2
        have d3 : b3 = true := hd ⟨3, .phase⟩ (by simp) rfl
        subst d3
        have d4 : b4 = true := hd ⟨4, .phase⟩ (by simp) rfl
        subst d4
        have d5 : b5 = true := hd ⟨5, .phase⟩ (by simp) rfl
        subst d5
        have d6 : b6 = true := hd ⟨6, .phase⟩ (by simp) rfl
        subst d6
        have d7 : b7 = true := hd ⟨7, .phase⟩ (by simp) rfl
        subst d7
        have d8 : b8 = true := hd ⟨8, .phase⟩ (by simp) rfl
        subst d8
        obtain rfl := cd10.out rfl
        obtain rfl := cd9.out rfl
        obtain rfl := cd0.out rfl
        obtain rfl := cd1.out rfl
        obtain rfl := cd2.out rfl
        obtain rfl := cd3.out rfl
        obtain rfl := cd4.out rfl
        obtain rfl := cd5.out rfl
        obtain rfl := cd6.out rfl
        obtain rfl := cd7.out rfl
        obtain rfl := cd8.out rfl
        clear hf hd
        try simp only [List.setIfInBounds_toArray, List.set_cons_zero, List.set_cons_succ]
        intro K hK
        rw [if_pos (by rfl)]
        go_simp
        exact hK.out _ _ ⟨true, true, true, true, true, true, true, true, true, true, true, true, .pointer (some ⟨p, 0, none⟩), .slice ho hn hc, .agg #[.int .i64 s, .string (bsOf t), .bool x], .bool true, .bool true, undef, undef, undef, undef, undef, .bool true, (.bool true), (by simp only [Act.put, List.setIfInBounds_toArray, List.set_cons_zero, List.set_cons_succ]), (by simp only [Act.put, List.setIfInBounds_toArray, List.set_cons_zero, List.set_cons_succ]), hb, (fun _ => rfl), (fun _ => rfl), (fun _ => rfl), (fun _ => rfl), (fun _ => rfl), (fun _ => rfl), (fun _ => rfl), (fun _ => rfl), (fun _ => rfl), (fun _ => rfl), (fun _ => rfl), (fun _ => rfl)⟩
    · rintro act V ⟨b0, b1, b2, b3, b4, b5, b6, b7, b8, b9, b10, b11, x5, x6, x7, x8, x9, x10, x11, x12, x13, x14, x15, x4, hL, rfl, hb, cd0, cd1, cd2, cd3, cd4, cd5, cd6, cd7, cd8, cd9, cd10, cd11⟩
      have hL' : [true, true, true, true, true, true, true, true, true, true, true, true] = [b0, b1, b2, b3, b4, b5, b6, b7, b8, b9, b10, b11] := congrArg Array.toList hL
      simp only [List.cons.injEq, and_true] at hL'
      obtain ⟨rfl, rfl, rfl, rfl, rfl, rfl, rfl, rfl, rfl, rfl, rfl, rfl⟩ := hL'
      obtain rfl := cd0.out rfl
      obtain rfl := cd1.out rfl
      obtain rfl := cd2.out rfl
      obtain rfl := cd3.out rfl
      obtain rfl := cd4.out rfl
      obtain rfl := cd5.out rfl
      obtain rfl := cd6.out rfl
      obtain rfl := cd7.out rfl
      obtain rfl := cd8.out rfl
      obtain rfl := cd9.out rfl
      obtain rfl := cd10.out rfl
      obtain rfl := cd11.out rfl
      clear hL cd0 cd1 cd2 cd3 cd4 cd5 cd6 cd7 cd8 cd9 cd10 cd11
      simp only [List.setIfInBounds_toArray, List.set_cons_zero, List.set_cons_succ]
      go_wp2_with fail
      go_ret
      exact ⟨by rw [HR.out]; rfl, by rw [HP.out]; exact BA.trans (((Below.refl _ _).drew.trans hb).mono hpW)⟩
end Go.Proofs.Ytllijeciodmckaa
