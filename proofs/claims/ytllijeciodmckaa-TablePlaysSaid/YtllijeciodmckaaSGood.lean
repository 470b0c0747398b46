/-
  The valid schema that the laws make of a raw one (by gen_sgood.py).
-/
import Derived.Test.YtllijeciodmckaaSGoodP
import Derived.Deep.CutRange
namespace Go.Proofs.Ytllijeciodmckaa
open Go.RowKit
set_option linter.unusedSimpArgs false
theorem wp_store_blk {P : Program} {w : World} {o : Oper} {a : Act} {K : Act → World → Prop} {Q : Exit → Act → World → Prop} (ty : TypeId) (x y : Operand) (ho : o.op = .store ty x y)
    (g : Nat) (old cs : Array Value) (hx : a.eval x = .pointer (some ⟨g, 0, none⟩)) (hy : a.eval y = .agg cs) (t : TypeId) (hg : Hid (w.heap[g]? = some (.cells old t (0, 0)))) (N : Nat) (hi : (P.info? ty).map (·.size) = some N) (hl : old.size = N) (hm : cs.size = N) (h1 : cs.all (·.oneCell') = true)
    (hK : ∀ w', Hid (w'.heap[g]? = some (.cells cs t (0, 0))) → w.grownBy w' (some g) → K (a.put o.dst undef) w') : o.wp P a w K Q := by
  refine wp_store_row ty x y ho g cs hx hy t old hg.out (by rw [hi, hm]) (by rw [hl, hm]) h1 (hK _ (setRow_heap w g _ _ _ _ hg.out) ⟨rfl, rfl, rfl, by simp, fun k _ hk => setRow_other w g k _ (fun e => hk (by rw [e]))⟩)
theorem szS : (Try.prog.info? 40).map (·.size) = some 4 := by kernel_rfl
/-- What stands while the region's operations come up. -/
inductive SGood1 (B : Nat) (p : Nat) (nn : Int) (q : Nat) (W1 : Int) (W2 : Int) (LU : List UInt8) (NQ : List UInt8) (only : Bool) (a0 : Act) (w0 : World) (L : Array Bool) (a : Act) (w : World) : Prop
  | mk (b0 b1 b2 b3 b4 b5 b6 b7 b8 b9 b10 b11 : Bool) (x8 x9 x10 x11 x12 x13 x14 x15 x16 x17 x5 : Value) (gb : Nat) (gv : Nat) (hL : L = #[b0, b1, b2, b3, b4, b5, b6, b7, b8, b9, b10, b11]) (ha : a = ⟨(((((((((((a0.tmps.setIfInBounds 8 x8).setIfInBounds 9 x9).setIfInBounds 10 x10).setIfInBounds 11 x11).setIfInBounds 12 x12).setIfInBounds 13 x13).setIfInBounds 14 x14).setIfInBounds 15 x15).setIfInBounds 16 x16).setIfInBounds 17 x17).setIfInBounds 5 x5), a0.defers⟩) (hb : Below B w0 w) (cd0 : Hid (b0 = true → x8 = .int .i64 nn)) (cd1 : Hid (b1 = true → x9 = .int .i64 (q : Nat))) (cd2 : Hid (b2 = true → x10 = .int .i64 W1)) (cd3 : Hid (b3 = true → x11 = .int .u8 W2)) (cd4 : Hid (b4 = true → x12 = .slice (some ⟨gb, 0, none⟩) 1 1)) (cd5 : Hid (b5 = true → x13 = .string ⟨LU.toArray⟩)) (cd6 : Hid (b6 = true → x14 = .string (bsOf NQ))) (cd7 : Hid (b7 = true → x15 = .pointer (some ⟨p, 3, none⟩))) (cd8 : Hid (b8 = true → x16 = .bool only)) (cd9 : Hid (b9 = true → x17 = .agg #[.string (bsOf NQ), .slice none 0 0, .int .i64 0, .bool only])) (cd10 : Hid (b10 = true → x5 = .pointer (some ⟨gv, 0, none⟩))) (f_fb : Hid (b4 = true → b5 = false → IsB w (some ⟨gb, 0, none⟩) 1 1 LU)) (f_fg : Hid (b10 = true → w0.heap.size ≤ gv)) (f_fz : Hid (b10 = true → b11 = false → ScB w gv [] none 0 0 0 false)) (f_fs : Hid (b11 = true → ScB w gv NQ none 0 0 0 only)) (f_o11 : Hid (b11 = true → b10 = true)) : SGood1 B p nn q W1 W2 LU NQ only a0 w0 L a w
/-- What stands while the region's operations come up. -/
inductive SGood7 (B : Nat) (p : Nat) (bb : Nat) (off : Nat) (n : Nat) (c : Nat) (j : Nat) (kd : Int) (wd : Nat) (K1 : Int) (nb : Bool) (nm : List UInt8) (a0 : Act) (w0 : World) (L : Array Bool) (a : Act) (w : World) : Prop
  | mk (b0 b1 b2 b3 b4 b5 b6 b7 b8 b9 b10 b11 b12 b13 b14 b15 b16 b17 : Bool) (x44 x45 x46 x47 x48 x49 x50 x51 x52 x53 x54 x55 x56 x57 x58 x59 : Value) (hL : L = #[b0, b1, b2, b3, b4, b5, b6, b7, b8, b9, b10, b11, b12, b13, b14, b15, b16, b17]) (ha : a = ⟨((((((((((((((((a0.tmps.setIfInBounds 44 x44).setIfInBounds 45 x45).setIfInBounds 46 x46).setIfInBounds 47 x47).setIfInBounds 48 x48).setIfInBounds 49 x49).setIfInBounds 50 x50).setIfInBounds 51 x51).setIfInBounds 52 x52).setIfInBounds 53 x53).setIfInBounds 54 x54).setIfInBounds 55 x55).setIfInBounds 56 x56).setIfInBounds 57 x57).setIfInBounds 58 x58).setIfInBounds 59 x59), a0.defers⟩) (hb : Below B w0 w) (cd0 : Hid (b0 = true → x44 = .pointer (some ⟨p, 1, none⟩))) (cd1 : Hid (b1 = true → x45 = .slice (some ⟨bb, off, none⟩) n c)) (cd2 : Hid (b2 = true → x46 = .int .i64 (j : Nat))) (cd3 : Hid (b3 = true → x47 = .pointer (some ⟨bb, off + j * 3, none⟩))) (cd4 : Hid (b4 = true → x48 = .pointer (some ⟨bb, off + j * 3 + 1, none⟩))) (cd5 : Hid (b5 = true → x49 = .int .i64 kd)) (cd6 : Hid (b6 = true → x50 = .int .i64 (wd : Nat))) (cd7 : Hid (b7 = true → x51 = .int .i64 K1)) (cd8 : Hid (b8 = true → x52 = .pointer (some ⟨p, 1, none⟩))) (cd9 : Hid (b9 = true → x53 = .slice (some ⟨bb, off, none⟩) n c)) (cd10 : Hid (b10 = true → x54 = .int .i64 (j : Nat))) (cd11 : Hid (b11 = true → x55 = .pointer (some ⟨bb, off + j * 3, none⟩))) (cd12 : Hid (b12 = true → x56 = .pointer (some ⟨bb, off + j * 3 + 2, none⟩))) (cd13 : Hid (b13 = true → x57 = .bool nb)) (cd14 : Hid (b14 = true → x58 = .pointer (some ⟨B, 1, none⟩))) (cd16 : Hid (b16 = true → x59 = .pointer (some ⟨B, 2, none⟩))) (f_k0 : Hid (b15 = false → CoB w B ⟨nm, 2, false⟩)) (f_k1 : Hid (b15 = true → b17 = false → CoB w B ⟨nm, K1, false⟩)) (f_k2 : Hid (b17 = true → CoB w B ⟨nm, K1, nb⟩)) (f_o17 : Hid (b17 = true → b15 = true)) : SGood7 B p bb off n c j kd wd K1 nb nm a0 w0 L a w
set_option maxRecDepth 100000 in
set_option maxHeartbeats 4000000 in
theorem good9_any (w : World) (l : List UInt8) (ao : Option Addr) (n c : Nat) (cs : List Co) (key nn : Int) (only : Bool) (h : IsR encCo w ao n c cs) (hn : n ≤ 1000000) :
    Calls Try.prog 17 #[scV l ao n c key only, .int .i64 nn] w (GoodIs w nn cs key only) := by
  unfold scV
  obtain ⟨q, hq⟩ : ∃ q : Nat, wth nn 26 = (q : Int) := ⟨(wth nn 26).toNat, by have := wth_lo nn 26 (by omega); omega⟩
  have hq26 : q < 26 := by have := wth_hi nn 26 (by omega); omega
  have HW9 : ∀ w, Calls Try.prog 73 #[.int .i64 nn, .int .i64 26] w fun e w' => e = .returned (.int .i64 (q : Nat)) ∧ w = w' := fun w => by
    have := within9_any nn 26 w (by omega) (by omega)
    rw [hq] at this
    exact this
  have hNM : gNm nn = [113, UInt8.ofNat (97 + q)] := by unfold gNm; rw [hq]; rfl
  have HNM := Lib.hid hNM
  clear hq hNM
  go_enter Try.func17, Try.ntmps17
  go_upto_region 1 with fail
  have XP : ScB ((w.alloc (.cells #[.string (bsOf l), .slice ao n c, .int .i64 key, .bool only] 40)).alloc (.cells #[.string ⟨#[]⟩, .slice none 0 0, .int .i64 0, .bool false] 40)) w.heap.size l ao n c key only := (Below.heap_alloc _ _ w.heap.size (by simp)).trans (heap_alloc_new w _)
  have XR : ScB ((w.alloc (.cells #[.string (bsOf l), .slice ao n c, .int .i64 key, .bool only] 40)).alloc (.cells #[.string ⟨#[]⟩, .slice none 0 0, .int .i64 0, .bool false] 40)) (w.heap.size + 1) [] none 0 0 0 false := by
    have h := heap_alloc_new (w.alloc (.cells #[.string (bsOf l), .slice ao n c, .int .i64 key, .bool only] 40)) (.cells #[.string ⟨#[]⟩, .slice none 0 0, .int .i64 0, .bool false] 40)
    rw [World.size_alloc] at h
    exact h
  have BA : Below w.heap.size w ((w.alloc (.cells #[.string (bsOf l), .slice ao n c, .int .i64 key, .bool only] 40)).alloc (.cells #[.string ⟨#[]⟩, .slice none 0 0, .int .i64 0, .bool false] 40)) := ((Below.refl _ _).alloc (Nat.le_refl _) _).alloc (by simp) _
  generalize (w.alloc (.cells #[.string (bsOf l), .slice ao n c, .int .i64 key, .bool only] 40)).alloc (.cells #[.string ⟨#[]⟩, .slice none 0 0, .int .i64 0, .bool false] 40) = wa at XP XR BA ⊢
  obtain ⟨r, hr⟩ : ∃ r, w.heap.size + 1 = r := ⟨_, rfl⟩
  obtain ⟨p, hp⟩ : ∃ p, w.heap.size = p := ⟨_, rfl⟩
  have hpr : p < r := by omega
  rw [hr] at XR
  simp only [hr]
  rw [hp] at XP
  simp only [hp]
  have HP := Lib.hid hp
  clear hr hp
  have z3 : wa.cell? ⟨p, 3, none⟩ = some (.bool only) := cell_blk XP rfl
  obtain ⟨u, hu⟩ : ∃ u, UInt8.ofNat (97 + q) = u := ⟨_, rfl⟩
  have hx : IntKind.u8.wrap (IntKind.i64.wrap (97 + (q : Int))) = (u.toNat : Int) := by
    rw [← hu, UInt8.toNat_ofNat', IntWalk.i64_in _ (by omega), show IntKind.u8.wrap (97 + (q : Int)) = (97 + (q : Int)) % 256 from rfl]
    omega
  obtain ⟨W1, hW1⟩ : ∃ W1, IntKind.i64.wrap (97 + (q : Int)) = W1 := ⟨_, rfl⟩
  rw [hW1] at hx
  obtain ⟨W2, hW2⟩ : ∃ W2, IntKind.u8.wrap W1 = W2 := ⟨_, rfl⟩
  rw [hW2] at hx
  have HW1 := Lib.hid hW1
  have HW2 := Lib.hid hW2
  obtain ⟨LU, hLU⟩ : ∃ LU, [u] = LU := ⟨_, rfl⟩
  have HLU : Hid ((#[.int .u8 W2] : Array Value).toList = bcs LU) := by rw [← hLU, hx]; rfl
  have HLN : LU.length = 1 := by rw [← hLU]; rfl
  obtain ⟨NQ, hNQ⟩ : ∃ NQ, gNm nn = NQ := ⟨_, rfl⟩
  have hSQ : ({ data := #[113] } : ByteArray) ++ ⟨LU.toArray⟩ = bsOf NQ := by rw [← hNQ, ← hLU, HNM.out, hu]; rfl
  have HSQ := Lib.hid hSQ
  have HNQ := Lib.hid hNQ
  have hB0 : wa.heap.size ≤ wa.heap.size := Nat.le_refl _
  have hpB : p < wa.heap.size := XP.lt
  have hrB := XR.lt
  clear hu hx hW1 hW2 hLU hSQ hNQ HNM
  refine region_inv (SGood1 wa.heap.size p nn q W1 W2 LU NQ only) (by kernel_rfl) (by kernel_rfl) ?_ ?_ ?_
  · exact ⟨false, false, false, false, false, false, false, false, false, false, false, false, undef, undef, undef, undef, undef, undef, undef, undef, undef, undef, undef, 0, 0, rfl, (by simp only [Act.put, List.setIfInBounds_toArray, List.set_cons_zero, List.set_cons_succ]), Below.refl _ _, (fun h => by cases h), (fun h => by cases h), (fun h => by cases h), (fun h => by cases h), (fun h => by cases h), (fun h => by cases h), (fun h => by cases h), (fun h => by cases h), (fun h => by cases h), (fun h => by cases h), (fun h => by cases h), (fun h => by cases h), (fun h => by cases h), (fun h => by cases h), (fun h => by cases h), (fun h => by cases h)⟩
  · refine ⟨?_, ?_, ?_, ?_, ?_, ?_, ?_, ?_, ?_, ?_, ?_, ?_, trivial⟩
    · rintro L a w ⟨b0, b1, b2, b3, b4, b5, b6, b7, b8, b9, b10, b11, x8, x9, x10, x11, x12, x13, x14, x15, x16, x17, x5, gb, gv, rfl, rfl, hb, cd0, cd1, cd2, cd3, cd4, cd5, cd6, cd7, cd8, cd9, cd10, f_fb, f_fg, f_fz, f_fs, f_o11⟩ hf hd
      have hf' : b0 = false := hf
      subst hf'
      clear hf hd
      try simp only [List.setIfInBounds_toArray, List.set_cons_zero, List.set_cons_succ]
      intro K hK
      rw [if_pos (by rfl)]
      go_simp
      exact hK.out _ _ ⟨true, b1, b2, b3, b4, b5, b6, b7, b8, b9, b10, b11, (.int .i64 nn), x9, x10, x11, x12, x13, x14, x15, x16, x17, x5, gb, gv, (by simp only [Act.put, List.setIfInBounds_toArray, List.set_cons_zero, List.set_cons_succ]), (by simp only [Act.put, List.setIfInBounds_toArray, List.set_cons_zero, List.set_cons_succ]), hb, (fun _ => rfl), cd1, cd2, cd3, cd4, cd5, cd6, cd7, cd8, cd9, cd10, f_fb, f_fg, f_fz, f_fs, f_o11⟩
    · rintro L a w ⟨b0, b1, b2, b3, b4, b5, b6, b7, b8, b9, b10, b11, x8, x9, x10, x11, x12, x13, x14, x15, x16, x17, x5, gb, gv, rfl, rfl, hb, cd0, cd1, cd2, cd3, cd4, cd5, cd6, cd7, cd8, cd9, cd10, f_fb, f_fg, f_fz, f_fs, f_o11⟩ hf hd
      have hf' : b1 = false := hf
      subst hf'
      have d0 : b0 = true := hd ⟨0, .data⟩ (by simp) rfl
      subst d0
      obtain rfl := cd0.out rfl
      clear hf hd
      try simp only [List.setIfInBounds_toArray, List.set_cons_zero, List.set_cons_succ]
      intro K hK
      rw [if_pos (by rfl)]
      go_simp
      go_at_call 73
      refine (HW9 _).mono ?_
      rintro e w' ⟨rfl, rfl⟩
      exact hK.out _ _ ⟨true, true, b2, b3, b4, b5, b6, b7, b8, b9, b10, b11, .int .i64 nn, (.int .i64 (q : Nat)), x10, x11, x12, x13, x14, x15, x16, x17, x5, gb, gv, (by simp only [Act.put, List.setIfInBounds_toArray, List.set_cons_zero, List.set_cons_succ]), (by simp only [Act.put, List.setIfInBounds_toArray, List.set_cons_zero, List.set_cons_succ]), hb, (fun _ => rfl), (fun _ => rfl), cd2, cd3, cd4, cd5, cd6, cd7, cd8, cd9, cd10, f_fb, f_fg, f_fz, f_fs, f_o11⟩
    · rintro L a w ⟨b0, b1, b2, b3, b4, b5, b6, b7, b8, b9, b10, b11, x8, x9, x10, x11, x12, x13, x14, x15, x16, x17, x5, gb, gv, rfl, rfl, hb, cd0, cd1, cd2, cd3, cd4, cd5, cd6, cd7, cd8, cd9, cd10, f_fb, f_fg, f_fz, f_fs, f_o11⟩ hf hd
      have hf' : b2 = false := hf
      subst hf'
      have d1 : b1 = true := hd ⟨1, .data⟩ (by simp) rfl
      subst d1
      obtain rfl := cd1.out rfl
      clear hf hd
      try simp only [List.setIfInBounds_toArray, List.set_cons_zero, List.set_cons_succ]
      intro K hK
      rw [if_pos (by rfl)]
      go_simp
      rw [HW1.out]
      exact hK.out _ _ ⟨b0, true, true, b3, b4, b5, b6, b7, b8, b9, b10, b11, x8, .int .i64 (q : Nat), (.int .i64 W1), x11, x12, x13, x14, x15, x16, x17, x5, gb, gv, (by simp only [Act.put, List.setIfInBounds_toArray, List.set_cons_zero, List.set_cons_succ]), (by simp only [Act.put, List.setIfInBounds_toArray, List.set_cons_zero, List.set_cons_succ]), hb, cd0, (fun _ => rfl), (fun _ => rfl), cd3, cd4, cd5, cd6, cd7, cd8, cd9, cd10, f_fb, f_fg, f_fz, f_fs, f_o11⟩
    · rintro L a w ⟨b0, b1, b2, b3, b4, b5, b6, b7, b8, b9, b10, b11, x8, x9, x10, x11, x12, x13, x14, x15, x16, x17, x5, gb, gv, rfl, rfl, hb, cd0, cd1, cd2, cd3, cd4, cd5, cd6, cd7, cd8, cd9, cd10, f_fb, f_fg, f_fz, f_fs, f_o11⟩ hf hd
      have hf' : b3 = false := hf
      subst hf'
      have d2 : b2 = true := hd ⟨2, .data⟩ (by simp) rfl
      subst d2
      obtain rfl := cd2.out rfl
      clear hf hd
      try simp only [List.setIfInBounds_toArray, List.set_cons_zero, List.set_cons_succ]
      intro K hK
      rw [if_pos (by rfl)]
      go_simp
      rw [HW2.out]
      exact hK.out _ _ ⟨b0, b1, true, true, b4, b5, b6, b7, b8, b9, b10, b11, x8, x9, .int .i64 W1, (.int .u8 W2), x12, x13, x14, x15, x16, x17, x5, gb, gv, (by simp only [Act.put, List.setIfInBounds_toArray, List.set_cons_zero, List.set_cons_succ]), (by simp only [Act.put, List.setIfInBounds_toArray, List.set_cons_zero, List.set_cons_succ]), hb, cd0, cd1, (fun _ => rfl), (fun _ => rfl), cd4, cd5, cd6, cd7, cd8, cd9, cd10, f_fb, f_fg, f_fz, f_fs, f_o11⟩
    · rintro L a w ⟨b0, b1, b2, b3, b4, b5, b6, b7, b8, b9, b10, b11, x8, x9, x10, x11, x12, x13, x14, x15, x16, x17, x5, gb, gv, rfl, rfl, hb, cd0, cd1, cd2, cd3, cd4, cd5, cd6, cd7, cd8, cd9, cd10, f_fb, f_fg, f_fz, f_fs, f_o11⟩ hf hd
      have hf' : b4 = false := hf
      subst hf'
      have d3 : b3 = true := hd ⟨3, .data⟩ (by simp) rfl
      subst d3
      obtain rfl := cd3.out rfl
      clear hf hd
      try simp only [List.setIfInBounds_toArray, List.set_cons_zero, List.set_cons_succ]
      intro K hK
      rw [if_pos (by rfl)]
      go_simp
      have bx : Below w.heap.size w (w.alloc (.cells #[.int .u8 W2] 5)) := (Below.refl _ _).alloc (Nat.le_refl _) _
      have i2 := isB_lit w #[.int .u8 W2] 5 LU 1 HLU.out HLN (by omega)
      exact hK.out _ _ ⟨b0, b1, b2, true, true, b5, b6, b7, b8, b9, b10, b11, x8, x9, x10, .int .u8 W2, (.slice (some ⟨(w.heap.size), 0, none⟩) 1 1), x13, x14, x15, x16, x17, x5, w.heap.size, gv, (by simp only [Act.put, List.setIfInBounds_toArray, List.set_cons_zero, List.set_cons_succ]), (by simp only [Act.put, List.setIfInBounds_toArray, List.set_cons_zero, List.set_cons_succ]), hb.trans (bx.mono (Nat.le_trans hB0 hb.size)), cd0, cd1, cd2, (fun _ => rfl), (fun _ => rfl), cd5, cd6, cd7, cd8, cd9, cd10, (fun _ _ => i2), f_fg, (fun h0 h1 => (f_fz.out h0 h1).past bx), (fun h0 => (f_fs.out h0).past bx), f_o11⟩
    · rintro L a w ⟨b0, b1, b2, b3, b4, b5, b6, b7, b8, b9, b10, b11, x8, x9, x10, x11, x12, x13, x14, x15, x16, x17, x5, gb, gv, rfl, rfl, hb, cd0, cd1, cd2, cd3, cd4, cd5, cd6, cd7, cd8, cd9, cd10, f_fb, f_fg, f_fz, f_fs, f_o11⟩ hf hd
      have hf' : b5 = false := hf
      subst hf'
      have d4 : b4 = true := hd ⟨4, .data⟩ (by simp) rfl
      subst d4
      obtain rfl := cd4.out rfl
      clear hf hd
      have W_fb := f_fb.out rfl rfl
      try simp only [List.setIfInBounds_toArray, List.set_cons_zero, List.set_cons_succ]
      have cv := W_fb.conv byteTy Try.underlying9
      intro K hK
      rw [if_pos (by rfl)]
      go_simp
      exact hK.out _ _ ⟨b0, b1, b2, b3, true, true, b6, b7, b8, b9, b10, b11, x8, x9, x10, x11, .slice (some ⟨gb, 0, none⟩) 1 1, (.string ⟨LU.toArray⟩), x14, x15, x16, x17, x5, gb, gv, (by simp only [Act.put, List.setIfInBounds_toArray, List.set_cons_zero, List.set_cons_succ]), (by simp only [Act.put, List.setIfInBounds_toArray, List.set_cons_zero, List.set_cons_succ]), hb, cd0, cd1, cd2, cd3, (fun _ => rfl), (fun _ => rfl), cd6, cd7, cd8, cd9, cd10, (fun _ h => by cases h), f_fg, f_fz, f_fs, f_o11⟩
    · rintro L a w ⟨b0, b1, b2, b3, b4, b5, b6, b7, b8, b9, b10, b11, x8, x9, x10, x11, x12, x13, x14, x15, x16, x17, x5, gb, gv, rfl, rfl, hb, cd0, cd1, cd2, cd3, cd4, cd5, cd6, cd7, cd8, cd9, cd10, f_fb, f_fg, f_fz, f_fs, f_o11⟩ hf hd
      have hf' : b6 = false := hf
      subst hf'
      have d5 : b5 = true := hd ⟨5, .data⟩ (by simp) rfl
      subst d5
      obtain rfl := cd5.out rfl
      clear hf hd
      try simp only [List.setIfInBounds_toArray, List.set_cons_zero, List.set_cons_succ]
      intro K hK
      rw [if_pos (by rfl)]
      go_simp
      rw [HSQ.out]
      exact hK.out _ _ ⟨b0, b1, b2, b3, b4, true, true, b7, b8, b9, b10, b11, x8, x9, x10, x11, x12, .string ⟨LU.toArray⟩, (.string (bsOf NQ)), x15, x16, x17, x5, gb, gv, (by simp only [Act.put, List.setIfInBounds_toArray, List.set_cons_zero, List.set_cons_succ]), (by simp only [Act.put, List.setIfInBounds_toArray, List.set_cons_zero, List.set_cons_succ]), hb, cd0, cd1, cd2, cd3, cd4, (fun _ => rfl), (fun _ => rfl), cd7, cd8, cd9, cd10, (fun _ h => by cases h), f_fg, f_fz, f_fs, f_o11⟩
    · rintro L a w ⟨b0, b1, b2, b3, b4, b5, b6, b7, b8, b9, b10, b11, x8, x9, x10, x11, x12, x13, x14, x15, x16, x17, x5, gb, gv, rfl, rfl, hb, cd0, cd1, cd2, cd3, cd4, cd5, cd6, cd7, cd8, cd9, cd10, f_fb, f_fg, f_fz, f_fs, f_o11⟩ hf hd
      have hf' : b7 = false := hf
      subst hf'
      clear hf hd
      try simp only [List.setIfInBounds_toArray, List.set_cons_zero, List.set_cons_succ]
      intro K hK
      rw [if_pos (by rfl)]
      go_simp
      exact hK.out _ _ ⟨b0, b1, b2, b3, b4, b5, b6, true, b8, b9, b10, b11, x8, x9, x10, x11, x12, x13, x14, (.pointer (some ⟨p, 3, none⟩)), x16, x17, x5, gb, gv, (by simp only [Act.put, List.setIfInBounds_toArray, List.set_cons_zero, List.set_cons_succ]), (by simp only [Act.put, List.setIfInBounds_toArray, List.set_cons_zero, List.set_cons_succ]), hb, cd0, cd1, cd2, cd3, cd4, cd5, cd6, (fun _ => rfl), cd8, cd9, cd10, f_fb, f_fg, f_fz, f_fs, f_o11⟩
    · rintro L a w ⟨b0, b1, b2, b3, b4, b5, b6, b7, b8, b9, b10, b11, x8, x9, x10, x11, x12, x13, x14, x15, x16, x17, x5, gb, gv, rfl, rfl, hb, cd0, cd1, cd2, cd3, cd4, cd5, cd6, cd7, cd8, cd9, cd10, f_fb, f_fg, f_fz, f_fs, f_o11⟩ hf hd
      have hf' : b8 = false := hf
      subst hf'
      have d7 : b7 = true := hd ⟨7, .data⟩ (by simp) rfl
      subst d7
      obtain rfl := cd7.out rfl
      clear hf hd
      try simp only [List.setIfInBounds_toArray, List.set_cons_zero, List.set_cons_succ]
      have z := (hb.cell hpB).trans z3
      intro K hK
      rw [if_pos (by rfl)]
      go_simp
      exact hK.out _ _ ⟨b0, b1, b2, b3, b4, b5, b6, true, true, b9, b10, b11, x8, x9, x10, x11, x12, x13, x14, .pointer (some ⟨p, 3, none⟩), (.bool only), x17, x5, gb, gv, (by simp only [Act.put, List.setIfInBounds_toArray, List.set_cons_zero, List.set_cons_succ]), (by simp only [Act.put, List.setIfInBounds_toArray, List.set_cons_zero, List.set_cons_succ]), hb, cd0, cd1, cd2, cd3, cd4, cd5, cd6, (fun _ => rfl), (fun _ => rfl), cd9, cd10, f_fb, f_fg, f_fz, f_fs, f_o11⟩
    · rintro L a w ⟨b0, b1, b2, b3, b4, b5, b6, b7, b8, b9, b10, b11, x8, x9, x10, x11, x12, x13, x14, x15, x16, x17, x5, gb, gv, rfl, rfl, hb, cd0, cd1, cd2, cd3, cd4, cd5, cd6, cd7, cd8, cd9, cd10, f_fb, f_fg, f_fz, f_fs, f_o11⟩ hf hd
      have hf' : b9 = false := hf
      subst hf'
      have d6 : b6 = true := hd ⟨6, .data⟩ (by simp) rfl
      subst d6
      have d8 : b8 = true := hd ⟨8, .data⟩ (by simp) rfl
      subst d8
      obtain rfl := cd6.out rfl
      obtain rfl := cd8.out rfl
      clear hf hd
      try simp only [List.setIfInBounds_toArray, List.set_cons_zero, List.set_cons_succ]
      intro K hK
      rw [if_pos (by rfl)]
      go_simp
      exact hK.out _ _ ⟨b0, b1, b2, b3, b4, b5, true, b7, true, true, b10, b11, x8, x9, x10, x11, x12, x13, .string (bsOf NQ), x15, .bool only, (.agg #[.string (bsOf NQ), .slice none 0 0, .int .i64 0, .bool only]), x5, gb, gv, (by simp only [Act.put, List.setIfInBounds_toArray, List.set_cons_zero, List.set_cons_succ]), (by simp only [Act.put, List.setIfInBounds_toArray, List.set_cons_zero, List.set_cons_succ]), hb, cd0, cd1, cd2, cd3, cd4, cd5, (fun _ => rfl), cd7, (fun _ => rfl), (fun _ => rfl), cd10, f_fb, f_fg, f_fz, f_fs, f_o11⟩
    · rintro L a w ⟨b0, b1, b2, b3, b4, b5, b6, b7, b8, b9, b10, b11, x8, x9, x10, x11, x12, x13, x14, x15, x16, x17, x5, gb, gv, rfl, rfl, hb, cd0, cd1, cd2, cd3, cd4, cd5, cd6, cd7, cd8, cd9, cd10, f_fb, f_fg, f_fz, f_fs, f_o11⟩ hf hd
      have hf' : b10 = false := hf
      subst hf'
      clear hf hd
      try simp only [List.setIfInBounds_toArray, List.set_cons_zero, List.set_cons_succ]
      intro K hK
      rw [if_pos (by rfl)]
      go_simp
      have bx : Below w.heap.size w (w.alloc (.cells #[.string ⟨#[]⟩, .slice none 0 0, .int .i64 0, .bool false] 40)) := (Below.refl _ _).alloc (Nat.le_refl _) _
      have i2 : ScB (w.alloc (.cells #[.string ⟨#[]⟩, .slice none 0 0, .int .i64 0, .bool false] 40)) w.heap.size [] none 0 0 0 false := heap_alloc_new w _
      exact hK.out _ _ ⟨b0, b1, b2, b3, b4, b5, b6, b7, b8, b9, true, b11, x8, x9, x10, x11, x12, x13, x14, x15, x16, x17, (.pointer (some ⟨(w.heap.size), 0, none⟩)), gb, w.heap.size, (by simp only [Act.put, List.setIfInBounds_toArray, List.set_cons_zero, List.set_cons_succ]), (by simp only [Act.put, List.setIfInBounds_toArray, List.set_cons_zero, List.set_cons_succ]), hb.trans (bx.mono (Nat.le_trans hB0 hb.size)), cd0, cd1, cd2, cd3, cd4, cd5, cd6, cd7, cd8, cd9, (fun _ => rfl), (fun h0 h1 => (f_fb.out h0 h1).past bx), (fun _ => hb.size), (fun _ _ => i2), (fun h0 => absurd (f_o11.out h0) (by simp)), (fun _ => rfl)⟩
    · rintro L a w ⟨b0, b1, b2, b3, b4, b5, b6, b7, b8, b9, b10, b11, x8, x9, x10, x11, x12, x13, x14, x15, x16, x17, x5, gb, gv, rfl, rfl, hb, cd0, cd1, cd2, cd3, cd4, cd5, cd6, cd7, cd8, cd9, cd10, f_fb, f_fg, f_fz, f_fs, f_o11⟩ hf hd
      have hf' : b11 = false := hf
      subst hf'
      have d10 : b10 = true := hd ⟨10, .data⟩ (by simp) rfl
      subst d10
      have d9 : b9 = true := hd ⟨9, .data⟩ (by simp) rfl
      subst d9
      have d1 : b1 = true := hd ⟨1, .chain⟩ (by simp) rfl
      subst d1
      have d0 : b0 = true := hd ⟨0, .phase⟩ (by simp) rfl
      subst d0
      have d2 : b2 = true := hd ⟨2, .phase⟩ (by simp) rfl
      subst d2
      have d3 : b3 = true := hd ⟨3, .phase⟩ (by simp) rfl
      subst d3
      have d4 : b4 = true := hd ⟨4, .phase⟩ (by simp) rfl
      subst d4
      have d5 : b5 = true := hd ⟨5, .phase⟩ (by simp) rfl
      subst d5
      have d6 : b6 = true := hd ⟨6, .phase⟩ (by simp) rfl
      subst d6
      have d7 : b7 = true := hd ⟨7, .phase⟩ (by simp) rfl
      subst d7
      have d8 : b8 = true := hd ⟨8, .phase⟩ (by simp) rfl
      subst d8
      obtain rfl := cd10.out rfl
      obtain rfl := cd9.out rfl
      obtain rfl := cd1.out rfl
      obtain rfl := cd0.out rfl
      obtain rfl := cd2.out rfl
      obtain rfl := cd3.out rfl
      obtain rfl := cd4.out rfl
      obtain rfl := cd5.out rfl
      obtain rfl := cd6.out rfl
      obtain rfl := cd7.out rfl
      obtain rfl := cd8.out rfl
      clear hf hd
      have W_fg := f_fg.out rfl
      have W_fz := f_fz.out rfl rfl
      try simp only [List.setIfInBounds_toArray, List.set_cons_zero, List.set_cons_succ]
      intro K hK
      rw [if_pos (by rfl)]
      refine wp_store_blk 40 _ _ rfl gv _ #[.string (bsOf NQ), .slice none 0 0, .int .i64 0, .bool only] rfl rfl _ (Lib.hid W_fz) 4 szS rfl rfl (by simp only [List.all_toArray, List.all_cons, List.all_nil]; rfl) fun w2 h8 b8 => ?_
      have hb2 := hb.trans (grown_below b8 (Nat.le_trans hB0 W_fg) (Nat.le_trans hB0 hb.size))
      exact hK.out _ _ ⟨true, true, true, true, true, true, true, true, true, true, true, true, .int .i64 nn, .int .i64 (q : Nat), .int .i64 W1, .int .u8 W2, .slice (some ⟨gb, 0, none⟩) 1 1, .string ⟨LU.toArray⟩, .string (bsOf NQ), .pointer (some ⟨p, 3, none⟩), .bool only, .agg #[.string (bsOf NQ), .slice none 0 0, .int .i64 0, .bool only], .pointer (some ⟨gv, 0, none⟩), gb, gv, (by simp only [Act.put, List.setIfInBounds_toArray, List.set_cons_zero, List.set_cons_succ]), (by simp only [Act.put, List.setIfInBounds_toArray, List.set_cons_zero, List.set_cons_succ]), hb2, (fun _ => rfl), (fun _ => rfl), (fun _ => rfl), (fun _ => rfl), (fun _ => rfl), (fun _ => rfl), (fun _ => rfl), (fun _ => rfl), (fun _ => rfl), (fun _ => rfl), (fun _ => rfl), (fun _ h => by cases h), f_fg, (fun _ h => by cases h), (fun _ => h8.out), (fun _ => rfl)⟩
  · rintro a w2 ⟨b0, b1, b2, b3, b4, b5, b6, b7, b8, b9, b10, b11, x8, x9, x10, x11, x12, x13, x14, x15, x16, x17, x5, gb, gv, hL, rfl, hb, cd0, cd1, cd2, cd3, cd4, cd5, cd6, cd7, cd8, cd9, cd10, f_fb, f_fg, f_fz, f_fs, f_o11⟩
    have hL' : [true, true, true, true, true, true, true, true, true, true, true, true] = [b0, b1, b2, b3, b4, b5, b6, b7, b8, b9, b10, b11] := congrArg Array.toList hL
    simp only [List.cons.injEq, and_true] at hL'
    obtain ⟨rfl, rfl, rfl, rfl, rfl, rfl, rfl, rfl, rfl, rfl, rfl, rfl⟩ := hL'
    obtain rfl := cd0.out rfl
    obtain rfl := cd1.out rfl
    obtain rfl := cd2.out rfl
    obtain rfl := cd3.out rfl
    obtain rfl := cd4.out rfl
    obtain rfl := cd5.out rfl
    obtain rfl := cd6.out rfl
    obtain rfl := cd7.out rfl
    obtain rfl := cd8.out rfl
    obtain rfl := cd9.out rfl
    obtain rfl := cd10.out rfl
    have W_fg := f_fg.out rfl
    have W_fs := f_fs.out rfl
    have W_o11 := f_o11.out rfl
    clear hL f_fb f_fg f_fz f_fs f_o11 cd0 cd1 cd2 cd3 cd4 cd5 cd6 cd7 cd8 cd9 cd10
    simp only [List.setIfInBounds_toArray, List.set_cons_zero, List.set_cons_succ]
    have hb0 : Below wa.heap.size wa w2 := (Below.refl _ _).drew.trans hb
    have XP2 : ScB w2 p l ao n c key only := XP.past hb0
    have XR2 : ScB w2 r [] none 0 0 0 false := XR.past hb0
    have X2 : ScB w2 gv NQ none 0 0 0 only := W_fs
    have B2 : Below p w w2 := by
      have := BA.trans (hb0.mono BA.size)
      rw [HP.out] at this
      exact this
    have hgp : wa.heap.size ≤ gv := W_fg
    have hgp2 : p ≠ gv ∧ r ≠ gv := by have : wa.heap.size ≤ gv := W_fg
                                      omega
    have hpgv : p < gv := by have : wa.heap.size ≤ gv := W_fg
                             omega
    clear XP XR BA hb hb0 W_fg W_o11 W_fs HW1 HW2 HLU HLN HSQ HW9 z3
    go_wp2_with fail
    go_loopw [6] (fun i wr => ∃ (j : Nat) (ao' : Option Addr) (c' : Nat), j ≤ gN cs ∧ i = .int .i64 (j : Nat) ∧ ScB wr gv NQ ao' j c' 0 only ∧ ((j = 0 ∧ ao' = none ∧ c' = 0) ∨ (0 < j ∧ ∃ g', ao' = some ⟨g', 0, none⟩ ∧ OwnR encCo wr 156 g' j c' (gCols cs j) ∧ p ≤ g' ∧ g' ≠ gv ∧ g' ≠ p ∧ g' ≠ r)) ∧ ScB wr p l ao n c key only ∧ ScB wr r [] none 0 0 0 false ∧ Below p w wr) (fun i _ => 6 - (intOf i).toNat)
    case atStart => exact ⟨0, none, 0, Nat.zero_le _, rfl, X2, .inl ⟨rfl, rfl, rfl⟩, XP2, XR2, B2⟩
    case round =>
      clear X2 XP2 XR2 B2
      obtain ⟨j, ao', c', hj, rfl, X, hO, XPr, XRr, B⟩ := hrel
      have hNp := gN_pos cs
      have hsr := B.size
      have hsz : p < wr.heap.size := XPr.lt
      have hgvl := X.lt
      by_cases hlt : j < gN cs
      · have hj6 : (j : Int) < 6 := by omega
        have cv := letter_conv wr (97 + (j : Int)) (UInt8.ofNat (97 + j)) (by rw [UInt8.toNat_ofNat']; omega)
        have y1 : wr.cell? ⟨p, 1, none⟩ = some (.slice ao n c) := cell_blk XPr rfl
        obtain ⟨nu, hnu⟩ : ∃ x, UInt8.ofNat (97 + j) = x := ⟨_, rfl⟩
        rw [hnu] at cv
        have hC7 : CoB ((wr.alloc (.cells #[.int .u8 (97 + (j : Int))] 5)).alloc (.cells #[.string (bsOf [nu]), .int .i64 2, .bool false] 156)) (wr.heap.size + 1) ⟨[nu], 2, false⟩ := by
          have h := heap_alloc_new (wr.alloc (.cells #[.int .u8 (97 + (j : Int))] 5)) (.cells #[.string (bsOf [nu]), .int .i64 2, .bool false] 156)
          rw [World.size_alloc] at h
          exact h
        have hB7 : Below wr.heap.size wr ((wr.alloc (.cells #[.int .u8 (97 + (j : Int))] 5)).alloc (.cells #[.string (bsOf [nu]), .int .i64 2, .bool false] 156)) := ((Below.refl _ _).alloc (Nat.le_refl _) _).alloc (by simp) _
        have HC7 := Lib.hid hC7
        have HB7 := Lib.hid hB7
        clear hC7 hB7
        by_cases hn0 : n = 0
        · have hj0 : j = 0 := by have : gN cs = 1 := by unfold gN; rw [if_pos (by rw [h.len]; exact hn0)]
                                 omega
          have hj1 : (j : Int) < 1 := by omega
          have hjn : ¬ ((j : Int) < (n : Int)) := by omega
          have hgat : gAt cs j = ⟨[nu], 2, false⟩ := by
            unfold gAt
            rw [List.getElem?_eq_none (by rw [h.len]; omega), hnu]
          have HGAT := Lib.hid hgat
          have HJ0 := Lib.hid hj0
          have hO' : ao' = none ∧ c' = 0 := by rcases hO with ⟨-, h1, h2⟩ | ⟨h0, -⟩
                                               · exact ⟨h1, h2⟩
                                               · omega
          have X' : ScB wr gv NQ none 0 0 0 only := by
            have := X
            rw [hO'.1, hO'.2, hj0] at this
            exact this
          clear hgat hj0 hn0 hO
          · obtain ⟨rfl, rfl⟩ := hO'
            go_upto_region 8 with fail
            generalize (wr.alloc (.cells #[.int .u8 (97 + (j : Int))] 5)).alloc (.cells #[.string (bsOf [nu]), .int .i64 2, .bool false] 156) = V at HC7 HB7 ⊢
            obtain ⟨gc, hgc⟩ : ∃ gc, wr.heap.size + 1 = gc := ⟨_, rfl⟩
            have HGC := Lib.hid hgc
            have CV := HC7.out
            rw [hgc] at CV
            simp only [hgc]
            have BV := HB7.out
            clear hgc HC7 HB7
            have XV := X'.past BV
            have XPV := XPr.past BV
            have XRV := XRr.past BV
            have BpV := B.trans (BV.mono (Nat.le_of_lt hsz))
            have k0 : V.cell? ⟨gc, 0, none⟩ = some (.string (bsOf [nu])) := cell_blk CV rfl
            have k1 : V.cell? ⟨gc, 1, none⟩ = some (.int .i64 2) := cell_blk CV rfl
            have k2 : V.cell? ⟨gc, 2, none⟩ = some (.bool false) := cell_blk CV rfl
            have v1 : V.cell? ⟨gv, 1, none⟩ = some (.slice none 0 0) := cell_blk XV rfl
            have hlit : IsR encCo (V.alloc (.cells #[.string (bsOf [nu]), .int .i64 2, .bool false] 156)) (some ⟨V.heap.size, 0, none⟩) 1 1 [⟨[nu], 2, false⟩] := (OwnR.ofBlk (E := encCo) (l := [⟨[nu], 2, false⟩]) (n := 1) (heap_alloc_new V _) rfl rfl (by omega)).isR
            have BL : Below V.heap.size V (V.alloc (.cells #[.string (bsOf [nu]), .int .i64 2, .bool false] 156)) := (Below.refl _ _).alloc (Nat.le_refl _) _
            have HLIT := Lib.hid hlit
            skip
            have hpV := XPV.lt
            have hgvV := XV.lt
            have hrV := XRV.lt
            clear hlit cv y1 CV
            go_wp2_with (at_builtin; go_loud (refine wpList_append_nr rfl _ _ 38 38 rfl 156 rowTyC 0 rfl rfl _ rfl 1 [⟨[nu], 2, false⟩] (HLIT.out.src rowTyC.ht) rfl (by omega) (by omega) ?_); intro g2 c2 w9 o9 b9 q9; have BX := (BL.trans (b9.mono BL.size)); have X9 := (XV.past BX); have e1 := cell_blk (i := 1) X9 rfl; have f1 := free_blk (i := 1) X9)
            have hVs := BpV.size
            have B9 : Below p w w9 := BpV.trans (BX.mono (by omega))
            have hp9 := B9.size
            skip
            have hg2 : g2 ≠ gv ∧ g2 ≠ p ∧ g2 ≠ r ∧ p ≤ g2 := by have := BL.size; simp only [World.size_alloc] at q9; omega
            have XA : ScB (w9.setCell ⟨gv, 1, none⟩ (.slice (some ⟨g2, 0, none⟩) 1 c2)) gv NQ (some ⟨g2, 0, none⟩) 1 c2 0 only := (heap_setCell_same (i := 1) X9).trans rfl
            have oA := o9.kept (w' := w9.setCell ⟨gv, 1, none⟩ (.slice (some ⟨g2, 0, none⟩) 1 c2)) (heap_setCell_other _ _ g2 _ (by simpa using hg2.1))
            have XPA : ScB (w9.setCell ⟨gv, 1, none⟩ (.slice (some ⟨g2, 0, none⟩) 1 c2)) p l _ n c key only := (heap_setCell_other _ _ p _ (by simpa using hgp2.1)).trans (XPV.past BX)
            have XRA : ScB (w9.setCell ⟨gv, 1, none⟩ (.slice (some ⟨g2, 0, none⟩) 1 c2)) r [] none 0 0 0 false := (heap_setCell_other _ _ r _ (by simpa using hgp2.2)).trans (XRV.past BX)
            have BAA : Below p w (w9.setCell ⟨gv, 1, none⟩ (.slice (some ⟨g2, 0, none⟩) 1 c2)) := B9.setCell (p := ⟨gv, 1, none⟩) (by show p ≤ gv; omega) _
            go_roundw
            case rel => exact ⟨1, some ⟨g2, 0, none⟩, c2, by omega, by rw [HJ0.out]; go_num, XA, .inr ⟨by omega, g2, rfl, by rw [show gCols cs 1 = [gAt cs j] by rw [HJ0.out]; rfl, HGAT.out]; exact oA, hg2.2.2.2, hg2.1, hg2.2.1, hg2.2.2.1⟩, XPA, XRA, BAA⟩
            case measure => simp [intOf]; omega
        · have hnn : 0 < n := by omega
          have hjn' : j < n := by
            have : gN cs = min n 6 := by unfold gN; rw [if_neg (by rw [h.len]; omega), h.len]
            omega
          have hjn : (j : Int) < (n : Int) := by omega
          obtain ⟨v, hv⟩ : ∃ v, cs[j]? = some v := ⟨cs[j]'(by rw [h.len]; exact hjn'), List.getElem?_eq_getElem _⟩
          obtain ⟨bb, off, rfl, hbb, hcell⟩ := h.open hnn (by decide)
          rw [HP.out] at hbb
          obtain ⟨-, c1, c2⟩ := cells_co hcell j v hv
          obtain ⟨wd, hwd⟩ : ∃ wd : Nat, wth v.kind 3 = (wd : Int) := ⟨(wth v.kind 3).toNat, by have := wth_lo v.kind 3 (by omega); omega⟩
          have hwd3 : wd < 3 := by have := wth_hi v.kind 3 (by omega); omega
          have HWK : ∀ w, Calls Try.prog 73 #[.int .i64 v.kind, .int .i64 3] w fun e w' => e = .returned (.int .i64 (wd : Nat)) ∧ w = w' := fun w => by
            have := within9_any v.kind 3 w (by omega) (by omega)
            rw [hwd] at this
            exact this
          obtain ⟨K1, hK1⟩ : ∃ K1, 1 + (wd : Int) = K1 := ⟨_, rfl⟩
          have HK1 : Hid (IntKind.i64.wrap (1 + (wd : Int)) = K1) := by
            show _ = _
            rw [IntWalk.i64_in _ (by omega)]
            exact hK1
          have hgat : gAt cs j = ⟨[nu], K1, v.null⟩ := by
            unfold gAt
            rw [hv, hnu]
            show (⟨[nu], 1 + wth v.kind 3, v.null⟩ : Co) = _
            rw [hwd, hK1]
          have HGAT := Lib.hid hgat
          obtain ⟨vn, kd, nb⟩ := v
          simp only at c1 c2 HWK HGAT
          clear hgat hK1 hwd hv hcell
          by_cases hj0 : j = 0
          · have hj1 : (j : Int) < 1 := by omega
            have HJ0 := Lib.hid hj0
            have hO' : ao' = none ∧ c' = 0 := by
              rcases hO with ⟨-, h1, h2⟩ | ⟨h0, -⟩
              · exact ⟨h1, h2⟩
              · omega
            have X' : ScB wr gv NQ none 0 0 0 only := by
              have := X
              rw [hO'.1, hO'.2, hj0] at this
              exact this
            clear hj0 hO
            obtain ⟨rfl, rfl⟩ := hO'
            go_upto_region 7 with fail
            generalize (wr.alloc (.cells #[.int .u8 (97 + (j : Int))] 5)).alloc (.cells #[.string (bsOf [nu]), .int .i64 2, .bool false] 156) = V0 at HC7 HB7 ⊢
            obtain ⟨gc, hgc⟩ : ∃ gc, wr.heap.size + 1 = gc := ⟨_, rfl⟩
            have k00 := HC7.out
            rw [hgc] at k00
            simp only [hgc]
            have hgcw : wr.heap.size ≤ gc := by omega
            have HGC := Lib.hid hgc
            have BV0 := HB7.out
            clear hgc HC7 HB7
            have hB0 : gc ≤ V0.heap.size := Nat.le_of_lt k00.lt
            have hpC : p < gc := by omega
            have hbC : bb < gc := by omega
            replace y1 : V0.cell? ⟨p, 1, none⟩ = some (.slice (some ⟨bb, off, none⟩) n c) := cell_blk (XPr.past BV0) rfl
            have BwV0 := B.trans (BV0.mono (Nat.le_of_lt hsz))
            rw [← BwV0.cell hbb] at c1 c2
            have hgcg : gv < gc ∧ r < gc := by have := XRr.lt
                                               omega
            clear BwV0
            refine region_inv (SGood7 gc p bb off n c j kd wd K1 nb [nu]) (by kernel_rfl) (by kernel_rfl) ?_ ?_ ?_
            · exact ⟨false, false, false, false, false, false, false, false, false, false, false, false, false, false, false, false, false, false, u44, u45, u46, u47, u48, u49, u50, u51, u52, u53, u54, u55, u56, u57, u58, u59, rfl, (by simp only [Act.put, List.setIfInBounds_toArray, List.set_cons_zero, List.set_cons_succ]), Below.refl _ _, (fun h => by cases h), (fun h => by cases h), (fun h => by cases h), (fun h => by cases h), (fun h => by cases h), (fun h => by cases h), (fun h => by cases h), (fun h => by cases h), (fun h => by cases h), (fun h => by cases h), (fun h => by cases h), (fun h => by cases h), (fun h => by cases h), (fun h => by cases h), (fun h => by cases h), (fun h => by cases h), (fun h1 => k00), (fun h => by cases h), (fun h => by cases h), (fun h => by cases h)⟩
            · refine ⟨?_, ?_, ?_, ?_, ?_, ?_, ?_, ?_, ?_, ?_, ?_, ?_, ?_, ?_, ?_, ?_, ?_, ?_, trivial⟩
              · rintro L a w ⟨b0, b1, b2, b3, b4, b5, b6, b7, b8, b9, b10, b11, b12, b13, b14, b15, b16, b17, x44, x45, x46, x47, x48, x49, x50, x51, x52, x53, x54, x55, x56, x57, x58, x59, rfl, rfl, hb, cd0, cd1, cd2, cd3, cd4, cd5, cd6, cd7, cd8, cd9, cd10, cd11, cd12, cd13, cd14, cd16, f_k0, f_k1, f_k2, f_o17⟩ hf hd
                have hf' : b0 = false := hf
                subst hf'
                clear hf hd
                try simp only [List.setIfInBounds_toArray, List.set_cons_zero, List.set_cons_succ]
                intro K hK
                rw [if_pos (by rfl)]
                go_simp
                exact hK.out _ _ ⟨true, b1, b2, b3, b4, b5, b6, b7, b8, b9, b10, b11, b12, b13, b14, b15, b16, b17, (.pointer (some ⟨p, 1, none⟩)), x45, x46, x47, x48, x49, x50, x51, x52, x53, x54, x55, x56, x57, x58, x59, (by simp only [Act.put, List.setIfInBounds_toArray, List.set_cons_zero, List.set_cons_succ]), (by simp only [Act.put, List.setIfInBounds_toArray, List.set_cons_zero, List.set_cons_succ]), hb, (fun _ => rfl), cd1, cd2, cd3, cd4, cd5, cd6, cd7, cd8, cd9, cd10, cd11, cd12, cd13, cd14, cd16, f_k0, f_k1, f_k2, f_o17⟩
              · rintro L a w ⟨b0, b1, b2, b3, b4, b5, b6, b7, b8, b9, b10, b11, b12, b13, b14, b15, b16, b17, x44, x45, x46, x47, x48, x49, x50, x51, x52, x53, x54, x55, x56, x57, x58, x59, rfl, rfl, hb, cd0, cd1, cd2, cd3, cd4, cd5, cd6, cd7, cd8, cd9, cd10, cd11, cd12, cd13, cd14, cd16, f_k0, f_k1, f_k2, f_o17⟩ hf hd
                have hf' : b1 = false := hf
                subst hf'
                have d0 : b0 = true := hd ⟨0, .data⟩ (by simp) rfl
                subst d0
                obtain rfl := cd0.out rfl
                clear hf hd
                try simp only [List.setIfInBounds_toArray, List.set_cons_zero, List.set_cons_succ]
                have z := (hb.cell hpC).trans y1
                intro K hK
                rw [if_pos (by rfl)]
                go_simp
                exact hK.out _ _ ⟨true, true, b2, b3, b4, b5, b6, b7, b8, b9, b10, b11, b12, b13, b14, b15, b16, b17, .pointer (some ⟨p, 1, none⟩), (.slice (some ⟨bb, off, none⟩) n c), x46, x47, x48, x49, x50, x51, x52, x53, x54, x55, x56, x57, x58, x59, (by simp only [Act.put, List.setIfInBounds_toArray, List.set_cons_zero, List.set_cons_succ]), (by simp only [Act.put, List.setIfInBounds_toArray, List.set_cons_zero, List.set_cons_succ]), hb, (fun _ => rfl), (fun _ => rfl), cd2, cd3, cd4, cd5, cd6, cd7, cd8, cd9, cd10, cd11, cd12, cd13, cd14, cd16, f_k0, f_k1, f_k2, f_o17⟩
              · rintro L a w ⟨b0, b1, b2, b3, b4, b5, b6, b7, b8, b9, b10, b11, b12, b13, b14, b15, b16, b17, x44, x45, x46, x47, x48, x49, x50, x51, x52, x53, x54, x55, x56, x57, x58, x59, rfl, rfl, hb, cd0, cd1, cd2, cd3, cd4, cd5, cd6, cd7, cd8, cd9, cd10, cd11, cd12, cd13, cd14, cd16, f_k0, f_k1, f_k2, f_o17⟩ hf hd
                have hf' : b2 = false := hf
                subst hf'
                clear hf hd
                try simp only [List.setIfInBounds_toArray, List.set_cons_zero, List.set_cons_succ]
                intro K hK
                rw [if_pos (by rfl)]
                go_simp
                exact hK.out _ _ ⟨b0, b1, true, b3, b4, b5, b6, b7, b8, b9, b10, b11, b12, b13, b14, b15, b16, b17, x44, x45, (.int .i64 (j : Nat)), x47, x48, x49, x50, x51, x52, x53, x54, x55, x56, x57, x58, x59, (by simp only [Act.put, List.setIfInBounds_toArray, List.set_cons_zero, List.set_cons_succ]), (by simp only [Act.put, List.setIfInBounds_toArray, List.set_cons_zero, List.set_cons_succ]), hb, cd0, cd1, (fun _ => rfl), cd3, cd4, cd5, cd6, cd7, cd8, cd9, cd10, cd11, cd12, cd13, cd14, cd16, f_k0, f_k1, f_k2, f_o17⟩
              · rintro L a w ⟨b0, b1, b2, b3, b4, b5, b6, b7, b8, b9, b10, b11, b12, b13, b14, b15, b16, b17, x44, x45, x46, x47, x48, x49, x50, x51, x52, x53, x54, x55, x56, x57, x58, x59, rfl, rfl, hb, cd0, cd1, cd2, cd3, cd4, cd5, cd6, cd7, cd8, cd9, cd10, cd11, cd12, cd13, cd14, cd16, f_k0, f_k1, f_k2, f_o17⟩ hf hd
                have hf' : b3 = false := hf
                subst hf'
                have d1 : b1 = true := hd ⟨1, .data⟩ (by simp) rfl
                subst d1
                have d2 : b2 = true := hd ⟨2, .data⟩ (by simp) rfl
                subst d2
                obtain rfl := cd1.out rfl
                obtain rfl := cd2.out rfl
                clear hf hd
                try simp only [List.setIfInBounds_toArray, List.set_cons_zero, List.set_cons_succ]
                intro K hK
                rw [if_pos (by rfl)]
                go_simp
                exact hK.out _ _ ⟨b0, true, true, true, b4, b5, b6, b7, b8, b9, b10, b11, b12, b13, b14, b15, b16, b17, x44, .slice (some ⟨bb, off, none⟩) n c, .int .i64 (j : Nat), (.pointer (some ⟨bb, off + j * 3, none⟩)), x48, x49, x50, x51, x52, x53, x54, x55, x56, x57, x58, x59, (by simp only [Act.put, List.setIfInBounds_toArray, List.set_cons_zero, List.set_cons_succ]), (by simp only [Act.put, List.setIfInBounds_toArray, List.set_cons_zero, List.set_cons_succ]), hb, cd0, (fun _ => rfl), (fun _ => rfl), (fun _ => rfl), cd4, cd5, cd6, cd7, cd8, cd9, cd10, cd11, cd12, cd13, cd14, cd16, f_k0, f_k1, f_k2, f_o17⟩
              · rintro L a w ⟨b0, b1, b2, b3, b4, b5, b6, b7, b8, b9, b10, b11, b12, b13, b14, b15, b16, b17, x44, x45, x46, x47, x48, x49, x50, x51, x52, x53, x54, x55, x56, x57, x58, x59, rfl, rfl, hb, cd0, cd1, cd2, cd3, cd4, cd5, cd6, cd7, cd8, cd9, cd10, cd11, cd12, cd13, cd14, cd16, f_k0, f_k1, f_k2, f_o17⟩ hf hd
                have hf' : b4 = false := hf
                subst hf'
                have d3 : b3 = true := hd ⟨3, .data⟩ (by simp) rfl
                subst d3
                obtain rfl := cd3.out rfl
                clear hf hd
                try simp only [List.setIfInBounds_toArray, List.set_cons_zero, List.set_cons_succ]
                intro K hK
                rw [if_pos (by rfl)]
                go_simp
                exact hK.out _ _ ⟨b0, b1, b2, true, true, b5, b6, b7, b8, b9, b10, b11, b12, b13, b14, b15, b16, b17, x44, x45, x46, .pointer (some ⟨bb, off + j * 3, none⟩), (.pointer (some ⟨bb, off + j * 3 + 1, none⟩)), x49, x50, x51, x52, x53, x54, x55, x56, x57, x58, x59, (by simp only [Act.put, List.setIfInBounds_toArray, List.set_cons_zero, List.set_cons_succ]), (by simp only [Act.put, List.setIfInBounds_toArray, List.set_cons_zero, List.set_cons_succ]), hb, cd0, cd1, cd2, (fun _ => rfl), (fun _ => rfl), cd5, cd6, cd7, cd8, cd9, cd10, cd11, cd12, cd13, cd14, cd16, f_k0, f_k1, f_k2, f_o17⟩
              · rintro L a w ⟨b0, b1, b2, b3, b4, b5, b6, b7, b8, b9, b10, b11, b12, b13, b14, b15, b16, b17, x44, x45, x46, x47, x48, x49, x50, x51, x52, x53, x54, x55, x56, x57, x58, x59, rfl, rfl, hb, cd0, cd1, cd2, cd3, cd4, cd5, cd6, cd7, cd8, cd9, cd10, cd11, cd12, cd13, cd14, cd16, f_k0, f_k1, f_k2, f_o17⟩ hf hd
                have hf' : b5 = false := hf
                subst hf'
                have d4 : b4 = true := hd ⟨4, .data⟩ (by simp) rfl
                subst d4
                obtain rfl := cd4.out rfl
                clear hf hd
                try simp only [List.setIfInBounds_toArray, List.set_cons_zero, List.set_cons_succ]
                have z := (hb.cell hbC).trans c1
                intro K hK
                rw [if_pos (by rfl)]
                go_simp
                exact hK.out _ _ ⟨b0, b1, b2, b3, true, true, b6, b7, b8, b9, b10, b11, b12, b13, b14, b15, b16, b17, x44, x45, x46, x47, .pointer (some ⟨bb, off + j * 3 + 1, none⟩), (.int .i64 kd), x50, x51, x52, x53, x54, x55, x56, x57, x58, x59, (by simp only [Act.put, List.setIfInBounds_toArray, List.set_cons_zero, List.set_cons_succ]), (by simp only [Act.put, List.setIfInBounds_toArray, List.set_cons_zero, List.set_cons_succ]), hb, cd0, cd1, cd2, cd3, (fun _ => rfl), (fun _ => rfl), cd6, cd7, cd8, cd9, cd10, cd11, cd12, cd13, cd14, cd16, f_k0, f_k1, f_k2, f_o17⟩
              · rintro L a w ⟨b0, b1, b2, b3, b4, b5, b6, b7, b8, b9, b10, b11, b12, b13, b14, b15, b16, b17, x44, x45, x46, x47, x48, x49, x50, x51, x52, x53, x54, x55, x56, x57, x58, x59, rfl, rfl, hb, cd0, cd1, cd2, cd3, cd4, cd5, cd6, cd7, cd8, cd9, cd10, cd11, cd12, cd13, cd14, cd16, f_k0, f_k1, f_k2, f_o17⟩ hf hd
                have hf' : b6 = false := hf
                subst hf'
                have d5 : b5 = true := hd ⟨5, .data⟩ (by simp) rfl
                subst d5
                obtain rfl := cd5.out rfl
                clear hf hd
                try simp only [List.setIfInBounds_toArray, List.set_cons_zero, List.set_cons_succ]
                intro K hK
                rw [if_pos (by rfl)]
                go_simp
                go_at_call 73
                refine (HWK _).mono ?_
                rintro e w' ⟨rfl, rfl⟩
                exact hK.out _ _ ⟨b0, b1, b2, b3, b4, true, true, b7, b8, b9, b10, b11, b12, b13, b14, b15, b16, b17, x44, x45, x46, x47, x48, .int .i64 kd, (.int .i64 (wd : Nat)), x51, x52, x53, x54, x55, x56, x57, x58, x59, (by simp only [Act.put, List.setIfInBounds_toArray, List.set_cons_zero, List.set_cons_succ]), (by simp only [Act.put, List.setIfInBounds_toArray, List.set_cons_zero, List.set_cons_succ]), hb, cd0, cd1, cd2, cd3, cd4, (fun _ => rfl), (fun _ => rfl), cd7, cd8, cd9, cd10, cd11, cd12, cd13, cd14, cd16, f_k0, f_k1, f_k2, f_o17⟩
              · rintro L a w ⟨b0, b1, b2, b3, b4, b5, b6, b7, b8, b9, b10, b11, b12, b13, b14, b15, b16, b17, x44, x45, x46, x47, x48, x49, x50, x51, x52, x53, x54, x55, x56, x57, x58, x59, rfl, rfl, hb, cd0, cd1, cd2, cd3, cd4, cd5, cd6, cd7, cd8, cd9, cd10, cd11, cd12, cd13, cd14, cd16, f_k0, f_k1, f_k2, f_o17⟩ hf hd
                have hf' : b7 = false := hf
                subst hf'
                have d6 : b6 = true := hd ⟨6, .data⟩ (by simp) rfl
                subst d6
                obtain rfl := cd6.out rfl
                clear hf hd
                try simp only [List.setIfInBounds_toArray, List.set_cons_zero, List.set_cons_succ]
                intro K hK
                rw [if_pos (by rfl)]
                go_simp
                rw [HK1.out]
                exact hK.out _ _ ⟨b0, b1, b2, b3, b4, b5, true, true, b8, b9, b10, b11, b12, b13, b14, b15, b16, b17, x44, x45, x46, x47, x48, x49, .int .i64 (wd : Nat), (.int .i64 K1), x52, x53, x54, x55, x56, x57, x58, x59, (by simp only [Act.put, List.setIfInBounds_toArray, List.set_cons_zero, List.set_cons_succ]), (by simp only [Act.put, List.setIfInBounds_toArray, List.set_cons_zero, List.set_cons_succ]), hb, cd0, cd1, cd2, cd3, cd4, cd5, (fun _ => rfl), (fun _ => rfl), cd8, cd9, cd10, cd11, cd12, cd13, cd14, cd16, f_k0, f_k1, f_k2, f_o17⟩
              · rintro L a w ⟨b0, b1, b2, b3, b4, b5, b6, b7, b8, b9, b10, b11, b12, b13, b14, b15, b16, b17, x44, x45, x46, x47, x48, x49, x50, x51, x52, x53, x54, x55, x56, x57, x58, x59, rfl, rfl, hb, cd0, cd1, cd2, cd3, cd4, cd5, cd6, cd7, cd8, cd9, cd10, cd11, cd12, cd13, cd14, cd16, f_k0, f_k1, f_k2, f_o17⟩ hf hd
                have hf' : b8 = false := hf
                subst hf'
                clear hf hd
                try simp only [List.setIfInBounds_toArray, List.set_cons_zero, List.set_cons_succ]
                intro K hK
                rw [if_pos (by rfl)]
                go_simp
                exact hK.out _ _ ⟨b0, b1, b2, b3, b4, b5, b6, b7, true, b9, b10, b11, b12, b13, b14, b15, b16, b17, x44, x45, x46, x47, x48, x49, x50, x51, (.pointer (some ⟨p, 1, none⟩)), x53, x54, x55, x56, x57, x58, x59, (by simp only [Act.put, List.setIfInBounds_toArray, List.set_cons_zero, List.set_cons_succ]), (by simp only [Act.put, List.setIfInBounds_toArray, List.set_cons_zero, List.set_cons_succ]), hb, cd0, cd1, cd2, cd3, cd4, cd5, cd6, cd7, (fun _ => rfl), cd9, cd10, cd11, cd12, cd13, cd14, cd16, f_k0, f_k1, f_k2, f_o17⟩
              · rintro L a w ⟨b0, b1, b2, b3, b4, b5, b6, b7, b8, b9, b10, b11, b12, b13, b14, b15, b16, b17, x44, x45, x46, x47, x48, x49, x50, x51, x52, x53, x54, x55, x56, x57, x58, x59, rfl, rfl, hb, cd0, cd1, cd2, cd3, cd4, cd5, cd6, cd7, cd8, cd9, cd10, cd11, cd12, cd13, cd14, cd16, f_k0, f_k1, f_k2, f_o17⟩ hf hd
                have hf' : b9 = false := hf
                subst hf'
                have d8 : b8 = true := hd ⟨8, .data⟩ (by simp) rfl
                subst d8
                obtain rfl := cd8.out rfl
                clear hf hd
                try simp only [List.setIfInBounds_toArray, List.set_cons_zero, List.set_cons_succ]
                have z := (hb.cell hpC).trans y1
                intro K hK
                rw [if_pos (by rfl)]
                go_simp
                exact hK.out _ _ ⟨b0, b1, b2, b3, b4, b5, b6, b7, true, true, b10, b11, b12, b13, b14, b15, b16, b17, x44, x45, x46, x47, x48, x49, x50, x51, .pointer (some ⟨p, 1, none⟩), (.slice (some ⟨bb, off, none⟩) n c), x54, x55, x56, x57, x58, x59, (by simp only [Act.put, List.setIfInBounds_toArray, List.set_cons_zero, List.set_cons_succ]), (by simp only [Act.put, List.setIfInBounds_toArray, List.set_cons_zero, List.set_cons_succ]), hb, cd0, cd1, cd2, cd3, cd4, cd5, cd6, cd7, (fun _ => rfl), (fun _ => rfl), cd10, cd11, cd12, cd13, cd14, cd16, f_k0, f_k1, f_k2, f_o17⟩
              · rintro L a w ⟨b0, b1, b2, b3, b4, b5, b6, b7, b8, b9, b10, b11, b12, b13, b14, b15, b16, b17, x44, x45, x46, x47, x48, x49, x50, x51, x52, x53, x54, x55, x56, x57, x58, x59, rfl, rfl, hb, cd0, cd1, cd2, cd3, cd4, cd5, cd6, cd7, cd8, cd9, cd10, cd11, cd12, cd13, cd14, cd16, f_k0, f_k1, f_k2, f_o17⟩ hf hd
                have hf' : b10 = false := hf
                subst hf'
                clear hf hd
                try simp only [List.setIfInBounds_toArray, List.set_cons_zero, List.set_cons_succ]
                intro K hK
                rw [if_pos (by rfl)]
                go_simp
                exact hK.out _ _ ⟨b0, b1, b2, b3, b4, b5, b6, b7, b8, b9, true, b11, b12, b13, b14, b15, b16, b17, x44, x45, x46, x47, x48, x49, x50, x51, x52, x53, (.int .i64 (j : Nat)), x55, x56, x57, x58, x59, (by simp only [Act.put, List.setIfInBounds_toArray, List.set_cons_zero, List.set_cons_succ]), (by simp only [Act.put, List.setIfInBounds_toArray, List.set_cons_zero, List.set_cons_succ]), hb, cd0, cd1, cd2, cd3, cd4, cd5, cd6, cd7, cd8, cd9, (fun _ => rfl), cd11, cd12, cd13, cd14, cd16, f_k0, f_k1, f_k2, f_o17⟩
              · rintro L a w ⟨b0, b1, b2, b3, b4, b5, b6, b7, b8, b9, b10, b11, b12, b13, b14, b15, b16, b17, x44, x45, x46, x47, x48, x49, x50, x51, x52, x53, x54, x55, x56, x57, x58, x59, rfl, rfl, hb, cd0, cd1, cd2, cd3, cd4, cd5, cd6, cd7, cd8, cd9, cd10, cd11, cd12, cd13, cd14, cd16, f_k0, f_k1, f_k2, f_o17⟩ hf hd
                have hf' : b11 = false := hf
                subst hf'
                have d9 : b9 = true := hd ⟨9, .data⟩ (by simp) rfl
                subst d9
                have d10 : b10 = true := hd ⟨10, .data⟩ (by simp) rfl
                subst d10
                obtain rfl := cd9.out rfl
                obtain rfl := cd10.out rfl
                clear hf hd
                try simp only [List.setIfInBounds_toArray, List.set_cons_zero, List.set_cons_succ]
                intro K hK
                rw [if_pos (by rfl)]
                go_simp
                exact hK.out _ _ ⟨b0, b1, b2, b3, b4, b5, b6, b7, b8, true, true, true, b12, b13, b14, b15, b16, b17, x44, x45, x46, x47, x48, x49, x50, x51, x52, .slice (some ⟨bb, off, none⟩) n c, .int .i64 (j : Nat), (.pointer (some ⟨bb, off + j * 3, none⟩)), x56, x57, x58, x59, (by simp only [Act.put, List.setIfInBounds_toArray, List.set_cons_zero, List.set_cons_succ]), (by simp only [Act.put, List.setIfInBounds_toArray, List.set_cons_zero, List.set_cons_succ]), hb, cd0, cd1, cd2, cd3, cd4, cd5, cd6, cd7, cd8, (fun _ => rfl), (fun _ => rfl), (fun _ => rfl), cd12, cd13, cd14, cd16, f_k0, f_k1, f_k2, f_o17⟩
              · rintro L a w ⟨b0, b1, b2, b3, b4, b5, b6, b7, b8, b9, b10, b11, b12, b13, b14, b15, b16, b17, x44, x45, x46, x47, x48, x49, x50, x51, x52, x53, x54, x55, x56, x57, x58, x59, rfl, rfl, hb, cd0, cd1, cd2, cd3, cd4, cd5, cd6, cd7, cd8, cd9, cd10, cd11, cd12, cd13, cd14, cd16, f_k0, f_k1, f_k2, f_o17⟩ hf hd
                have hf' : b12 = false := hf
                subst hf'
                have d11 : b11 = true := hd ⟨11, .data⟩ (by simp) rfl
                subst d11
                obtain rfl := cd11.out rfl
                clear hf hd
                try simp only [List.setIfInBounds_toArray, List.set_cons_zero, List.set_cons_succ]
                intro K hK
                rw [if_pos (by rfl)]
                go_simp
                exact hK.out _ _ ⟨b0, b1, b2, b3, b4, b5, b6, b7, b8, b9, b10, true, true, b13, b14, b15, b16, b17, x44, x45, x46, x47, x48, x49, x50, x51, x52, x53, x54, .pointer (some ⟨bb, off + j * 3, none⟩), (.pointer (some ⟨bb, off + j * 3 + 2, none⟩)), x57, x58, x59, (by simp only [Act.put, List.setIfInBounds_toArray, List.set_cons_zero, List.set_cons_succ]), (by simp only [Act.put, List.setIfInBounds_toArray, List.set_cons_zero, List.set_cons_succ]), hb, cd0, cd1, cd2, cd3, cd4, cd5, cd6, cd7, cd8, cd9, cd10, (fun _ => rfl), (fun _ => rfl), cd13, cd14, cd16, f_k0, f_k1, f_k2, f_o17⟩
              · rintro L a w ⟨b0, b1, b2, b3, b4, b5, b6, b7, b8, b9, b10, b11, b12, b13, b14, b15, b16, b17, x44, x45, x46, x47, x48, x49, x50, x51, x52, x53, x54, x55, x56, x57, x58, x59, rfl, rfl, hb, cd0, cd1, cd2, cd3, cd4, cd5, cd6, cd7, cd8, cd9, cd10, cd11, cd12, cd13, cd14, cd16, f_k0, f_k1, f_k2, f_o17⟩ hf hd
                have hf' : b13 = false := hf
                subst hf'
                have d12 : b12 = true := hd ⟨12, .data⟩ (by simp) rfl
                subst d12
                obtain rfl := cd12.out rfl
                clear hf hd
                try simp only [List.setIfInBounds_toArray, List.set_cons_zero, List.set_cons_succ]
                have z := (hb.cell hbC).trans c2
                intro K hK
                rw [if_pos (by rfl)]
                go_simp
                exact hK.out _ _ ⟨b0, b1, b2, b3, b4, b5, b6, b7, b8, b9, b10, b11, true, true, b14, b15, b16, b17, x44, x45, x46, x47, x48, x49, x50, x51, x52, x53, x54, x55, .pointer (some ⟨bb, off + j * 3 + 2, none⟩), (.bool nb), x58, x59, (by simp only [Act.put, List.setIfInBounds_toArray, List.set_cons_zero, List.set_cons_succ]), (by simp only [Act.put, List.setIfInBounds_toArray, List.set_cons_zero, List.set_cons_succ]), hb, cd0, cd1, cd2, cd3, cd4, cd5, cd6, cd7, cd8, cd9, cd10, cd11, (fun _ => rfl), (fun _ => rfl), cd14, cd16, f_k0, f_k1, f_k2, f_o17⟩
              · rintro L a w ⟨b0, b1, b2, b3, b4, b5, b6, b7, b8, b9, b10, b11, b12, b13, b14, b15, b16, b17, x44, x45, x46, x47, x48, x49, x50, x51, x52, x53, x54, x55, x56, x57, x58, x59, rfl, rfl, hb, cd0, cd1, cd2, cd3, cd4, cd5, cd6, cd7, cd8, cd9, cd10, cd11, cd12, cd13, cd14, cd16, f_k0, f_k1, f_k2, f_o17⟩ hf hd
                have hf' : b14 = false := hf
                subst hf'
                have d0 : b0 = true := hd ⟨0, .phase⟩ (by simp) rfl
                subst d0
                have d1 : b1 = true := hd ⟨1, .phase⟩ (by simp) rfl
                subst d1
                have d2 : b2 = true := hd ⟨2, .phase⟩ (by simp) rfl
                subst d2
                have d3 : b3 = true := hd ⟨3, .phase⟩ (by simp) rfl
                subst d3
                have d4 : b4 = true := hd ⟨4, .phase⟩ (by simp) rfl
                subst d4
                have d5 : b5 = true := hd ⟨5, .phase⟩ (by simp) rfl
                subst d5
                have d6 : b6 = true := hd ⟨6, .phase⟩ (by simp) rfl
                subst d6
                have d7 : b7 = true := hd ⟨7, .phase⟩ (by simp) rfl
                subst d7
                obtain rfl := cd0.out rfl
                obtain rfl := cd1.out rfl
                obtain rfl := cd2.out rfl
                obtain rfl := cd3.out rfl
                obtain rfl := cd4.out rfl
                obtain rfl := cd5.out rfl
                obtain rfl := cd6.out rfl
                obtain rfl := cd7.out rfl
                clear hf hd
                try simp only [List.setIfInBounds_toArray, List.set_cons_zero, List.set_cons_succ]
                intro K hK
                rw [if_pos (by rfl)]
                go_simp
                exact hK.out _ _ ⟨true, true, true, true, true, true, true, true, b8, b9, b10, b11, b12, b13, true, b15, b16, b17, .pointer (some ⟨p, 1, none⟩), .slice (some ⟨bb, off, none⟩) n c, .int .i64 (j : Nat), .pointer (some ⟨bb, off + j * 3, none⟩), .pointer (some ⟨bb, off + j * 3 + 1, none⟩), .int .i64 kd, .int .i64 (wd : Nat), .int .i64 K1, x52, x53, x54, x55, x56, x57, (.pointer (some ⟨gc, 1, none⟩)), x59, (by simp only [Act.put, List.setIfInBounds_toArray, List.set_cons_zero, List.set_cons_succ]), (by simp only [Act.put, List.setIfInBounds_toArray, List.set_cons_zero, List.set_cons_succ]), hb, (fun _ => rfl), (fun _ => rfl), (fun _ => rfl), (fun _ => rfl), (fun _ => rfl), (fun _ => rfl), (fun _ => rfl), (fun _ => rfl), cd8, cd9, cd10, cd11, cd12, cd13, (fun _ => rfl), cd16, f_k0, f_k1, f_k2, f_o17⟩
              · rintro L a w ⟨b0, b1, b2, b3, b4, b5, b6, b7, b8, b9, b10, b11, b12, b13, b14, b15, b16, b17, x44, x45, x46, x47, x48, x49, x50, x51, x52, x53, x54, x55, x56, x57, x58, x59, rfl, rfl, hb, cd0, cd1, cd2, cd3, cd4, cd5, cd6, cd7, cd8, cd9, cd10, cd11, cd12, cd13, cd14, cd16, f_k0, f_k1, f_k2, f_o17⟩ hf hd
                have hf' : b15 = false := hf
                subst hf'
                have d14 : b14 = true := hd ⟨14, .data⟩ (by simp) rfl
                subst d14
                have d7 : b7 = true := hd ⟨7, .data⟩ (by simp) rfl
                subst d7
                have d6 : b6 = true := hd ⟨6, .chain⟩ (by simp) rfl
                subst d6
                have d0 : b0 = true := hd ⟨0, .phase⟩ (by simp) rfl
                subst d0
                have d1 : b1 = true := hd ⟨1, .phase⟩ (by simp) rfl
                subst d1
                have d2 : b2 = true := hd ⟨2, .phase⟩ (by simp) rfl
                subst d2
                have d3 : b3 = true := hd ⟨3, .phase⟩ (by simp) rfl
                subst d3
                have d4 : b4 = true := hd ⟨4, .phase⟩ (by simp) rfl
                subst d4
                have d5 : b5 = true := hd ⟨5, .phase⟩ (by simp) rfl
                subst d5
                obtain rfl := cd14.out rfl
                obtain rfl := cd7.out rfl
                obtain rfl := cd6.out rfl
                obtain rfl := cd0.out rfl
                obtain rfl := cd1.out rfl
                obtain rfl := cd2.out rfl
                obtain rfl := cd3.out rfl
                obtain rfl := cd4.out rfl
                obtain rfl := cd5.out rfl
                clear hf hd
                have W_k0 := f_k0.out rfl
                try simp only [List.setIfInBounds_toArray, List.set_cons_zero, List.set_cons_succ]
                have d1 := cell_blk (i := 1) W_k0 rfl
                have e1 := free_blk (i := 1) W_k0
                intro K hK
                rw [if_pos (by rfl)]
                go_simp
                have hb2 := hb.setCell (p := ⟨gc, 1, none⟩) (Nat.le_refl _) (.int .i64 K1)
                exact hK.out _ _ ⟨true, true, true, true, true, true, true, true, b8, b9, b10, b11, b12, b13, true, true, b16, b17, .pointer (some ⟨p, 1, none⟩), .slice (some ⟨bb, off, none⟩) n c, .int .i64 (j : Nat), .pointer (some ⟨bb, off + j * 3, none⟩), .pointer (some ⟨bb, off + j * 3 + 1, none⟩), .int .i64 kd, .int .i64 (wd : Nat), .int .i64 K1, x52, x53, x54, x55, x56, x57, .pointer (some ⟨gc, 1, none⟩), x59, (by simp only [Act.put, List.setIfInBounds_toArray, List.set_cons_zero, List.set_cons_succ]), (by simp only [Act.put, List.setIfInBounds_toArray, List.set_cons_zero, List.set_cons_succ]), hb2, (fun _ => rfl), (fun _ => rfl), (fun _ => rfl), (fun _ => rfl), (fun _ => rfl), (fun _ => rfl), (fun _ => rfl), (fun _ => rfl), cd8, cd9, cd10, cd11, cd12, cd13, (fun _ => rfl), cd16, (fun h => by cases h), (fun _ _ => (heap_setCell_same (i := 1) W_k0).trans rfl), (fun h0 => absurd (f_o17.out h0) (by simp)), (fun _ => rfl)⟩
              · rintro L a w ⟨b0, b1, b2, b3, b4, b5, b6, b7, b8, b9, b10, b11, b12, b13, b14, b15, b16, b17, x44, x45, x46, x47, x48, x49, x50, x51, x52, x53, x54, x55, x56, x57, x58, x59, rfl, rfl, hb, cd0, cd1, cd2, cd3, cd4, cd5, cd6, cd7, cd8, cd9, cd10, cd11, cd12, cd13, cd14, cd16, f_k0, f_k1, f_k2, f_o17⟩ hf hd
                have hf' : b16 = false := hf
                subst hf'
                have d0 : b0 = true := hd ⟨0, .phase⟩ (by simp) rfl
                subst d0
                have d1 : b1 = true := hd ⟨1, .phase⟩ (by simp) rfl
                subst d1
                have d2 : b2 = true := hd ⟨2, .phase⟩ (by simp) rfl
                subst d2
                have d3 : b3 = true := hd ⟨3, .phase⟩ (by simp) rfl
                subst d3
                have d4 : b4 = true := hd ⟨4, .phase⟩ (by simp) rfl
                subst d4
                have d5 : b5 = true := hd ⟨5, .phase⟩ (by simp) rfl
                subst d5
                have d6 : b6 = true := hd ⟨6, .phase⟩ (by simp) rfl
                subst d6
                have d7 : b7 = true := hd ⟨7, .phase⟩ (by simp) rfl
                subst d7
                have d8 : b8 = true := hd ⟨8, .phase⟩ (by simp) rfl
                subst d8
                have d9 : b9 = true := hd ⟨9, .phase⟩ (by simp) rfl
                subst d9
                have d10 : b10 = true := hd ⟨10, .phase⟩ (by simp) rfl
                subst d10
                have d11 : b11 = true := hd ⟨11, .phase⟩ (by simp) rfl
                subst d11
                have d12 : b12 = true := hd ⟨12, .phase⟩ (by simp) rfl
                subst d12
                have d13 : b13 = true := hd ⟨13, .phase⟩ (by simp) rfl
                subst d13
                have d14 : b14 = true := hd ⟨14, .phase⟩ (by simp) rfl
                subst d14
                have d15 : b15 = true := hd ⟨15, .phase⟩ (by simp) rfl
                subst d15
                obtain rfl := cd0.out rfl
                obtain rfl := cd1.out rfl
                obtain rfl := cd2.out rfl
                obtain rfl := cd3.out rfl
                obtain rfl := cd4.out rfl
                obtain rfl := cd5.out rfl
                obtain rfl := cd6.out rfl
                obtain rfl := cd7.out rfl
                obtain rfl := cd8.out rfl
                obtain rfl := cd9.out rfl
                obtain rfl := cd10.out rfl
                obtain rfl := cd11.out rfl
                obtain rfl := cd12.out rfl
                obtain rfl := cd13.out rfl
                obtain rfl := cd14.out rfl
                clear hf hd
                try simp only [List.setIfInBounds_toArray, List.set_cons_zero, List.set_cons_succ]
                intro K hK
                rw [if_pos (by rfl)]
                go_simp
                exact hK.out _ _ ⟨true, true, true, true, true, true, true, true, true, true, true, true, true, true, true, true, true, b17, .pointer (some ⟨p, 1, none⟩), .slice (some ⟨bb, off, none⟩) n c, .int .i64 (j : Nat), .pointer (some ⟨bb, off + j * 3, none⟩), .pointer (some ⟨bb, off + j * 3 + 1, none⟩), .int .i64 kd, .int .i64 (wd : Nat), .int .i64 K1, .pointer (some ⟨p, 1, none⟩), .slice (some ⟨bb, off, none⟩) n c, .int .i64 (j : Nat), .pointer (some ⟨bb, off + j * 3, none⟩), .pointer (some ⟨bb, off + j * 3 + 2, none⟩), .bool nb, .pointer (some ⟨gc, 1, none⟩), (.pointer (some ⟨gc, 2, none⟩)), (by simp only [Act.put, List.setIfInBounds_toArray, List.set_cons_zero, List.set_cons_succ]), (by simp only [Act.put, List.setIfInBounds_toArray, List.set_cons_zero, List.set_cons_succ]), hb, (fun _ => rfl), (fun _ => rfl), (fun _ => rfl), (fun _ => rfl), (fun _ => rfl), (fun _ => rfl), (fun _ => rfl), (fun _ => rfl), (fun _ => rfl), (fun _ => rfl), (fun _ => rfl), (fun _ => rfl), (fun _ => rfl), (fun _ => rfl), (fun _ => rfl), (fun _ => rfl), (fun h => by cases h), f_k1, f_k2, f_o17⟩
              · rintro L a w ⟨b0, b1, b2, b3, b4, b5, b6, b7, b8, b9, b10, b11, b12, b13, b14, b15, b16, b17, x44, x45, x46, x47, x48, x49, x50, x51, x52, x53, x54, x55, x56, x57, x58, x59, rfl, rfl, hb, cd0, cd1, cd2, cd3, cd4, cd5, cd6, cd7, cd8, cd9, cd10, cd11, cd12, cd13, cd14, cd16, f_k0, f_k1, f_k2, f_o17⟩ hf hd
                have hf' : b17 = false := hf
                subst hf'
                have d16 : b16 = true := hd ⟨16, .data⟩ (by simp) rfl
                subst d16
                have d13 : b13 = true := hd ⟨13, .data⟩ (by simp) rfl
                subst d13
                have d15 : b15 = true := hd ⟨15, .chain⟩ (by simp) rfl
                subst d15
                have d0 : b0 = true := hd ⟨0, .phase⟩ (by simp) rfl
                subst d0
                have d1 : b1 = true := hd ⟨1, .phase⟩ (by simp) rfl
                subst d1
                have d2 : b2 = true := hd ⟨2, .phase⟩ (by simp) rfl
                subst d2
                have d3 : b3 = true := hd ⟨3, .phase⟩ (by simp) rfl
                subst d3
                have d4 : b4 = true := hd ⟨4, .phase⟩ (by simp) rfl
                subst d4
                have d5 : b5 = true := hd ⟨5, .phase⟩ (by simp) rfl
                subst d5
                have d6 : b6 = true := hd ⟨6, .phase⟩ (by simp) rfl
                subst d6
                have d7 : b7 = true := hd ⟨7, .phase⟩ (by simp) rfl
                subst d7
                have d8 : b8 = true := hd ⟨8, .phase⟩ (by simp) rfl
                subst d8
                have d9 : b9 = true := hd ⟨9, .phase⟩ (by simp) rfl
                subst d9
                have d10 : b10 = true := hd ⟨10, .phase⟩ (by simp) rfl
                subst d10
                have d11 : b11 = true := hd ⟨11, .phase⟩ (by simp) rfl
                subst d11
                have d12 : b12 = true := hd ⟨12, .phase⟩ (by simp) rfl
                subst d12
                have d14 : b14 = true := hd ⟨14, .phase⟩ (by simp) rfl
                subst d14
                obtain rfl := cd16.out rfl
                obtain rfl := cd13.out rfl
                obtain rfl := cd0.out rfl
                obtain rfl := cd1.out rfl
                obtain rfl := cd2.out rfl
                obtain rfl := cd3.out rfl
                obtain rfl := cd4.out rfl
                obtain rfl := cd5.out rfl
                obtain rfl := cd6.out rfl
                obtain rfl := cd7.out rfl
                obtain rfl := cd8.out rfl
                obtain rfl := cd9.out rfl
                obtain rfl := cd10.out rfl
                obtain rfl := cd11.out rfl
                obtain rfl := cd12.out rfl
                obtain rfl := cd14.out rfl
                clear hf hd
                have W_k1 := f_k1.out rfl rfl
                try simp only [List.setIfInBounds_toArray, List.set_cons_zero, List.set_cons_succ]
                have d1 := cell_blk (i := 2) W_k1 rfl
                have e1 := free_blk (i := 2) W_k1
                intro K hK
                rw [if_pos (by rfl)]
                go_simp
                have hb2 := hb.setCell (p := ⟨gc, 2, none⟩) (Nat.le_refl _) (.bool nb)
                exact hK.out _ _ ⟨true, true, true, true, true, true, true, true, true, true, true, true, true, true, true, true, true, true, .pointer (some ⟨p, 1, none⟩), .slice (some ⟨bb, off, none⟩) n c, .int .i64 (j : Nat), .pointer (some ⟨bb, off + j * 3, none⟩), .pointer (some ⟨bb, off + j * 3 + 1, none⟩), .int .i64 kd, .int .i64 (wd : Nat), .int .i64 K1, .pointer (some ⟨p, 1, none⟩), .slice (some ⟨bb, off, none⟩) n c, .int .i64 (j : Nat), .pointer (some ⟨bb, off + j * 3, none⟩), .pointer (some ⟨bb, off + j * 3 + 2, none⟩), .bool nb, .pointer (some ⟨gc, 1, none⟩), .pointer (some ⟨gc, 2, none⟩), (by simp only [Act.put, List.setIfInBounds_toArray, List.set_cons_zero, List.set_cons_succ]), (by simp only [Act.put, List.setIfInBounds_toArray, List.set_cons_zero, List.set_cons_succ]), hb2, (fun _ => rfl), (fun _ => rfl), (fun _ => rfl), (fun _ => rfl), (fun _ => rfl), (fun _ => rfl), (fun _ => rfl), (fun _ => rfl), (fun _ => rfl), (fun _ => rfl), (fun _ => rfl), (fun _ => rfl), (fun _ => rfl), (fun _ => rfl), (fun _ => rfl), (fun _ => rfl), (fun h => by cases h), (fun _ h => by cases h), (fun _ => (heap_setCell_same (i := 2) W_k1).trans rfl), (fun _ => rfl)⟩
            · rintro a V ⟨b0, b1, b2, b3, b4, b5, b6, b7, b8, b9, b10, b11, b12, b13, b14, b15, b16, b17, x44, x45, x46, x47, x48, x49, x50, x51, x52, x53, x54, x55, x56, x57, x58, x59, hL, rfl, hb, cd0, cd1, cd2, cd3, cd4, cd5, cd6, cd7, cd8, cd9, cd10, cd11, cd12, cd13, cd14, cd16, f_k0, f_k1, f_k2, f_o17⟩
              have hL' : [true, true, true, true, true, true, true, true, true, true, true, true, true, true, true, true, true, true] = [b0, b1, b2, b3, b4, b5, b6, b7, b8, b9, b10, b11, b12, b13, b14, b15, b16, b17] := congrArg Array.toList hL
              simp only [List.cons.injEq, and_true] at hL'
              obtain ⟨rfl, rfl, rfl, rfl, rfl, rfl, rfl, rfl, rfl, rfl, rfl, rfl, rfl, rfl, rfl, rfl, rfl, rfl⟩ := hL'
              obtain rfl := cd0.out rfl
              obtain rfl := cd1.out rfl
              obtain rfl := cd2.out rfl
              obtain rfl := cd3.out rfl
              obtain rfl := cd4.out rfl
              obtain rfl := cd5.out rfl
              obtain rfl := cd6.out rfl
              obtain rfl := cd7.out rfl
              obtain rfl := cd8.out rfl
              obtain rfl := cd9.out rfl
              obtain rfl := cd10.out rfl
              obtain rfl := cd11.out rfl
              obtain rfl := cd12.out rfl
              obtain rfl := cd13.out rfl
              obtain rfl := cd14.out rfl
              obtain rfl := cd16.out rfl
              have W_k2 := f_k2.out rfl
              have W_o17 := f_o17.out rfl
              clear hL f_k0 f_k1 f_k2 f_o17 cd0 cd1 cd2 cd3 cd4 cd5 cd6 cd7 cd8 cd9 cd10 cd11 cd12 cd13 cd14 cd16
              simp only [List.setIfInBounds_toArray, List.set_cons_zero, List.set_cons_succ]
              have BV : Below wr.heap.size wr V := (BV0.drew).trans (hb.mono hgcw)
              have CV : CoB V gc ⟨[nu], K1, nb⟩ := W_k2
              clear hb W_k2 W_o17 k00 BV0 c1 c2
              have XV := X'.past BV
              have XPV := XPr.past BV
              have XRV := XRr.past BV
              have BpV := B.trans (BV.mono (Nat.le_of_lt hsz))
              have k0 : V.cell? ⟨gc, 0, none⟩ = some (.string (bsOf [nu])) := cell_blk CV rfl
              have k1 : V.cell? ⟨gc, 1, none⟩ = some (.int .i64 K1) := cell_blk CV rfl
              have k2 : V.cell? ⟨gc, 2, none⟩ = some (.bool nb) := cell_blk CV rfl
              have v1 : V.cell? ⟨gv, 1, none⟩ = some (.slice none 0 0) := cell_blk XV rfl
              have hlit : IsR encCo (V.alloc (.cells #[.string (bsOf [nu]), .int .i64 K1, .bool nb] 156)) (some ⟨V.heap.size, 0, none⟩) 1 1 [⟨[nu], K1, nb⟩] := (OwnR.ofBlk (E := encCo) (l := [⟨[nu], K1, nb⟩]) (n := 1) (heap_alloc_new V _) rfl rfl (by omega)).isR
              have BL : Below V.heap.size V (V.alloc (.cells #[.string (bsOf [nu]), .int .i64 K1, .bool nb] 156)) := (Below.refl _ _).alloc (Nat.le_refl _) _
              have HLIT := Lib.hid hlit
              skip
              have hpV := XPV.lt
              have hgvV := XV.lt
              have hrV := XRV.lt
              clear hlit cv y1 CV
              go_wp2_with (at_builtin; go_loud (refine wpList_append_nr rfl _ _ 38 38 rfl 156 rowTyC 0 rfl rfl _ rfl 1 [⟨[nu], K1, nb⟩] (HLIT.out.src rowTyC.ht) rfl (by omega) (by omega) ?_); intro g2 c2 w9 o9 b9 q9; have BX := (BL.trans (b9.mono BL.size)); have X9 := (XV.past BX); have e1 := cell_blk (i := 1) X9 rfl; have f1 := free_blk (i := 1) X9)
              have hVs := BpV.size
              have B9 : Below p w w9 := BpV.trans (BX.mono (by omega))
              have hp9 := B9.size
              skip
              have hg2 : g2 ≠ gv ∧ g2 ≠ p ∧ g2 ≠ r ∧ p ≤ g2 := by have := BL.size; simp only [World.size_alloc] at q9; omega
              have XA : ScB (w9.setCell ⟨gv, 1, none⟩ (.slice (some ⟨g2, 0, none⟩) 1 c2)) gv NQ (some ⟨g2, 0, none⟩) 1 c2 0 only := (heap_setCell_same (i := 1) X9).trans rfl
              have oA := o9.kept (w' := w9.setCell ⟨gv, 1, none⟩ (.slice (some ⟨g2, 0, none⟩) 1 c2)) (heap_setCell_other _ _ g2 _ (by simpa using hg2.1))
              have XPA : ScB (w9.setCell ⟨gv, 1, none⟩ (.slice (some ⟨g2, 0, none⟩) 1 c2)) p l _ n c key only := (heap_setCell_other _ _ p _ (by simpa using hgp2.1)).trans (XPV.past BX)
              have XRA : ScB (w9.setCell ⟨gv, 1, none⟩ (.slice (some ⟨g2, 0, none⟩) 1 c2)) r [] none 0 0 0 false := (heap_setCell_other _ _ r _ (by simpa using hgp2.2)).trans (XRV.past BX)
              have BAA : Below p w (w9.setCell ⟨gv, 1, none⟩ (.slice (some ⟨g2, 0, none⟩) 1 c2)) := B9.setCell (p := ⟨gv, 1, none⟩) (by show p ≤ gv; omega) _
              go_roundw
              case rel => exact ⟨1, some ⟨g2, 0, none⟩, c2, by omega, by rw [HJ0.out]; go_num, XA, .inr ⟨by omega, g2, rfl, by rw [show gCols cs 1 = [gAt cs j] by rw [HJ0.out]; rfl, HGAT.out]; exact oA, hg2.2.2.2, hg2.1, hg2.2.1, hg2.2.2.1⟩, XPA, XRA, BAA⟩
              case measure => simp [intOf]; omega
          · have hj1 : ¬ ((j : Int) < 1) := by omega
            rcases hO with ⟨h0, -, -⟩ | ⟨hjp, g', rfl, hO2, hpg', hg3, hg4, hg5⟩
            · exact absurd h0 hj0
            have HNX : Hid (gCols cs j ++ [⟨[nu], K1, nb⟩] = gCols cs (j + 1)) := by
              show _ = _
              rw [← HGAT.out]
              exact gCols_next cs j
            go_upto_region 7 with fail
            generalize (wr.alloc (.cells #[.int .u8 (97 + (j : Int))] 5)).alloc (.cells #[.string (bsOf [nu]), .int .i64 2, .bool false] 156) = V0 at HC7 HB7 ⊢
            obtain ⟨gc, hgc⟩ : ∃ gc, wr.heap.size + 1 = gc := ⟨_, rfl⟩
            have k00 := HC7.out
            rw [hgc] at k00
            simp only [hgc]
            have hgcw : wr.heap.size ≤ gc := by omega
            have HGC := Lib.hid hgc
            have BV0 := HB7.out
            clear hgc HC7 HB7
            have hB0 : gc ≤ V0.heap.size := Nat.le_of_lt k00.lt
            have hpC : p < gc := by omega
            have hbC : bb < gc := by omega
            replace y1 : V0.cell? ⟨p, 1, none⟩ = some (.slice (some ⟨bb, off, none⟩) n c) := cell_blk (XPr.past BV0) rfl
            have BwV0 := B.trans (BV0.mono (Nat.le_of_lt hsz))
            rw [← BwV0.cell hbb] at c1 c2
            have hgcg : gv < gc ∧ r < gc := by have := XRr.lt
                                               omega
            clear BwV0
            refine region_inv (SGood7 gc p bb off n c j kd wd K1 nb [nu]) (by kernel_rfl) (by kernel_rfl) ?_ ?_ ?_
            · exact ⟨false, false, false, false, false, false, false, false, false, false, false, false, false, false, false, false, false, false, u44, u45, u46, u47, u48, u49, u50, u51, u52, u53, u54, u55, u56, u57, u58, u59, rfl, (by simp only [Act.put, List.setIfInBounds_toArray, List.set_cons_zero, List.set_cons_succ]), Below.refl _ _, (fun h => by cases h), (fun h => by cases h), (fun h => by cases h), (fun h => by cases h), (fun h => by cases h), (fun h => by cases h), (fun h => by cases h), (fun h => by cases h), (fun h => by cases h), (fun h => by cases h), (fun h => by cases h), (fun h => by cases h), (fun h => by cases h), (fun h => by cases h), (fun h => by cases h), (fun h => by cases h), (fun h1 => k00), (fun h => by cases h), (fun h => by cases h), (fun h => by cases h)⟩
            · refine ⟨?_, ?_, ?_, ?_, ?_, ?_, ?_, ?_, ?_, ?_, ?_, ?_, ?_, ?_, ?_, ?_, ?_, ?_, trivial⟩
              · rintro L a w ⟨b0, b1, b2, b3, b4, b5, b6, b7, b8, b9, b10, b11, b12, b13, b14, b15, b16, b17, x44, x45, x46, x47, x48, x49, x50, x51, x52, x53, x54, x55, x56, x57, x58, x59, rfl, rfl, hb, cd0, cd1, cd2, cd3, cd4, cd5, cd6, cd7, cd8, cd9, cd10, cd11, cd12, cd13, cd14, cd16, f_k0, f_k1, f_k2, f_o17⟩ hf hd
                have hf' : b0 = false := hf
                subst hf'
                clear hf hd
                try simp only [List.setIfInBounds_toArray, List.set_cons_zero, List.set_cons_succ]
                intro K hK
                rw [if_pos (by rfl)]
                go_simp
                exact hK.out _ _ ⟨true, b1, b2, b3, b4, b5, b6, b7, b8, b9, b10, b11, b12, b13, b14, b15, b16, b17, (.pointer (some ⟨p, 1, none⟩)), x45, x46, x47, x48, x49, x50, x51, x52, x53, x54, x55, x56, x57, x58, x59, (by simp only [Act.put, List.setIfInBounds_toArray, List.set_cons_zero, List.set_cons_succ]), (by simp only [Act.put, List.setIfInBounds_toArray, List.set_cons_zero, List.set_cons_succ]), hb, (fun _ => rfl), cd1, cd2, cd3, cd4, cd5, cd6, cd7, cd8, cd9, cd10, cd11, cd12, cd13, cd14, cd16, f_k0, f_k1, f_k2, f_o17⟩
              · rintro L a w ⟨b0, b1, b2, b3, b4, b5, b6, b7, b8, b9, b10, b11, b12, b13, b14, b15, b16, b17, x44, x45, x46, x47, x48, x49, x50, x51, x52, x53, x54, x55, x56, x57, x58, x59, rfl, rfl, hb, cd0, cd1, cd2, cd3, cd4, cd5, cd6, cd7, cd8, cd9, cd10, cd11, cd12, cd13, cd14, cd16, f_k0, f_k1, f_k2, f_o17⟩ hf hd
                have hf' : b1 = false := hf
                subst hf'
                have d0 : b0 = true := hd ⟨0, .data⟩ (by simp) rfl
                subst d0
                obtain rfl := cd0.out rfl
                clear hf hd
                try simp only [List.setIfInBounds_toArray, List.set_cons_zero, List.set_cons_succ]
                have z := (hb.cell hpC).trans y1
                intro K hK
                rw [if_pos (by rfl)]
                go_simp
                exact hK.out _ _ ⟨true, true, b2, b3, b4, b5, b6, b7, b8, b9, b10, b11, b12, b13, b14, b15, b16, b17, .pointer (some ⟨p, 1, none⟩), (.slice (some ⟨bb, off, none⟩) n c), x46, x47, x48, x49, x50, x51, x52, x53, x54, x55, x56, x57, x58, x59, (by simp only [Act.put, List.setIfInBounds_toArray, List.set_cons_zero, List.set_cons_succ]), (by simp only [Act.put, List.setIfInBounds_toArray, List.set_cons_zero, List.set_cons_succ]), hb, (fun _ => rfl), (fun _ => rfl), cd2, cd3, cd4, cd5, cd6, cd7, cd8, cd9, cd10, cd11, cd12, cd13, cd14, cd16, f_k0, f_k1, f_k2, f_o17⟩
              · rintro L a w ⟨b0, b1, b2, b3, b4, b5, b6, b7, b8, b9, b10, b11, b12, b13, b14, b15, b16, b17, x44, x45, x46, x47, x48, x49, x50, x51, x52, x53, x54, x55, x56, x57, x58, x59, rfl, rfl, hb, cd0, cd1, cd2, cd3, cd4, cd5, cd6, cd7, cd8, cd9, cd10, cd11, cd12, cd13, cd14, cd16, f_k0, f_k1, f_k2, f_o17⟩ hf hd
                have hf' : b2 = false := hf
                subst hf'
                clear hf hd
                try simp only [List.setIfInBounds_toArray, List.set_cons_zero, List.set_cons_succ]
                intro K hK
                rw [if_pos (by rfl)]
                go_simp
                exact hK.out _ _ ⟨b0, b1, true, b3, b4, b5, b6, b7, b8, b9, b10, b11, b12, b13, b14, b15, b16, b17, x44, x45, (.int .i64 (j : Nat)), x47, x48, x49, x50, x51, x52, x53, x54, x55, x56, x57, x58, x59, (by simp only [Act.put, List.setIfInBounds_toArray, List.set_cons_zero, List.set_cons_succ]), (by simp only [Act.put, List.setIfInBounds_toArray, List.set_cons_zero, List.set_cons_succ]), hb, cd0, cd1, (fun _ => rfl), cd3, cd4, cd5, cd6, cd7, cd8, cd9, cd10, cd11, cd12, cd13, cd14, cd16, f_k0, f_k1, f_k2, f_o17⟩
              · rintro L a w ⟨b0, b1, b2, b3, b4, b5, b6, b7, b8, b9, b10, b11, b12, b13, b14, b15, b16, b17, x44, x45, x46, x47, x48, x49, x50, x51, x52, x53, x54, x55, x56, x57, x58, x59, rfl, rfl, hb, cd0, cd1, cd2, cd3, cd4, cd5, cd6, cd7, cd8, cd9, cd10, cd11, cd12, cd13, cd14, cd16, f_k0, f_k1, f_k2, f_o17⟩ hf hd
                have hf' : b3 = false := hf
                subst hf'
                have d1 : b1 = true := hd ⟨1, .data⟩ (by simp) rfl
                subst d1
                have d2 : b2 = true := hd ⟨2, .data⟩ (by simp) rfl
                subst d2
                obtain rfl := cd1.out rfl
                obtain rfl := cd2.out rfl
                clear hf hd
                try simp only [List.setIfInBounds_toArray, List.set_cons_zero, List.set_cons_succ]
                intro K hK
                rw [if_pos (by rfl)]
                go_simp
                exact hK.out _ _ ⟨b0, true, true, true, b4, b5, b6, b7, b8, b9, b10, b11, b12, b13, b14, b15, b16, b17, x44, .slice (some ⟨bb, off, none⟩) n c, .int .i64 (j : Nat), (.pointer (some ⟨bb, off + j * 3, none⟩)), x48, x49, x50, x51, x52, x53, x54, x55, x56, x57, x58, x59, (by simp only [Act.put, List.setIfInBounds_toArray, List.set_cons_zero, List.set_cons_succ]), (by simp only [Act.put, List.setIfInBounds_toArray, List.set_cons_zero, List.set_cons_succ]), hb, cd0, (fun _ => rfl), (fun _ => rfl), (fun _ => rfl), cd4, cd5, cd6, cd7, cd8, cd9, cd10, cd11, cd12, cd13, cd14, cd16, f_k0, f_k1, f_k2, f_o17⟩
              · rintro L a w ⟨b0, b1, b2, b3, b4, b5, b6, b7, b8, b9, b10, b11, b12, b13, b14, b15, b16, b17, x44, x45, x46, x47, x48, x49, x50, x51, x52, x53, x54, x55, x56, x57, x58, x59, rfl, rfl, hb, cd0, cd1, cd2, cd3, cd4, cd5, cd6, cd7, cd8, cd9, cd10, cd11, cd12, cd13, cd14, cd16, f_k0, f_k1, f_k2, f_o17⟩ hf hd
                have hf' : b4 = false := hf
                subst hf'
                have d3 : b3 = true := hd ⟨3, .data⟩ (by simp) rfl
                subst d3
                obtain rfl := cd3.out rfl
                clear hf hd
                try simp only [List.setIfInBounds_toArray, List.set_cons_zero, List.set_cons_succ]
                intro K hK
                rw [if_pos (by rfl)]
                go_simp
                exact hK.out _ _ ⟨b0, b1, b2, true, true, b5, b6, b7, b8, b9, b10, b11, b12, b13, b14, b15, b16, b17, x44, x45, x46, .pointer (some ⟨bb, off + j * 3, none⟩), (.pointer (some ⟨bb, off + j * 3 + 1, none⟩)), x49, x50, x51, x52, x53, x54, x55, x56, x57, x58, x59, (by simp only [Act.put, List.setIfInBounds_toArray, List.set_cons_zero, List.set_cons_succ]), (by simp only [Act.put, List.setIfInBounds_toArray, List.set_cons_zero, List.set_cons_succ]), hb, cd0, cd1, cd2, (fun _ => rfl), (fun _ => rfl), cd5, cd6, cd7, cd8, cd9, cd10, cd11, cd12, cd13, cd14, cd16, f_k0, f_k1, f_k2, f_o17⟩
              · rintro L a w ⟨b0, b1, b2, b3, b4, b5, b6, b7, b8, b9, b10, b11, b12, b13, b14, b15, b16, b17, x44, x45, x46, x47, x48, x49, x50, x51, x52, x53, x54, x55, x56, x57, x58, x59, rfl, rfl, hb, cd0, cd1, cd2, cd3, cd4, cd5, cd6, cd7, cd8, cd9, cd10, cd11, cd12, cd13, cd14, cd16, f_k0, f_k1, f_k2, f_o17⟩ hf hd
                have hf' : b5 = false := hf
                subst hf'
                have d4 : b4 = true := hd ⟨4, .data⟩ (by simp) rfl
                subst d4
                obtain rfl := cd4.out rfl
                clear hf hd
                try simp only [List.setIfInBounds_toArray, List.set_cons_zero, List.set_cons_succ]
                have z := (hb.cell hbC).trans c1
                intro K hK
                rw [if_pos (by rfl)]
                go_simp
                exact hK.out _ _ ⟨b0, b1, b2, b3, true, true, b6, b7, b8, b9, b10, b11, b12, b13, b14, b15, b16, b17, x44, x45, x46, x47, .pointer (some ⟨bb, off + j * 3 + 1, none⟩), (.int .i64 kd), x50, x51, x52, x53, x54, x55, x56, x57, x58, x59, (by simp only [Act.put, List.setIfInBounds_toArray, List.set_cons_zero, List.set_cons_succ]), (by simp only [Act.put, List.setIfInBounds_toArray, List.set_cons_zero, List.set_cons_succ]), hb, cd0, cd1, cd2, cd3, (fun _ => rfl), (fun _ => rfl), cd6, cd7, cd8, cd9, cd10, cd11, cd12, cd13, cd14, cd16, f_k0, f_k1, f_k2, f_o17⟩
              · rintro L a w ⟨b0, b1, b2, b3, b4, b5, b6, b7, b8, b9, b10, b11, b12, b13, b14, b15, b16, b17, x44, x45, x46, x47, x48, x49, x50, x51, x52, x53, x54, x55, x56, x57, x58, x59, rfl, rfl, hb, cd0, cd1, cd2, cd3, cd4, cd5, cd6, cd7, cd8, cd9, cd10, cd11, cd12, cd13, cd14, cd16, f_k0, f_k1, f_k2, f_o17⟩ hf hd
                have hf' : b6 = false := hf
                subst hf'
                have d5 : b5 = true := hd ⟨5, .data⟩ (by simp) rfl
                subst d5
                obtain rfl := cd5.out rfl
                clear hf hd
                try simp only [List.setIfInBounds_toArray, List.set_cons_zero, List.set_cons_succ]
                intro K hK
                rw [if_pos (by rfl)]
                go_simp
                go_at_call 73
                refine (HWK _).mono ?_
                rintro e w' ⟨rfl, rfl⟩
                exact hK.out _ _ ⟨b0, b1, b2, b3, b4, true, true, b7, b8, b9, b10, b11, b12, b13, b14, b15, b16, b17, x44, x45, x46, x47, x48, .int .i64 kd, (.int .i64 (wd : Nat)), x51, x52, x53, x54, x55, x56, x57, x58, x59, (by simp only [Act.put, List.setIfInBounds_toArray, List.set_cons_zero, List.set_cons_succ]), (by simp only [Act.put, List.setIfInBounds_toArray, List.set_cons_zero, List.set_cons_succ]), hb, cd0, cd1, cd2, cd3, cd4, (fun _ => rfl), (fun _ => rfl), cd7, cd8, cd9, cd10, cd11, cd12, cd13, cd14, cd16, f_k0, f_k1, f_k2, f_o17⟩
              · rintro L a w ⟨b0, b1, b2, b3, b4, b5, b6, b7, b8, b9, b10, b11, b12, b13, b14, b15, b16, b17, x44, x45, x46, x47, x48, x49, x50, x51, x52, x53, x54, x55, x56, x57, x58, x59, rfl, rfl, hb, cd0, cd1, cd2, cd3, cd4, cd5, cd6, cd7, cd8, cd9, cd10, cd11, cd12, cd13, cd14, cd16, f_k0, f_k1, f_k2, f_o17⟩ hf hd
                have hf' : b7 = false := hf
                subst hf'
                have d6 : b6 = true := hd ⟨6, .data⟩ (by simp) rfl
                subst d6
                obtain rfl := cd6.out rfl
                clear hf hd
                try simp only [List.setIfInBounds_toArray, List.set_cons_zero, List.set_cons_succ]
                intro K hK
                rw [if_pos (by rfl)]
                go_simp
                rw [HK1.out]
                exact hK.out _ _ ⟨b0, b1, b2, b3, b4, b5, true, true, b8, b9, b10, b11, b12, b13, b14, b15, b16, b17, x44, x45, x46, x47, x48, x49, .int .i64 (wd : Nat), (.int .i64 K1), x52, x53, x54, x55, x56, x57, x58, x59, (by simp only [Act.put, List.setIfInBounds_toArray, List.set_cons_zero, List.set_cons_succ]), (by simp only [Act.put, List.setIfInBounds_toArray, List.set_cons_zero, List.set_cons_succ]), hb, cd0, cd1, cd2, cd3, cd4, cd5, (fun _ => rfl), (fun _ => rfl), cd8, cd9, cd10, cd11, cd12, cd13, cd14, cd16, f_k0, f_k1, f_k2, f_o17⟩
              · rintro L a w ⟨b0, b1, b2, b3, b4, b5, b6, b7, b8, b9, b10, b11, b12, b13, b14, b15, b16, b17, x44, x45, x46, x47, x48, x49, x50, x51, x52, x53, x54, x55, x56, x57, x58, x59, rfl, rfl, hb, cd0, cd1, cd2, cd3, cd4, cd5, cd6, cd7, cd8, cd9, cd10, cd11, cd12, cd13, cd14, cd16, f_k0, f_k1, f_k2, f_o17⟩ hf hd
                have hf' : b8 = false := hf
                subst hf'
                clear hf hd
                try simp only [List.setIfInBounds_toArray, List.set_cons_zero, List.set_cons_succ]
                intro K hK
                rw [if_pos (by rfl)]
                go_simp
                exact hK.out _ _ ⟨b0, b1, b2, b3, b4, b5, b6, b7, true, b9, b10, b11, b12, b13, b14, b15, b16, b17, x44, x45, x46, x47, x48, x49, x50, x51, (.pointer (some ⟨p, 1, none⟩)), x53, x54, x55, x56, x57, x58, x59, (by simp only [Act.put, List.setIfInBounds_toArray, List.set_cons_zero, List.set_cons_succ]), (by simp only [Act.put, List.setIfInBounds_toArray, List.set_cons_zero, List.set_cons_succ]), hb, cd0, cd1, cd2, cd3, cd4, cd5, cd6, cd7, (fun _ => rfl), cd9, cd10, cd11, cd12, cd13, cd14, cd16, f_k0, f_k1, f_k2, f_o17⟩
              · rintro L a w ⟨b0, b1, b2, b3, b4, b5, b6, b7, b8, b9, b10, b11, b12, b13, b14, b15, b16, b17, x44, x45, x46, x47, x48, x49, x50, x51, x52, x53, x54, x55, x56, x57, x58, x59, rfl, rfl, hb, cd0, cd1, cd2, cd3, cd4, cd5, cd6, cd7, cd8, cd9, cd10, cd11, cd12, cd13, cd14, cd16, f_k0, f_k1, f_k2, f_o17⟩ hf hd
                have hf' : b9 = false := hf
                subst hf'
                have d8 : b8 = true := hd ⟨8, .data⟩ (by simp) rfl
                subst d8
                obtain rfl := cd8.out rfl
                clear hf hd
                try simp only [List.setIfInBounds_toArray, List.set_cons_zero, List.set_cons_succ]
                have z := (hb.cell hpC).trans y1
                intro K hK
                rw [if_pos (by rfl)]
                go_simp
                exact hK.out _ _ ⟨b0, b1, b2, b3, b4, b5, b6, b7, true, true, b10, b11, b12, b13, b14, b15, b16, b17, x44, x45, x46, x47, x48, x49, x50, x51, .pointer (some ⟨p, 1, none⟩), (.slice (some ⟨bb, off, none⟩) n c), x54, x55, x56, x57, x58, x59, (by simp only [Act.put, List.setIfInBounds_toArray, List.set_cons_zero, List.set_cons_succ]), (by simp only [Act.put, List.setIfInBounds_toArray, List.set_cons_zero, List.set_cons_succ]), hb, cd0, cd1, cd2, cd3, cd4, cd5, cd6, cd7, (fun _ => rfl), (fun _ => rfl), cd10, cd11, cd12, cd13, cd14, cd16, f_k0, f_k1, f_k2, f_o17⟩
              · rintro L a w ⟨b0, b1, b2, b3, b4, b5, b6, b7, b8, b9, b10, b11, b12, b13, b14, b15, b16, b17, x44, x45, x46, x47, x48, x49, x50, x51, x52, x53, x54, x55, x56, x57, x58, x59, rfl, rfl, hb, cd0, cd1, cd2, cd3, cd4, cd5, cd6, cd7, cd8, cd9, cd10, cd11, cd12, cd13, cd14, cd16, f_k0, f_k1, f_k2, f_o17⟩ hf hd
                have hf' : b10 = false := hf
                subst hf'
                clear hf hd
                try simp only [List.setIfInBounds_toArray, List.set_cons_zero, List.set_cons_succ]
                intro K hK
                rw [if_pos (by rfl)]
                go_simp
                exact hK.out _ _ ⟨b0, b1, b2, b3, b4, b5, b6, b7, b8, b9, true, b11, b12, b13, b14, b15, b16, b17, x44, x45, x46, x47, x48, x49, x50, x51, x52, x53, (.int .i64 (j : Nat)), x55, x56, x57, x58, x59, (by simp only [Act.put, List.setIfInBounds_toArray, List.set_cons_zero, List.set_cons_succ]), (by simp only [Act.put, List.setIfInBounds_toArray, List.set_cons_zero, List.set_cons_succ]), hb, cd0, cd1, cd2, cd3, cd4, cd5, cd6, cd7, cd8, cd9, (fun _ => rfl), cd11, cd12, cd13, cd14, cd16, f_k0, f_k1, f_k2, f_o17⟩
              · rintro L a w ⟨b0, b1, b2, b3, b4, b5, b6, b7, b8, b9, b10, b11, b12, b13, b14, b15, b16, b17, x44, x45, x46, x47, x48, x49, x50, x51, x52, x53, x54, x55, x56, x57, x58, x59, rfl, rfl, hb, cd0, cd1, cd2, cd3, cd4, cd5, cd6, cd7, cd8, cd9, cd10, cd11, cd12, cd13, cd14, cd16, f_k0, f_k1, f_k2, f_o17⟩ hf hd
                have hf' : b11 = false := hf
                subst hf'
                have d9 : b9 = true := hd ⟨9, .data⟩ (by simp) rfl
                subst d9
                have d10 : b10 = true := hd ⟨10, .data⟩ (by simp) rfl
                subst d10
                obtain rfl := cd9.out rfl
                obtain rfl := cd10.out rfl
                clear hf hd
                try simp only [List.setIfInBounds_toArray, List.set_cons_zero, List.set_cons_succ]
                intro K hK
                rw [if_pos (by rfl)]
                go_simp
                exact hK.out _ _ ⟨b0, b1, b2, b3, b4, b5, b6, b7, b8, true, true, true, b12, b13, b14, b15, b16, b17, x44, x45, x46, x47, x48, x49, x50, x51, x52, .slice (some ⟨bb, off, none⟩) n c, .int .i64 (j : Nat), (.pointer (some ⟨bb, off + j * 3, none⟩)), x56, x57, x58, x59, (by simp only [Act.put, List.setIfInBounds_toArray, List.set_cons_zero, List.set_cons_succ]), (by simp only [Act.put, List.setIfInBounds_toArray, List.set_cons_zero, List.set_cons_succ]), hb, cd0, cd1, cd2, cd3, cd4, cd5, cd6, cd7, cd8, (fun _ => rfl), (fun _ => rfl), (fun _ => rfl), cd12, cd13, cd14, cd16, f_k0, f_k1, f_k2, f_o17⟩
              · rintro L a w ⟨b0, b1, b2, b3, b4, b5, b6, b7, b8, b9, b10, b11, b12, b13, b14, b15, b16, b17, x44, x45, x46, x47, x48, x49, x50, x51, x52, x53, x54, x55, x56, x57, x58, x59, rfl, rfl, hb, cd0, cd1, cd2, cd3, cd4, cd5, cd6, cd7, cd8, cd9, cd10, cd11, cd12, cd13, cd14, cd16, f_k0, f_k1, f_k2, f_o17⟩ hf hd
                have hf' : b12 = false := hf
                subst hf'
                have d11 : b11 = true := hd ⟨11, .data⟩ (by simp) rfl
                subst d11
                obtain rfl := cd11.out rfl
                clear hf hd
                try simp only [List.setIfInBounds_toArray, List.set_cons_zero, List.set_cons_succ]
                intro K hK
                rw [if_pos (by rfl)]
                go_simp
                exact hK.out _ _ ⟨b0, b1, b2, b3, b4, b5, b6, b7, b8, b9, b10, true, true, b13, b14, b15, b16, b17, x44, x45, x46, x47, x48, x49, x50, x51, x52, x53, x54, .pointer (some ⟨bb, off + j * 3, none⟩), (.pointer (some ⟨bb, off + j * 3 + 2, none⟩)), x57, x58, x59, (by simp only [Act.put, List.setIfInBounds_toArray, List.set_cons_zero, List.set_cons_succ]), (by simp only [Act.put, List.setIfInBounds_toArray, List.set_cons_zero, List.set_cons_succ]), hb, cd0, cd1, cd2, cd3, cd4, cd5, cd6, cd7, cd8, cd9, cd10, (fun _ => rfl), (fun _ => rfl), cd13, cd14, cd16, f_k0, f_k1, f_k2, f_o17⟩
              · rintro L a w ⟨b0, b1, b2, b3, b4, b5, b6, b7, b8, b9, b10, b11, b12, b13, b14, b15, b16, b17, x44, x45, x46, x47, x48, x49, x50, x51, x52, x53, x54, x55, x56, x57, x58, x59, rfl, rfl, hb, cd0, cd1, cd2, cd3, cd4, cd5, cd6, cd7, cd8, cd9, cd10, cd11, cd12, cd13, cd14, cd16, f_k0, f_k1, f_k2, f_o17⟩ hf hd
                have hf' : b13 = false := hf
                subst hf'
                have d12 : b12 = true := hd ⟨12, .data⟩ (by simp) rfl
                subst d12
                obtain rfl := cd12.out rfl
                clear hf hd
                try simp only [List.setIfInBounds_toArray, List.set_cons_zero, List.set_cons_succ]
                have z := (hb.cell hbC).trans c2
                intro K hK
                rw [if_pos (by rfl)]
                go_simp
                exact hK.out _ _ ⟨b0, b1, b2, b3, b4, b5, b6, b7, b8, b9, b10, b11, true, true, b14, b15, b16, b17, x44, x45, x46, x47, x48, x49, x50, x51, x52, x53, x54, x55, .pointer (some ⟨bb, off + j * 3 + 2, none⟩), (.bool nb), x58, x59, (by simp only [Act.put, List.setIfInBounds_toArray, List.set_cons_zero, List.set_cons_succ]), (by simp only [Act.put, List.setIfInBounds_toArray, List.set_cons_zero, List.set_cons_succ]), hb, cd0, cd1, cd2, cd3, cd4, cd5, cd6, cd7, cd8, cd9, cd10, cd11, (fun _ => rfl), (fun _ => rfl), cd14, cd16, f_k0, f_k1, f_k2, f_o17⟩
              · rintro L a w ⟨b0, b1, b2, b3, b4, b5, b6, b7, b8, b9, b10, b11, b12, b13, b14, b15, b16, b17, x44, x45, x46, x47, x48, x49, x50, x51, x52, x53, x54, x55, x56, x57, x58, x59, rfl, rfl, hb, cd0, cd1, cd2, cd3, cd4, cd5, cd6, cd7, cd8, cd9, cd10, cd11, cd12, cd13, cd14, cd16, f_k0, f_k1, f_k2, f_o17⟩ hf hd
                have hf' : b14 = false := hf
                subst hf'
                have d0 : b0 = true := hd ⟨0, .phase⟩ (by simp) rfl
                subst d0
                have d1 : b1 = true := hd ⟨1, .phase⟩ (by simp) rfl
                subst d1
                have d2 : b2 = true := hd ⟨2, .phase⟩ (by simp) rfl
                subst d2
                have d3 : b3 = true := hd ⟨3, .phase⟩ (by simp) rfl
                subst d3
                have d4 : b4 = true := hd ⟨4, .phase⟩ (by simp) rfl
                subst d4
                have d5 : b5 = true := hd ⟨5, .phase⟩ (by simp) rfl
                subst d5
                have d6 : b6 = true := hd ⟨6, .phase⟩ (by simp) rfl
                subst d6
                have d7 : b7 = true := hd ⟨7, .phase⟩ (by simp) rfl
                subst d7
                obtain rfl := cd0.out rfl
                obtain rfl := cd1.out rfl
                obtain rfl := cd2.out rfl
                obtain rfl := cd3.out rfl
                obtain rfl := cd4.out rfl
                obtain rfl := cd5.out rfl
                obtain rfl := cd6.out rfl
                obtain rfl := cd7.out rfl
                clear hf hd
                try simp only [List.setIfInBounds_toArray, List.set_cons_zero, List.set_cons_succ]
                intro K hK
                rw [if_pos (by rfl)]
                go_simp
                exact hK.out _ _ ⟨true, true, true, true, true, true, true, true, b8, b9, b10, b11, b12, b13, true, b15, b16, b17, .pointer (some ⟨p, 1, none⟩), .slice (some ⟨bb, off, none⟩) n c, .int .i64 (j : Nat), .pointer (some ⟨bb, off + j * 3, none⟩), .pointer (some ⟨bb, off + j * 3 + 1, none⟩), .int .i64 kd, .int .i64 (wd : Nat), .int .i64 K1, x52, x53, x54, x55, x56, x57, (.pointer (some ⟨gc, 1, none⟩)), x59, (by simp only [Act.put, List.setIfInBounds_toArray, List.set_cons_zero, List.set_cons_succ]), (by simp only [Act.put, List.setIfInBounds_toArray, List.set_cons_zero, List.set_cons_succ]), hb, (fun _ => rfl), (fun _ => rfl), (fun _ => rfl), (fun _ => rfl), (fun _ => rfl), (fun _ => rfl), (fun _ => rfl), (fun _ => rfl), cd8, cd9, cd10, cd11, cd12, cd13, (fun _ => rfl), cd16, f_k0, f_k1, f_k2, f_o17⟩
              · rintro L a w ⟨b0, b1, b2, b3, b4, b5, b6, b7, b8, b9, b10, b11, b12, b13, b14, b15, b16, b17, x44, x45, x46, x47, x48, x49, x50, x51, x52, x53, x54, x55, x56, x57, x58, x59, rfl, rfl, hb, cd0, cd1, cd2, cd3, cd4, cd5, cd6, cd7, cd8, cd9, cd10, cd11, cd12, cd13, cd14, cd16, f_k0, f_k1, f_k2, f_o17⟩ hf hd
                have hf' : b15 = false := hf
                subst hf'
                have d14 : b14 = true := hd ⟨14, .data⟩ (by simp) rfl
                subst d14
                have d7 : b7 = true := hd ⟨7, .data⟩ (by simp) rfl
                subst d7
                have d6 : b6 = true := hd ⟨6, .chain⟩ (by simp) rfl
                subst d6
                have d0 : b0 = true := hd ⟨0, .phase⟩ (by simp) rfl
                subst d0
                have d1 : b1 = true := hd ⟨1, .phase⟩ (by simp) rfl
                subst d1
                have d2 : b2 = true := hd ⟨2, .phase⟩ (by simp) rfl
                subst d2
                have d3 : b3 = true := hd ⟨3, .phase⟩ (by simp) rfl
                subst d3
                have d4 : b4 = true := hd ⟨4, .phase⟩ (by simp) rfl
                subst d4
                have d5 : b5 = true := hd ⟨5, .phase⟩ (by simp) rfl
                subst d5
                obtain rfl := cd14.out rfl
                obtain rfl := cd7.out rfl
                obtain rfl := cd6.out rfl
                obtain rfl := cd0.out rfl
                obtain rfl := cd1.out rfl
                obtain rfl := cd2.out rfl
                obtain rfl := cd3.out rfl
                obtain rfl := cd4.out rfl
                obtain rfl := cd5.out rfl
                clear hf hd
                have W_k0 := f_k0.out rfl
                try simp only [List.setIfInBounds_toArray, List.set_cons_zero, List.set_cons_succ]
                have d1 := cell_blk (i := 1) W_k0 rfl
                have e1 := free_blk (i := 1) W_k0
                intro K hK
                rw [if_pos (by rfl)]
                go_simp
                have hb2 := hb.setCell (p := ⟨gc, 1, none⟩) (Nat.le_refl _) (.int .i64 K1)
                exact hK.out _ _ ⟨true, true, true, true, true, true, true, true, b8, b9, b10, b11, b12, b13, true, true, b16, b17, .pointer (some ⟨p, 1, none⟩), .slice (some ⟨bb, off, none⟩) n c, .int .i64 (j : Nat), .pointer (some ⟨bb, off + j * 3, none⟩), .pointer (some ⟨bb, off + j * 3 + 1, none⟩), .int .i64 kd, .int .i64 (wd : Nat), .int .i64 K1, x52, x53, x54, x55, x56, x57, .pointer (some ⟨gc, 1, none⟩), x59, (by simp only [Act.put, List.setIfInBounds_toArray, List.set_cons_zero, List.set_cons_succ]), (by simp only [Act.put, List.setIfInBounds_toArray, List.set_cons_zero, List.set_cons_succ]), hb2, (fun _ => rfl), (fun _ => rfl), (fun _ => rfl), (fun _ => rfl), (fun _ => rfl), (fun _ => rfl), (fun _ => rfl), (fun _ => rfl), cd8, cd9, cd10, cd11, cd12, cd13, (fun _ => rfl), cd16, (fun h => by cases h), (fun _ _ => (heap_setCell_same (i := 1) W_k0).trans rfl), (fun h0 => absurd (f_o17.out h0) (by simp)), (fun _ => rfl)⟩
              · rintro L a w ⟨b0, b1, b2, b3, b4, b5, b6, b7, b8, b9, b10, b11, b12, b13, b14, b15, b16, b17, x44, x45, x46, x47, x48, x49, x50, x51, x52, x53, x54, x55, x56, x57, x58, x59, rfl, rfl, hb, cd0, cd1, cd2, cd3, cd4, cd5, cd6, cd7, cd8, cd9, cd10, cd11, cd12, cd13, cd14, cd16, f_k0, f_k1, f_k2, f_o17⟩ hf hd
                have hf' : b16 = false := hf
                subst hf'
                have d0 : b0 = true := hd ⟨0, .phase⟩ (by simp) rfl
                subst d0
                have d1 : b1 = true := hd ⟨1, .phase⟩ (by simp) rfl
                subst d1
                have d2 : b2 = true := hd ⟨2, .phase⟩ (by simp) rfl
                subst d2
                have d3 : b3 = true := hd ⟨3, .phase⟩ (by simp) rfl
                subst d3
                have d4 : b4 = true := hd ⟨4, .phase⟩ (by simp) rfl
                subst d4
                have d5 : b5 = true := hd ⟨5, .phase⟩ (by simp) rfl
                subst d5
                have d6 : b6 = true := hd ⟨6, .phase⟩ (by simp) rfl
                subst d6
                have d7 : b7 = true := hd ⟨7, .phase⟩ (by simp) rfl
                subst d7
                have d8 : b8 = true := hd ⟨8, .phase⟩ (by simp) rfl
                subst d8
                have d9 : b9 = true := hd ⟨9, .phase⟩ (by simp) rfl
                subst d9
                have d10 : b10 = true := hd ⟨10, .phase⟩ (by simp) rfl
                subst d10
                have d11 : b11 = true := hd ⟨11, .phase⟩ (by simp) rfl
                subst d11
                have d12 : b12 = true := hd ⟨12, .phase⟩ (by simp) rfl
                subst d12
                have d13 : b13 = true := hd ⟨13, .phase⟩ (by simp) rfl
                subst d13
                have d14 : b14 = true := hd ⟨14, .phase⟩ (by simp) rfl
                subst d14
                have d15 : b15 = true := hd ⟨15, .phase⟩ (by simp) rfl
                subst d15
                obtain rfl := cd0.out rfl
                obtain rfl := cd1.out rfl
                obtain rfl := cd2.out rfl
                obtain rfl := cd3.out rfl
                obtain rfl := cd4.out rfl
                obtain rfl := cd5.out rfl
                obtain rfl := cd6.out rfl
                obtain rfl := cd7.out rfl
                obtain rfl := cd8.out rfl
                obtain rfl := cd9.out rfl
                obtain rfl := cd10.out rfl
                obtain rfl := cd11.out rfl
                obtain rfl := cd12.out rfl
                obtain rfl := cd13.out rfl
                obtain rfl := cd14.out rfl
                clear hf hd
                try simp only [List.setIfInBounds_toArray, List.set_cons_zero, List.set_cons_succ]
                intro K hK
                rw [if_pos (by rfl)]
                go_simp
                exact hK.out _ _ ⟨true, true, true, true, true, true, true, true, true, true, true, true, true, true, true, true, true, b17, .pointer (some ⟨p, 1, none⟩), .slice (some ⟨bb, off, none⟩) n c, .int .i64 (j : Nat), .pointer (some ⟨bb, off + j * 3, none⟩), .pointer (some ⟨bb, off + j * 3 + 1, none⟩), .int .i64 kd, .int .i64 (wd : Nat), .int .i64 K1, .pointer (some ⟨p, 1, none⟩), .slice (some ⟨bb, off, none⟩) n c, .int .i64 (j : Nat), .pointer (some ⟨bb, off + j * 3, none⟩), .pointer (some ⟨bb, off + j * 3 + 2, none⟩), .bool nb, .pointer (some ⟨gc, 1, none⟩), (.pointer (some ⟨gc, 2, none⟩)), (by simp only [Act.put, List.setIfInBounds_toArray, List.set_cons_zero, List.set_cons_succ]), (by simp only [Act.put, List.setIfInBounds_toArray, List.set_cons_zero, List.set_cons_succ]), hb, (fun _ => rfl), (fun _ => rfl), (fun _ => rfl), (fun _ => rfl), (fun _ => rfl), (fun _ => rfl), (fun _ => rfl), (fun _ => rfl), (fun _ => rfl), (fun _ => rfl), (fun _ => rfl), (fun _ => rfl), (fun _ => rfl), (fun _ => rfl), (fun _ => rfl), (fun _ => rfl), (fun h => by cases h), f_k1, f_k2, f_o17⟩
              · rintro L a w ⟨b0, b1, b2, b3, b4, b5, b6, b7, b8, b9, b10, b11, b12, b13, b14, b15, b16, b17, x44, x45, x46, x47, x48, x49, x50, x51, x52, x53, x54, x55, x56, x57, x58, x59, rfl, rfl, hb, cd0, cd1, cd2, cd3, cd4, cd5, cd6, cd7, cd8, cd9, cd10, cd11, cd12, cd13, cd14, cd16, f_k0, f_k1, f_k2, f_o17⟩ hf hd
                have hf' : b17 = false := hf
                subst hf'
                have d16 : b16 = true := hd ⟨16, .data⟩ (by simp) rfl
                subst d16
                have d13 : b13 = true := hd ⟨13, .data⟩ (by simp) rfl
                subst d13
                have d15 : b15 = true := hd ⟨15, .chain⟩ (by simp) rfl
                subst d15
                have d0 : b0 = true := hd ⟨0, .phase⟩ (by simp) rfl
                subst d0
                have d1 : b1 = true := hd ⟨1, .phase⟩ (by simp) rfl
                subst d1
                have d2 : b2 = true := hd ⟨2, .phase⟩ (by simp) rfl
                subst d2
                have d3 : b3 = true := hd ⟨3, .phase⟩ (by simp) rfl
                subst d3
                have d4 : b4 = true := hd ⟨4, .phase⟩ (by simp) rfl
                subst d4
                have d5 : b5 = true := hd ⟨5, .phase⟩ (by simp) rfl
                subst d5
                have d6 : b6 = true := hd ⟨6, .phase⟩ (by simp) rfl
                subst d6
                have d7 : b7 = true := hd ⟨7, .phase⟩ (by simp) rfl
                subst d7
                have d8 : b8 = true := hd ⟨8, .phase⟩ (by simp) rfl
                subst d8
                have d9 : b9 = true := hd ⟨9, .phase⟩ (by simp) rfl
                subst d9
                have d10 : b10 = true := hd ⟨10, .phase⟩ (by simp) rfl
                subst d10
                have d11 : b11 = true := hd ⟨11, .phase⟩ (by simp) rfl
                subst d11
                have d12 : b12 = true := hd ⟨12, .phase⟩ (by simp) rfl
                subst d12
                have d14 : b14 = true := hd ⟨14, .phase⟩ (by simp) rfl
                subst d14
                obtain rfl := cd16.out rfl
                obtain rfl := cd13.out rfl
                obtain rfl := cd0.out rfl
                obtain rfl := cd1.out rfl
                obtain rfl := cd2.out rfl
                obtain rfl := cd3.out rfl
                obtain rfl := cd4.out rfl
                obtain rfl := cd5.out rfl
                obtain rfl := cd6.out rfl
                obtain rfl := cd7.out rfl
                obtain rfl := cd8.out rfl
                obtain rfl := cd9.out rfl
                obtain rfl := cd10.out rfl
                obtain rfl := cd11.out rfl
                obtain rfl := cd12.out rfl
                obtain rfl := cd14.out rfl
                clear hf hd
                have W_k1 := f_k1.out rfl rfl
                try simp only [List.setIfInBounds_toArray, List.set_cons_zero, List.set_cons_succ]
                have d1 := cell_blk (i := 2) W_k1 rfl
                have e1 := free_blk (i := 2) W_k1
                intro K hK
                rw [if_pos (by rfl)]
                go_simp
                have hb2 := hb.setCell (p := ⟨gc, 2, none⟩) (Nat.le_refl _) (.bool nb)
                exact hK.out _ _ ⟨true, true, true, true, true, true, true, true, true, true, true, true, true, true, true, true, true, true, .pointer (some ⟨p, 1, none⟩), .slice (some ⟨bb, off, none⟩) n c, .int .i64 (j : Nat), .pointer (some ⟨bb, off + j * 3, none⟩), .pointer (some ⟨bb, off + j * 3 + 1, none⟩), .int .i64 kd, .int .i64 (wd : Nat), .int .i64 K1, .pointer (some ⟨p, 1, none⟩), .slice (some ⟨bb, off, none⟩) n c, .int .i64 (j : Nat), .pointer (some ⟨bb, off + j * 3, none⟩), .pointer (some ⟨bb, off + j * 3 + 2, none⟩), .bool nb, .pointer (some ⟨gc, 1, none⟩), .pointer (some ⟨gc, 2, none⟩), (by simp only [Act.put, List.setIfInBounds_toArray, List.set_cons_zero, List.set_cons_succ]), (by simp only [Act.put, List.setIfInBounds_toArray, List.set_cons_zero, List.set_cons_succ]), hb2, (fun _ => rfl), (fun _ => rfl), (fun _ => rfl), (fun _ => rfl), (fun _ => rfl), (fun _ => rfl), (fun _ => rfl), (fun _ => rfl), (fun _ => rfl), (fun _ => rfl), (fun _ => rfl), (fun _ => rfl), (fun _ => rfl), (fun _ => rfl), (fun _ => rfl), (fun _ => rfl), (fun h => by cases h), (fun _ h => by cases h), (fun _ => (heap_setCell_same (i := 2) W_k1).trans rfl), (fun _ => rfl)⟩
            · rintro a V ⟨b0, b1, b2, b3, b4, b5, b6, b7, b8, b9, b10, b11, b12, b13, b14, b15, b16, b17, x44, x45, x46, x47, x48, x49, x50, x51, x52, x53, x54, x55, x56, x57, x58, x59, hL, rfl, hb, cd0, cd1, cd2, cd3, cd4, cd5, cd6, cd7, cd8, cd9, cd10, cd11, cd12, cd13, cd14, cd16, f_k0, f_k1, f_k2, f_o17⟩
              have hL' : [true, true, true, true, true, true, true, true, true, true, true, true, true, true, true, true, true, true] = [b0, b1, b2, b3, b4, b5, b6, b7, b8, b9, b10, b11, b12, b13, b14, b15, b16, b17] := congrArg Array.toList hL
              simp only [List.cons.injEq, and_true] at hL'
              obtain ⟨rfl, rfl, rfl, rfl, rfl, rfl, rfl, rfl, rfl, rfl, rfl, rfl, rfl, rfl, rfl, rfl, rfl, rfl⟩ := hL'
              obtain rfl := cd0.out rfl
              obtain rfl := cd1.out rfl
              obtain rfl := cd2.out rfl
              obtain rfl := cd3.out rfl
              obtain rfl := cd4.out rfl
              obtain rfl := cd5.out rfl
              obtain rfl := cd6.out rfl
              obtain rfl := cd7.out rfl
              obtain rfl := cd8.out rfl
              obtain rfl := cd9.out rfl
              obtain rfl := cd10.out rfl
              obtain rfl := cd11.out rfl
              obtain rfl := cd12.out rfl
              obtain rfl := cd13.out rfl
              obtain rfl := cd14.out rfl
              obtain rfl := cd16.out rfl
              have W_k2 := f_k2.out rfl
              have W_o17 := f_o17.out rfl
              clear hL f_k0 f_k1 f_k2 f_o17 cd0 cd1 cd2 cd3 cd4 cd5 cd6 cd7 cd8 cd9 cd10 cd11 cd12 cd13 cd14 cd16
              simp only [List.setIfInBounds_toArray, List.set_cons_zero, List.set_cons_succ]
              have BV : Below wr.heap.size wr V := (BV0.drew).trans (hb.mono hgcw)
              have CV : CoB V gc ⟨[nu], K1, nb⟩ := W_k2
              clear hb W_k2 W_o17 k00 BV0 c1 c2
              have XV := X.past BV
              have XPV := XPr.past BV
              have XRV := XRr.past BV
              have BpV := B.trans (BV.mono (Nat.le_of_lt hsz))
              have k0 : V.cell? ⟨gc, 0, none⟩ = some (.string (bsOf [nu])) := cell_blk CV rfl
              have k1 : V.cell? ⟨gc, 1, none⟩ = some (.int .i64 K1) := cell_blk CV rfl
              have k2 : V.cell? ⟨gc, 2, none⟩ = some (.bool nb) := cell_blk CV rfl
              have v1 : V.cell? ⟨gv, 1, none⟩ = some (.slice (some ⟨g', 0, none⟩) j c') := cell_blk XV rfl
              have hlit : IsR encCo (V.alloc (.cells #[.string (bsOf [nu]), .int .i64 K1, .bool nb] 156)) (some ⟨V.heap.size, 0, none⟩) 1 1 [⟨[nu], K1, nb⟩] := (OwnR.ofBlk (E := encCo) (l := [⟨[nu], K1, nb⟩]) (n := 1) (heap_alloc_new V _) rfl rfl (by omega)).isR
              have BL : Below V.heap.size V (V.alloc (.cells #[.string (bsOf [nu]), .int .i64 K1, .bool nb] 156)) := (Below.refl _ _).alloc (Nat.le_refl _) _
              have HLIT := Lib.hid hlit
              have OV := hO2.past BV
              have hpV := XPV.lt
              have hgvV := XV.lt
              have hrV := XRV.lt
              clear hlit cv y1 CV
              go_wp2_with (at_builtin; go_loud (refine wpList_append_or rfl _ _ 38 38 rfl 156 rowTyC g' j c' _ rfl (OV.alloc _) _ rfl 1 [⟨[nu], K1, nb⟩] (HLIT.out.src rowTyC.ht) rfl (j + 1) rfl _ HNX.out (by omega) ?_); intro g2 c2 w9 o9 b9 q9; have X9 : ScB w9 gv NQ (some ⟨g', 0, none⟩) j c' 0 only := (b9.block gv (by have := XV.lt; simp; omega) (fun e => hg3 e.symm)).trans (XV.past BL); have e1 := cell_blk (i := 1) X9 rfl; have f1 := free_blk (i := 1) X9)
              have hVs := BpV.size
              have B9 : Below p w w9 := (BpV.trans (BL.mono (by omega))).trans (b9.below hpg' (by simp; omega))
              have hp9 := B9.size
              simp only [World.size_alloc] at q9
              have hg2 : g2 ≠ gv ∧ g2 ≠ p ∧ g2 ≠ r ∧ p ≤ g2 := by rcases q9 with h | h <;> omega
              have XA : ScB (w9.setCell ⟨gv, 1, none⟩ (.slice (some ⟨g2, 0, none⟩) (j + 1) c2)) gv NQ (some ⟨g2, 0, none⟩) (j + 1) c2 0 only := (heap_setCell_same (i := 1) X9).trans rfl
              have oA := o9.kept (w' := w9.setCell ⟨gv, 1, none⟩ (.slice (some ⟨g2, 0, none⟩) (j + 1) c2)) (heap_setCell_other _ _ g2 _ (by simpa using hg2.1))
              have XPA : ScB (w9.setCell ⟨gv, 1, none⟩ (.slice (some ⟨g2, 0, none⟩) (j + 1) c2)) p l _ n c key only := (heap_setCell_other _ _ p _ (by simpa using hgp2.1)).trans ((b9.block p (by simp; omega) (fun e => hg4 e.symm)).trans (XPV.past BL))
              have XRA : ScB (w9.setCell ⟨gv, 1, none⟩ (.slice (some ⟨g2, 0, none⟩) (j + 1) c2)) r [] none 0 0 0 false := (heap_setCell_other _ _ r _ (by simpa using hgp2.2)).trans ((b9.block r (by simp; omega) (fun e => hg5 e.symm)).trans (XRV.past BL))
              have BAA : Below p w (w9.setCell ⟨gv, 1, none⟩ (.slice (some ⟨g2, 0, none⟩) (j + 1) c2)) := B9.setCell (p := ⟨gv, 1, none⟩) (by show p ≤ gv; omega) _
              go_roundw
              case rel => exact ⟨j + 1, some ⟨g2, 0, none⟩, c2, by omega, by go_num, XA, .inr ⟨by omega, g2, rfl, oA, hg2.2.2.2, hg2.1, hg2.2.1, hg2.2.2.1⟩, XPA, XRA, BAA⟩
              case measure => simp [intOf]; omega
      · have hjN : j = gN cs := by omega
        have hj1 : ¬ ((j : Int) < 1) := by omega
        rcases hO with ⟨h0, -, -⟩ | ⟨hjp, g', rfl, hO2, hpg', hg3, hg4, hg5⟩
        · exact absurd h0 (by omega)
        obtain ⟨hk1, hk2⟩ := gKey_lt cs key
        obtain ⟨kk, hkk⟩ : ∃ kk, gKey cs key = kk := ⟨_, rfl⟩
        rw [hkk, ← hjN] at hk1
        rw [hkk, ← hjN] at hk2
        have HWN : ∀ w, Calls Try.prog 73 #[.int .i64 key, .int .i64 (j : Nat)] w fun e w' => e = .returned (.int .i64 (kk : Nat)) ∧ w = w' := fun w => by
          have := within9_any key (j : Nat) w (by omega) (by omega)
          rw [← hk2] at this
          exact this
        have hki : (kk : Int) < (j : Int) := by omega
        have hx : (gCols cs j)[kk]? = some (gAt cs kk) := by unfold gCols; rw [List.getElem?_map, List.getElem?_range hk1]; rfl
        obtain ⟨-, -, x2⟩ := hO2.cell3 kk _ hx
        have xf := hO2.free (kk * 3 + 2)
        have y1 : wr.cell? ⟨p, 1, none⟩ = some (.slice ao n c) := cell_blk XPr rfl
        have y2 : wr.cell? ⟨p, 2, none⟩ = some (.int .i64 key) := cell_blk XPr rfl
        have v0 : wr.cell? ⟨gv, 0, none⟩ = some (.string (bsOf NQ)) := cell_blk X rfl
        have v1 : wr.cell? ⟨gv, 1, none⟩ = some (.slice (some ⟨g', 0, none⟩) j c') := cell_blk X rfl
        have v2 : wr.cell? ⟨gv, 2, none⟩ = some (.int .i64 0) := cell_blk X rfl
        have v3 : wr.cell? ⟨gv, 3, none⟩ = some (.bool only) := cell_blk X rfl
        have vf := free_blk (i := 2) X
        have r0 : wr.cell? ⟨r, 0, none⟩ = some (.string (bsOf [])) := cell_blk XRr rfl
        have r1 : wr.cell? ⟨r, 1, none⟩ = some (.slice none 0 0) := cell_blk XRr rfl
        have r2 : wr.cell? ⟨r, 2, none⟩ = some (.int .i64 0) := cell_blk XRr rfl
        have r3 : wr.cell? ⟨r, 3, none⟩ = some (.bool false) := cell_blk XRr rfl
        have rf := fun i => free_blk (i := i) XRr
        have n1 : gv ≠ g' := fun e => hg3 e.symm
        have n2 : g' ≠ r := hg5
        have n3 : gv ≠ r := fun e => hgp2.2 e.symm
        have HJN := Lib.hid hjN
        have HKK := Lib.hid hkk
        have HX := Lib.hid hx
        clear hjN hkk hx hk1 hk2
        by_cases hjn : j < n
        · have hjni : (j : Int) < (n : Int) := by omega
          have hj6 : ¬ ((j : Int) < 6) := by
            have := HJN.out
            unfold gN at this
            rw [h.len] at this
            split at this <;> omega
          go_wp2_with (go_at_call 73; refine (HWN _).mono ?_; rintro e w' ⟨rfl, rfl⟩)
          have oF : OwnR encCo ((((((wr.setCell ⟨gv, 2, none⟩ (.int .i64 (kk : Nat))).setCell ⟨g', kk * 3 + 2, none⟩ (.bool false)).setCell ⟨r, 0, none⟩ (.string (bsOf NQ))).setCell ⟨r, 1, none⟩ (.slice (some ⟨g', 0, none⟩) j c')).setCell ⟨r, 2, none⟩ (.int .i64 (kk : Nat))).setCell ⟨r, 3, none⟩ (.bool only)) 156 g' j c' (gFin cs key) := by
            have a1 := hO2.kept (w' := wr.setCell ⟨gv, 2, none⟩ (.int .i64 (kk : Nat))) (heap_setCell_other _ _ g' _ (by simpa using hg3))
            have a2 := a1.null kk _ HX.out
            have e : (gCols cs j).set kk (noNull (gAt cs kk)) = gFin cs key := by unfold gFin; rw [HKK.out, ← HJN.out]
            rw [e] at a2
            have a3 := a2.kept (w' := World.setCell _ ⟨r, 0, none⟩ (.string (bsOf NQ))) (heap_setCell_other _ _ g' _ (by simpa using hg5))
            have a4 := a3.kept (w' := World.setCell _ ⟨r, 1, none⟩ (.slice (some ⟨g', 0, none⟩) j c')) (heap_setCell_other _ _ g' _ (by simpa using hg5))
            have a5 := a4.kept (w' := World.setCell _ ⟨r, 2, none⟩ (.int .i64 (kk : Nat))) (heap_setCell_other _ _ g' _ (by simpa using hg5))
            exact a5.kept (heap_setCell_other _ _ g' _ (by simpa using hg5))
          have bF : Below p w ((((((wr.setCell ⟨gv, 2, none⟩ (.int .i64 (kk : Nat))).setCell ⟨g', kk * 3 + 2, none⟩ (.bool false)).setCell ⟨r, 0, none⟩ (.string (bsOf NQ))).setCell ⟨r, 1, none⟩ (.slice (some ⟨g', 0, none⟩) j c')).setCell ⟨r, 2, none⟩ (.int .i64 (kk : Nat))).setCell ⟨r, 3, none⟩ (.bool only)) :=
            (((((B.setCell (p := ⟨gv, 2, none⟩) (Nat.le_of_lt hpgv) _).setCell (p := ⟨g', kk * 3 + 2, none⟩) hpg' _).setCell (p := ⟨r, 0, none⟩) (Nat.le_of_lt hpr) _).setCell (p := ⟨r, 1, none⟩) (Nat.le_of_lt hpr) _).setCell (p := ⟨r, 2, none⟩) (Nat.le_of_lt hpr) _).setCell (p := ⟨r, 3, none⟩) (Nat.le_of_lt hpr) _
          have HF : GoodIs w nn cs key only (.returned (scV NQ (some ⟨g', 0, none⟩) j c' (kk : Nat) only)) ((((((wr.setCell ⟨gv, 2, none⟩ (.int .i64 (kk : Nat))).setCell ⟨g', kk * 3 + 2, none⟩ (.bool false)).setCell ⟨r, 0, none⟩ (.string (bsOf NQ))).setCell ⟨r, 1, none⟩ (.slice (some ⟨g', 0, none⟩) j c')).setCell ⟨r, 2, none⟩ (.int .i64 (kk : Nat))).setCell ⟨r, 3, none⟩ (.bool only)) :=
            ⟨g', c', by rw [HNQ.out, ← HJN.out, HKK.out], by rw [← HJN.out]; exact oF, by rw [HP.out]; exact bF, by rw [HP.out]; exact hpg'⟩
          refine bodyPost_ret (v := scV NQ (some ⟨g', 0, none⟩) j c' (kk : Nat) only) (by simp [results, Try.results17, go_sem, scV, n2, r0, r1, r2, r3, n3, Ne.symm n2, Ne.symm n3]) rfl HF
        · have hjni : ¬ ((j : Int) < (n : Int)) := by omega
          go_wp2_with (go_at_call 73; refine (HWN _).mono ?_; rintro e w' ⟨rfl, rfl⟩)
          have oF : OwnR encCo ((((((wr.setCell ⟨gv, 2, none⟩ (.int .i64 (kk : Nat))).setCell ⟨g', kk * 3 + 2, none⟩ (.bool false)).setCell ⟨r, 0, none⟩ (.string (bsOf NQ))).setCell ⟨r, 1, none⟩ (.slice (some ⟨g', 0, none⟩) j c')).setCell ⟨r, 2, none⟩ (.int .i64 (kk : Nat))).setCell ⟨r, 3, none⟩ (.bool only)) 156 g' j c' (gFin cs key) := by
            have a1 := hO2.kept (w' := wr.setCell ⟨gv, 2, none⟩ (.int .i64 (kk : Nat))) (heap_setCell_other _ _ g' _ (by simpa using hg3))
            have a2 := a1.null kk _ HX.out
            have e : (gCols cs j).set kk (noNull (gAt cs kk)) = gFin cs key := by unfold gFin; rw [HKK.out, ← HJN.out]
            rw [e] at a2
            have a3 := a2.kept (w' := World.setCell _ ⟨r, 0, none⟩ (.string (bsOf NQ))) (heap_setCell_other _ _ g' _ (by simpa using hg5))
            have a4 := a3.kept (w' := World.setCell _ ⟨r, 1, none⟩ (.slice (some ⟨g', 0, none⟩) j c')) (heap_setCell_other _ _ g' _ (by simpa using hg5))
            have a5 := a4.kept (w' := World.setCell _ ⟨r, 2, none⟩ (.int .i64 (kk : Nat))) (heap_setCell_other _ _ g' _ (by simpa using hg5))
            exact a5.kept (heap_setCell_other _ _ g' _ (by simpa using hg5))
          have bF : Below p w ((((((wr.setCell ⟨gv, 2, none⟩ (.int .i64 (kk : Nat))).setCell ⟨g', kk * 3 + 2, none⟩ (.bool false)).setCell ⟨r, 0, none⟩ (.string (bsOf NQ))).setCell ⟨r, 1, none⟩ (.slice (some ⟨g', 0, none⟩) j c')).setCell ⟨r, 2, none⟩ (.int .i64 (kk : Nat))).setCell ⟨r, 3, none⟩ (.bool only)) :=
            (((((B.setCell (p := ⟨gv, 2, none⟩) (Nat.le_of_lt hpgv) _).setCell (p := ⟨g', kk * 3 + 2, none⟩) hpg' _).setCell (p := ⟨r, 0, none⟩) (Nat.le_of_lt hpr) _).setCell (p := ⟨r, 1, none⟩) (Nat.le_of_lt hpr) _).setCell (p := ⟨r, 2, none⟩) (Nat.le_of_lt hpr) _).setCell (p := ⟨r, 3, none⟩) (Nat.le_of_lt hpr) _
          have HF : GoodIs w nn cs key only (.returned (scV NQ (some ⟨g', 0, none⟩) j c' (kk : Nat) only)) ((((((wr.setCell ⟨gv, 2, none⟩ (.int .i64 (kk : Nat))).setCell ⟨g', kk * 3 + 2, none⟩ (.bool false)).setCell ⟨r, 0, none⟩ (.string (bsOf NQ))).setCell ⟨r, 1, none⟩ (.slice (some ⟨g', 0, none⟩) j c')).setCell ⟨r, 2, none⟩ (.int .i64 (kk : Nat))).setCell ⟨r, 3, none⟩ (.bool only)) :=
            ⟨g', c', by rw [HNQ.out, ← HJN.out, HKK.out], by rw [← HJN.out]; exact oF, by rw [HP.out]; exact bF, by rw [HP.out]; exact hpg'⟩
          refine bodyPost_ret (v := scV NQ (some ⟨g', 0, none⟩) j c' (kk : Nat) only) (by simp [results, Try.results17, go_sem, scV, n2, r0, r1, r2, r3, n3, Ne.symm n2, Ne.symm n3]) rfl HF
end Go.Proofs.Ytllijeciodmckaa
