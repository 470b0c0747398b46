/-
  The laws of locks: an act's hold (by gen_law12.py).
-/
import Derived.Test.YtllijeciodmckaaLaw12
import Derived.Test.YtllijeciodmckaaKLr
namespace Go.Proofs.Ytllijeciodmckaa
open Go.RowKit
set_option linter.unusedSimpArgs false
/-- An act. -/
structure Ac where
  k : Int
  s : Int
  t : Int
  x : Bool
def Ac.hd (a : Ac) : Hd := ⟨wth a.s 8, nm (wth a.t 3).toNat, a.x⟩
def EAc : Enc Ac where
  sz := 4
  f a := [.int .i64 a.k, .int .i64 a.s, .int .i64 a.t, .bool a.x]
  len _ := rfl
  one c u hu := by
    simp only [List.mem_cons, List.not_mem_nil, or_false] at hu
    rcases hu with rfl | rfl | rfl | rfl <;> rfl
instance : Inhabited Ac := ⟨⟨0, 0, 0, false⟩⟩
theorem cells_ac {cs : List Ac} {w : World} {b off : Nat} (hc : ∀ j u, (EAc.all cs)[j]? = some u → w.cell? ⟨b, off + j, none⟩ = some u) (j : Nat) (c : Ac) (hj : cs[j]? = some c) :
    w.cell? ⟨b, off + j * 4, none⟩ = some (.int .i64 c.k) ∧ w.cell? ⟨b, off + j * 4 + 1, none⟩ = some (.int .i64 c.s) ∧ w.cell? ⟨b, off + j * 4 + 2, none⟩ = some (.int .i64 c.t) ∧ w.cell? ⟨b, off + j * 4 + 3, none⟩ = some (.bool c.x) := by
  have h0 := hc _ _ ((Enc.all_get EAc cs j 0 c hj (by decide)).trans rfl)
  have h1 := hc _ _ ((Enc.all_get EAc cs j 1 c hj (by decide)).trans rfl)
  have h2 := hc _ _ ((Enc.all_get EAc cs j 2 c hj (by decide)).trans rfl)
  have h3 := hc _ _ ((Enc.all_get EAc cs j 3 c hj (by decide)).trans rfl)
  exact ⟨h0, by rw [Nat.add_assoc]; exact h1, by rw [Nat.add_assoc]; exact h2, by rw [Nat.add_assoc]; exact h3⟩
theorem wth_range (a n : Int) (hn : 0 < n) : 0 ≤ wth a n ∧ wth a n < n := by
  have h1 := Int.lt_tmod_of_pos a hn
  have h2 := Int.tmod_lt_of_pos a hn
  unfold wth
  split <;> omega
theorem Ac.small (a : Ac) : 0 ≤ a.hd.s ∧ a.hd.s < 8 := wth_range a.s 8 (by decide)
theorem szHd : (Try.prog.info? 101).map (·.size) = some 3 := by kernel_rfl
def hdC (h : Hd) : Array Value := #[.int .i64 h.s, .string (bsOf h.t), .bool h.x]
theorem hdC_all (h : Hd) : (hdC h).all (·.oneCell') = true := by simp [hdC, Value.oneCell']
theorem wp_store_hd {w : World} {o : Oper} {a : Act} {K : Act → World → Prop} {Q : Exit → Act → World → Prop} (x y : Operand) (ho : o.op = .store 101 x y)
    (g : Nat) (h1 h2 : Hd) (hx : a.eval x = .pointer (some ⟨g, 0, none⟩)) (hy : a.eval y = .agg (hdC h2)) (hg : Hid (HdB w g h1 101))
    (hK : ∀ w', HdB w' g h2 101 → w.grownBy w' (some g) → K (a.put o.dst undef) w') : o.wp Try.prog a w K Q :=
  wp_store_row 101 x y ho g (hdC h2) hx hy 101 (hdC h1) hg.out (by rw [szHd]; rfl) rfl (hdC_all _) (hK _ (setRow_heap w g _ _ _ _ hg.out) ⟨rfl, rfl, rfl, by simp, fun k _ hk => setRow_other w g k _ (fun e => hk (by rw [e]))⟩)
theorem str_inf : (Try.prog.info? 9).map (fun i => (i.zero, i.size, i.bytes)) = some (some (.string ⟨#[]⟩), 1, 16) := by kernel_rfl
theorem wp_buildSlice_s3 {w : World} {o : Oper} {a : Act} {K : Act → World → Prop} {Q : Exit → Act → World → Prop} (s0 s1 s2 : ByteArray) (ho : o.op = .buildSlice 195 3 #[(0, .const (.string s0)), (1, .const (.string s1)), (2, .const (.string s2))])
    (hK : ∀ w', w'.heap[w.heap.size]? = some (.cells #[.string s0, .string s1, .string s2] 9 (0, 0)) → Below w.heap.size w w' → K (a.put o.dst (.slice (some ⟨w.heap.size, 0, none⟩) 3 3)) w') : o.wp Try.prog a w K Q := by
  obtain ⟨i, h1, h2, h3, h4⟩ := info_parts str_inf
  refine wp_buildSlice 195 9 3 _ ho #[.string s0, .string s1, .string s2] i _ Try.underlying195 h1 h2 (by rw [h3]; omega) (by rw [h3]; omega) ?_ (hK _ (heap_alloc_new w _) ((Below.refl _ _).alloc (Nat.le_refl _) _))
  have e0 : (#[(0, Operand.const (.string s0)), (1, .const (.string s1)), (2, .const (.string s2))].map fun (i, x) => (i, a.eval x)).toList = ([Value.string s0, .string s1, .string s2].zipIdx 0).map fun x => (x.2, x.1) := by simp [Act.eval]
  rw [e0, h3, Great.fill_whole (by decide) _ _ (fun v hv => by
    simp only [List.mem_cons, List.not_mem_nil, or_false] at hv
    rcases hv with rfl | rfl | rfl <;> rfl) (by simp)]
  rfl
def nms : Array Value := #[.string ⟨#[97]⟩, .string ⟨#[98]⟩, .string ⟨#[99]⟩]
theorem nms_get (i : Nat) (hi : i < 3) : nms[i]? = some (.string (bsOf (nm i))) := by
  have h : i = 0 ∨ i = 1 ∨ i = 2 := by omega
  rcases h with rfl | rfl | rfl <;> rfl
def AcB (w : World) (p : Nat) (k s t : Int) (x : Bool) : Prop := w.heap[p]? = some (.cells #[.int .i64 k, .int .i64 s, .int .i64 t, .bool x] 103 (0, 0))
theorem acB_past {w w' : World} {p : Nat} {k s t : Int} {x : Bool} (h : AcB w p k s t x) (b : Below w.heap.size w w') : AcB w' p k s t x := (b.block p (Array.getElem?_eq_some_iff.1 h).1).trans h
theorem AcB.past {w w' : World} {p : Nat} {k s t : Int} {x : Bool} (h : AcB w p k s t x) (b : Below w.heap.size w w') : AcB w' p k s t x := acB_past h b
theorem acB_far {w w' : World} {p g : Nat} {k s t : Int} {x : Bool} (h : AcB w p k s t x) (hw : w.grownBy w' (some g)) (hne : p ≠ g) : AcB w' p k s t x := (hw.block p (Array.getElem?_eq_some_iff.1 h).1 (fun e => hne (Option.some.inj e))).trans h
theorem acB_c {w : World} {p : Nat} {k s t : Int} {x : Bool} (h : AcB w p k s t x) : w.cell? ⟨p, 0, none⟩ = some (.int .i64 k) ∧ w.cell? ⟨p, 1, none⟩ = some (.int .i64 s) ∧ w.cell? ⟨p, 2, none⟩ = some (.int .i64 t) ∧ w.cell? ⟨p, 3, none⟩ = some (.bool x) := ⟨cell_blk h rfl, cell_blk h rfl, cell_blk h rfl, cell_blk h rfl⟩
theorem neTy {w : World} {r g : Nat} {x : Hd} {cs : Array Value} (h : HdB w r x 101) (hg : w.heap[g]? = some (.cells cs 9 (0, 0))) : some g ≠ some r := fun e => by
  obtain rfl := Option.some.inj e
  unfold HdB at h
  rw [hg] at h
  injection h with h
  injection h with _ h2
  exact absurd h2 (by decide)
/-- What stands while the region's operations come up. -/
inductive HoldR (B : Nat) (p : Nat) (r : Nat) (k : Int) (s : Int) (t : Int) (x : Bool) (A : Int) (i : Nat) (a0 : Act) (w0 : World) (L : Array Bool) (a : Act) (w : World) : Prop
  | mk (b0 b1 b2 b3 b4 b5 b6 b7 b8 b9 b10 b11 b12 : Bool) (x3 x4 x5 x6 x7 x8 x9 x10 x11 x12 x13 x14 : Value) (gb : Nat) (hL : L = #[b0, b1, b2, b3, b4, b5, b6, b7, b8, b9, b10, b11, b12]) (ha : a = ⟨((((((((((((a0.tmps.setIfInBounds 3 x3).setIfInBounds 4 x4).setIfInBounds 5 x5).setIfInBounds 6 x6).setIfInBounds 7 x7).setIfInBounds 8 x8).setIfInBounds 9 x9).setIfInBounds 10 x10).setIfInBounds 11 x11).setIfInBounds 12 x12).setIfInBounds 13 x13).setIfInBounds 14 x14), a0.defers⟩) (hb : Below B w0 w) (cd0 : Hid (b0 = true → x3 = .pointer (some ⟨p, 1, none⟩))) (cd1 : Hid (b1 = true → x4 = .int .i64 s)) (cd2 : Hid (b2 = true → x5 = .int .i64 A)) (cd3 : Hid (b3 = true → x6 = .slice (some ⟨gb, 0, none⟩) 3 3)) (cd4 : Hid (b4 = true → x7 = .pointer (some ⟨p, 2, none⟩))) (cd5 : Hid (b5 = true → x8 = .int .i64 t)) (cd6 : Hid (b6 = true → x9 = .int .i64 (i : Nat))) (cd7 : Hid (b7 = true → x10 = .pointer (some ⟨gb, i, none⟩))) (cd8 : Hid (b8 = true → x11 = .string (bsOf (nm i)))) (cd9 : Hid (b9 = true → x12 = .pointer (some ⟨p, 3, none⟩))) (cd10 : Hid (b10 = true → x13 = .bool x)) (cd11 : Hid (b11 = true → x14 = .agg #[.int .i64 A, .string (bsOf (nm i)), .bool x])) (f_b0 : Hid (AcB w p k s t x)) (f_z : Hid (b12 = false → HdB w r ⟨0, [], false⟩ 101)) (f_bl : Hid (b3 = true → w.heap[gb]? = some (.cells nms 9 (0, 0)))) (f_o : Hid (b12 = true → HdB w r ⟨A, nm i, x⟩ 101)) (f_q3 : Hid (b12 = true → b3 = true)) (w_7_3 : Hid (b7 = true → b3 = true)) : HoldR B p r k s t x A i a0 w0 L a w
set_option maxRecDepth 100000 in
set_option maxHeartbeats 1000000 in
theorem hold_any (w : World) (a : Ac) :
    Calls Try.prog 50 #[.agg #[.int .i64 a.k, .int .i64 a.s, .int .i64 a.t, .bool a.x]] w fun e w' => e = .returned a.hd.val ∧ Below w.heap.size w w' := by
  obtain ⟨k, s, t, x⟩ := a
  have X0 : AcB (w.alloc (.cells #[.int .i64 k, .int .i64 s, .int .i64 t, .bool x] 103)) w.heap.size k s t x := heap_alloc_new w _
  have B0 : Below w.heap.size w (w.alloc (.cells #[.int .i64 k, .int .i64 s, .int .i64 t, .bool x] 103)) := (Below.refl _ _).alloc (Nat.le_refl _) _
  have Z1 := HdB.new (w.alloc (.cells #[.int .i64 k, .int .i64 s, .int .i64 t, .bool x] 103)) ⟨0, [], false⟩ 101
  have X1 := X0.past ((Below.refl _ _).alloc (Nat.le_refl _) (.cells #[.int .i64 0, .string (bsOf []), .bool false] 101))
  have BA := B0.alloc B0.size (.cells #[.int .i64 0, .string (bsOf []), .bool false] 101)
  rw [World.size_alloc] at Z1
  simp only at Z1
  have HW1 := fun w => within12_any s 8 w (by decide) (by decide)
  have HW2 := fun w => within12_any t 3 w (by decide) (by decide)
  have hr := wth_range t 3 (by decide)
  obtain ⟨i, hi0⟩ : ∃ i : Nat, wth t 3 = (i : Int) := ⟨(wth t 3).toNat, by omega⟩
  have hi : i < 3 := by omega
  have hi3 : (i : Int) < 3 := by omega
  obtain ⟨A, hA⟩ : ∃ A, wth s 8 = A := ⟨_, rfl⟩
  have hv : (Ac.hd ⟨k, s, t, x⟩).val = .agg #[.int .i64 A, .string (bsOf (nm i)), .bool x] := by
    unfold Ac.hd Hd.val
    simp only [hA, hi0, Int.toNat_natCast]
  rw [hv]
  simp only [hA] at HW1
  simp only [hi0] at HW2
  clear hv hA hi0 hr X0 B0
  go_enter Try.func50, Try.ntmps50
  go_upto_region 1 with fail
  change Code.wp _ _ _ _ ((w.alloc (.cells #[.int .i64 k, .int .i64 s, .int .i64 t, .bool x] 103)).alloc (.cells #[.int .i64 0, .string (bsOf []), .bool false] 101))
  generalize (w.alloc (.cells #[.int .i64 k, .int .i64 s, .int .i64 t, .bool x] 103)).alloc (.cells #[.int .i64 0, .string (bsOf []), .bool false] 101) = W at X1 Z1 BA ⊢
  obtain ⟨p, hp⟩ : ∃ p, w.heap.size = p := ⟨_, rfl⟩
  have HP := Lib.hid hp
  rw [hp] at X1 Z1 BA
  simp only [hp]
  clear hp
  obtain ⟨r, hr⟩ : ∃ r, p + 1 = r := ⟨_, rfl⟩
  rw [hr] at Z1
  simp only [hr]
  have hpr : p ≠ r := by omega
  have hBr : p ≤ r := by omega
  clear hr
  have hB0 : p ≤ W.heap.size := Nat.le_of_lt (Array.getElem?_eq_some_iff.1 X1).1
  refine region_inv (HoldR p p r k s t x A i) (by kernel_rfl) (by kernel_rfl) ?_ ?_ ?_
  · exact ⟨false, false, false, false, false, false, false, false, false, false, false, false, false, undef, undef, undef, undef, undef, undef, undef, undef, undef, undef, undef, undef, 0, rfl, (by simp only [Act.put, List.setIfInBounds_toArray, List.set_cons_zero, List.set_cons_succ]), Below.refl _ _, (fun h => by cases h), (fun h => by cases h), (fun h => by cases h), (fun h => by cases h), (fun h => by cases h), (fun h => by cases h), (fun h => by cases h), (fun h => by cases h), (fun h => by cases h), (fun h => by cases h), (fun h => by cases h), (fun h => by cases h), (acB_past X1 (Below.refl _ _).drew), (fun h1 => Z1.past (Below.refl _ _).drew), (fun h => by cases h), (fun h => by cases h), (fun h => by cases h), (fun h => by cases h)⟩
  · refine ⟨?_, ?_, ?_, ?_, ?_, ?_, ?_, ?_, ?_, ?_, ?_, ?_, ?_, trivial⟩
    · rintro L a w ⟨b0, b1, b2, b3, b4, b5, b6, b7, b8, b9, b10, b11, b12, x3, x4, x5, x6, x7, x8, x9, x10, x11, x12, x13, x14, gb, rfl, rfl, hb, cd0, cd1, cd2, cd3, cd4, cd5, cd6, cd7, cd8, cd9, cd10, cd11, f_b0, f_z, f_bl, f_o, f_q3, w_7_3⟩ hf hd
      have hf' : b0 = false := hf
      subst hf'
      clear hf hd
      have W_b0 := f_b0.out
      try simp only [List.setIfInBounds_toArray, List.set_cons_zero, List.set_cons_succ]
      intro K hK
      rw [if_pos (by rfl)]
      go_simp
      exact hK.out _ _ ⟨true, b1, b2, b3, b4, b5, b6, b7, b8, b9, b10, b11, b12, (.pointer (some ⟨p, 1, none⟩)), x4, x5, x6, x7, x8, x9, x10, x11, x12, x13, x14, gb, (by simp only [Act.put, List.setIfInBounds_toArray, List.set_cons_zero, List.set_cons_succ]), (by simp only [Act.put, List.setIfInBounds_toArray, List.set_cons_zero, List.set_cons_succ]), hb, (fun _ => rfl), cd1, cd2, cd3, cd4, cd5, cd6, cd7, cd8, cd9, cd10, cd11, f_b0, f_z, f_bl, f_o, f_q3, w_7_3⟩
    · rintro L a w ⟨b0, b1, b2, b3, b4, b5, b6, b7, b8, b9, b10, b11, b12, x3, x4, x5, x6, x7, x8, x9, x10, x11, x12, x13, x14, gb, rfl, rfl, hb, cd0, cd1, cd2, cd3, cd4, cd5, cd6, cd7, cd8, cd9, cd10, cd11, f_b0, f_z, f_bl, f_o, f_q3, w_7_3⟩ hf hd
      have hf' : b1 = false := hf
      subst hf'
      have d0 : b0 = true := hd ⟨0, .data⟩ (by simp) rfl
      subst d0
      obtain rfl := cd0.out rfl
      clear hf hd
      have W_b0 := f_b0.out
      try simp only [List.setIfInBounds_toArray, List.set_cons_zero, List.set_cons_succ]
      obtain ⟨z0, z1, z2, z3⟩ := acB_c W_b0
      intro K hK
      rw [if_pos (by rfl)]
      go_simp
      exact hK.out _ _ ⟨true, true, b2, b3, b4, b5, b6, b7, b8, b9, b10, b11, b12, .pointer (some ⟨p, 1, none⟩), (.int .i64 s), x5, x6, x7, x8, x9, x10, x11, x12, x13, x14, gb, (by simp only [Act.put, List.setIfInBounds_toArray, List.set_cons_zero, List.set_cons_succ]), (by simp only [Act.put, List.setIfInBounds_toArray, List.set_cons_zero, List.set_cons_succ]), hb, (fun _ => rfl), (fun _ => rfl), cd2, cd3, cd4, cd5, cd6, cd7, cd8, cd9, cd10, cd11, f_b0, f_z, f_bl, f_o, f_q3, w_7_3⟩
    · rintro L a w ⟨b0, b1, b2, b3, b4, b5, b6, b7, b8, b9, b10, b11, b12, x3, x4, x5, x6, x7, x8, x9, x10, x11, x12, x13, x14, gb, rfl, rfl, hb, cd0, cd1, cd2, cd3, cd4, cd5, cd6, cd7, cd8, cd9, cd10, cd11, f_b0, f_z, f_bl, f_o, f_q3, w_7_3⟩ hf hd
      have hf' : b2 = false := hf
      subst hf'
      have d1 : b1 = true := hd ⟨1, .data⟩ (by simp) rfl
      subst d1
      obtain rfl := cd1.out rfl
      clear hf hd
      have W_b0 := f_b0.out
      try simp only [List.setIfInBounds_toArray, List.set_cons_zero, List.set_cons_succ]
      intro K hK
      rw [if_pos (by rfl)]
      go_simp
      go_at_call 52
      refine (HW1 _).mono ?_
      rintro e w' ⟨rfl, rfl⟩
      exact hK.out _ _ ⟨b0, true, true, b3, b4, b5, b6, b7, b8, b9, b10, b11, b12, x3, .int .i64 s, (.int .i64 A), x6, x7, x8, x9, x10, x11, x12, x13, x14, gb, (by simp only [Act.put, List.setIfInBounds_toArray, List.set_cons_zero, List.set_cons_succ]), (by simp only [Act.put, List.setIfInBounds_toArray, List.set_cons_zero, List.set_cons_succ]), hb, cd0, (fun _ => rfl), (fun _ => rfl), cd3, cd4, cd5, cd6, cd7, cd8, cd9, cd10, cd11, f_b0, f_z, f_bl, f_o, f_q3, w_7_3⟩
    · rintro L a w ⟨b0, b1, b2, b3, b4, b5, b6, b7, b8, b9, b10, b11, b12, x3, x4, x5, x6, x7, x8, x9, x10, x11, x12, x13, x14, gb, rfl, rfl, hb, cd0, cd1, cd2, cd3, cd4, cd5, cd6, cd7, cd8, cd9, cd10, cd11, f_b0, f_z, f_bl, f_o, f_q3, w_7_3⟩ hf hd
      have hf' : b3 = false := hf
      subst hf'
      clear hf hd
      have W_b0 := f_b0.out
      try simp only [List.setIfInBounds_toArray, List.set_cons_zero, List.set_cons_succ]
      intro K hK
      rw [if_pos (by rfl)]
      refine wp_buildSlice_s3 ⟨#[97]⟩ ⟨#[98]⟩ ⟨#[99]⟩ rfl fun w5 hB5 bx => ?_
      have e_7 : b7 = false := by cases hq : b7 with | false => rfl | true => exact absurd (w_7_3.out hq) (by simp)
      subst e_7
      exact hK.out _ _ ⟨b0, b1, b2, true, b4, b5, b6, false, b8, b9, b10, b11, b12, x3, x4, x5, (.slice (some ⟨(w.heap.size), 0, none⟩) 3 3), x7, x8, x9, x10, x11, x12, x13, x14, w.heap.size, (by simp only [Act.put, List.setIfInBounds_toArray, List.set_cons_zero, List.set_cons_succ]), (by simp only [Act.put, List.setIfInBounds_toArray, List.set_cons_zero, List.set_cons_succ]), hb.trans (bx.mono (Nat.le_trans hB0 hb.size)), cd0, cd1, cd2, (fun _ => rfl), cd4, cd5, cd6, (fun h => by cases h), cd8, cd9, cd10, cd11, (f_b0.out.past bx), (fun h1 => (f_z.out h1).past bx), (fun _ => hB5), (fun h0 => absurd (f_q3.out h0) (by simp)), (fun _ => rfl), (fun _ => rfl)⟩
    · rintro L a w ⟨b0, b1, b2, b3, b4, b5, b6, b7, b8, b9, b10, b11, b12, x3, x4, x5, x6, x7, x8, x9, x10, x11, x12, x13, x14, gb, rfl, rfl, hb, cd0, cd1, cd2, cd3, cd4, cd5, cd6, cd7, cd8, cd9, cd10, cd11, f_b0, f_z, f_bl, f_o, f_q3, w_7_3⟩ hf hd
      have hf' : b4 = false := hf
      subst hf'
      clear hf hd
      have W_b0 := f_b0.out
      try simp only [List.setIfInBounds_toArray, List.set_cons_zero, List.set_cons_succ]
      intro K hK
      rw [if_pos (by rfl)]
      go_simp
      exact hK.out _ _ ⟨b0, b1, b2, b3, true, b5, b6, b7, b8, b9, b10, b11, b12, x3, x4, x5, x6, (.pointer (some ⟨p, 2, none⟩)), x8, x9, x10, x11, x12, x13, x14, gb, (by simp only [Act.put, List.setIfInBounds_toArray, List.set_cons_zero, List.set_cons_succ]), (by simp only [Act.put, List.setIfInBounds_toArray, List.set_cons_zero, List.set_cons_succ]), hb, cd0, cd1, cd2, cd3, (fun _ => rfl), cd5, cd6, cd7, cd8, cd9, cd10, cd11, f_b0, f_z, f_bl, f_o, f_q3, w_7_3⟩
    · rintro L a w ⟨b0, b1, b2, b3, b4, b5, b6, b7, b8, b9, b10, b11, b12, x3, x4, x5, x6, x7, x8, x9, x10, x11, x12, x13, x14, gb, rfl, rfl, hb, cd0, cd1, cd2, cd3, cd4, cd5, cd6, cd7, cd8, cd9, cd10, cd11, f_b0, f_z, f_bl, f_o, f_q3, w_7_3⟩ hf hd
      have hf' : b5 = false := hf
      subst hf'
      have d4 : b4 = true := hd ⟨4, .data⟩ (by simp) rfl
      subst d4
      obtain rfl := cd4.out rfl
      clear hf hd
      have W_b0 := f_b0.out
      try simp only [List.setIfInBounds_toArray, List.set_cons_zero, List.set_cons_succ]
      obtain ⟨z0, z1, z2, z3⟩ := acB_c W_b0
      intro K hK
      rw [if_pos (by rfl)]
      go_simp
      exact hK.out _ _ ⟨b0, b1, b2, b3, true, true, b6, b7, b8, b9, b10, b11, b12, x3, x4, x5, x6, .pointer (some ⟨p, 2, none⟩), (.int .i64 t), x9, x10, x11, x12, x13, x14, gb, (by simp only [Act.put, List.setIfInBounds_toArray, List.set_cons_zero, List.set_cons_succ]), (by simp only [Act.put, List.setIfInBounds_toArray, List.set_cons_zero, List.set_cons_succ]), hb, cd0, cd1, cd2, cd3, (fun _ => rfl), (fun _ => rfl), cd6, cd7, cd8, cd9, cd10, cd11, f_b0, f_z, f_bl, f_o, f_q3, w_7_3⟩
    · rintro L a w ⟨b0, b1, b2, b3, b4, b5, b6, b7, b8, b9, b10, b11, b12, x3, x4, x5, x6, x7, x8, x9, x10, x11, x12, x13, x14, gb, rfl, rfl, hb, cd0, cd1, cd2, cd3, cd4, cd5, cd6, cd7, cd8, cd9, cd10, cd11, f_b0, f_z, f_bl, f_o, f_q3, w_7_3⟩ hf hd
      have hf' : b6 = false := hf
      subst hf'
      have d5 : b5 = true := hd ⟨5, .data⟩ (by simp) rfl
      subst d5
      have d2 : b2 = true := hd ⟨2, .chain⟩ (by simp) rfl
      subst d2
      obtain rfl := cd5.out rfl
      obtain rfl := cd2.out rfl
      clear hf hd
      have W_b0 := f_b0.out
      try simp only [List.setIfInBounds_toArray, List.set_cons_zero, List.set_cons_succ]
      intro K hK
      rw [if_pos (by rfl)]
      go_simp
      go_at_call 52
      refine (HW2 _).mono ?_
      rintro e w' ⟨rfl, rfl⟩
      exact hK.out _ _ ⟨b0, b1, true, b3, b4, true, true, b7, b8, b9, b10, b11, b12, x3, x4, .int .i64 A, x6, x7, .int .i64 t, (.int .i64 (i : Nat)), x10, x11, x12, x13, x14, gb, (by simp only [Act.put, List.setIfInBounds_toArray, List.set_cons_zero, List.set_cons_succ]), (by simp only [Act.put, List.setIfInBounds_toArray, List.set_cons_zero, List.set_cons_succ]), hb, cd0, cd1, (fun _ => rfl), cd3, cd4, (fun _ => rfl), (fun _ => rfl), cd7, cd8, cd9, cd10, cd11, f_b0, f_z, f_bl, f_o, f_q3, w_7_3⟩
    · rintro L a w ⟨b0, b1, b2, b3, b4, b5, b6, b7, b8, b9, b10, b11, b12, x3, x4, x5, x6, x7, x8, x9, x10, x11, x12, x13, x14, gb, rfl, rfl, hb, cd0, cd1, cd2, cd3, cd4, cd5, cd6, cd7, cd8, cd9, cd10, cd11, f_b0, f_z, f_bl, f_o, f_q3, w_7_3⟩ hf hd
      have hf' : b7 = false := hf
      subst hf'
      have d3 : b3 = true := hd ⟨3, .data⟩ (by simp) rfl
      subst d3
      have d6 : b6 = true := hd ⟨6, .data⟩ (by simp) rfl
      subst d6
      obtain rfl := cd3.out rfl
      obtain rfl := cd6.out rfl
      clear hf hd
      have W_b0 := f_b0.out
      have W_bl := f_bl.out rfl
      try simp only [List.setIfInBounds_toArray, List.set_cons_zero, List.set_cons_succ]
      intro K hK
      rw [if_pos (by rfl)]
      go_simp
      exact hK.out _ _ ⟨b0, b1, b2, true, b4, b5, true, true, b8, b9, b10, b11, b12, x3, x4, x5, .slice (some ⟨gb, 0, none⟩) 3 3, x7, x8, .int .i64 (i : Nat), (.pointer (some ⟨gb, i, none⟩)), x11, x12, x13, x14, gb, (by simp only [Act.put, List.setIfInBounds_toArray, List.set_cons_zero, List.set_cons_succ]), (by simp only [Act.put, List.setIfInBounds_toArray, List.set_cons_zero, List.set_cons_succ]), hb, cd0, cd1, cd2, (fun _ => rfl), cd4, cd5, (fun _ => rfl), (fun _ => rfl), cd8, cd9, cd10, cd11, f_b0, f_z, f_bl, f_o, f_q3, (fun _ => rfl)⟩
    · rintro L a w ⟨b0, b1, b2, b3, b4, b5, b6, b7, b8, b9, b10, b11, b12, x3, x4, x5, x6, x7, x8, x9, x10, x11, x12, x13, x14, gb, rfl, rfl, hb, cd0, cd1, cd2, cd3, cd4, cd5, cd6, cd7, cd8, cd9, cd10, cd11, f_b0, f_z, f_bl, f_o, f_q3, w_7_3⟩ hf hd
      have hf' : b8 = false := hf
      subst hf'
      have d7 : b7 = true := hd ⟨7, .data⟩ (by simp) rfl
      subst d7
      obtain rfl := cd7.out rfl
      clear hf hd
      have W_b0 := f_b0.out
      try simp only [List.setIfInBounds_toArray, List.set_cons_zero, List.set_cons_succ]
      have z0 := cell_blk ((f_bl.out (w_7_3.out rfl))) (nms_get i hi)
      intro K hK
      rw [if_pos (by rfl)]
      go_simp
      exact hK.out _ _ ⟨b0, b1, b2, b3, b4, b5, b6, true, true, b9, b10, b11, b12, x3, x4, x5, x6, x7, x8, x9, .pointer (some ⟨gb, i, none⟩), (.string (bsOf (nm i))), x12, x13, x14, gb, (by simp only [Act.put, List.setIfInBounds_toArray, List.set_cons_zero, List.set_cons_succ]), (by simp only [Act.put, List.setIfInBounds_toArray, List.set_cons_zero, List.set_cons_succ]), hb, cd0, cd1, cd2, cd3, cd4, cd5, cd6, (fun _ => rfl), (fun _ => rfl), cd9, cd10, cd11, f_b0, f_z, f_bl, f_o, f_q3, w_7_3⟩
    · rintro L a w ⟨b0, b1, b2, b3, b4, b5, b6, b7, b8, b9, b10, b11, b12, x3, x4, x5, x6, x7, x8, x9, x10, x11, x12, x13, x14, gb, rfl, rfl, hb, cd0, cd1, cd2, cd3, cd4, cd5, cd6, cd7, cd8, cd9, cd10, cd11, f_b0, f_z, f_bl, f_o, f_q3, w_7_3⟩ hf hd
      have hf' : b9 = false := hf
      subst hf'
      clear hf hd
      have W_b0 := f_b0.out
      try simp only [List.setIfInBounds_toArray, List.set_cons_zero, List.set_cons_succ]
      intro K hK
      rw [if_pos (by rfl)]
      go_simp
      exact hK.out _ _ ⟨b0, b1, b2, b3, b4, b5, b6, b7, b8, true, b10, b11, b12, x3, x4, x5, x6, x7, x8, x9, x10, x11, (.pointer (some ⟨p, 3, none⟩)), x13, x14, gb, (by simp only [Act.put, List.setIfInBounds_toArray, List.set_cons_zero, List.set_cons_succ]), (by simp only [Act.put, List.setIfInBounds_toArray, List.set_cons_zero, List.set_cons_succ]), hb, cd0, cd1, cd2, cd3, cd4, cd5, cd6, cd7, cd8, (fun _ => rfl), cd10, cd11, f_b0, f_z, f_bl, f_o, f_q3, w_7_3⟩
    · rintro L a w ⟨b0, b1, b2, b3, b4, b5, b6, b7, b8, b9, b10, b11, b12, x3, x4, x5, x6, x7, x8, x9, x10, x11, x12, x13, x14, gb, rfl, rfl, hb, cd0, cd1, cd2, cd3, cd4, cd5, cd6, cd7, cd8, cd9, cd10, cd11, f_b0, f_z, f_bl, f_o, f_q3, w_7_3⟩ hf hd
      have hf' : b10 = false := hf
      subst hf'
      have d9 : b9 = true := hd ⟨9, .data⟩ (by simp) rfl
      subst d9
      obtain rfl := cd9.out rfl
      clear hf hd
      have W_b0 := f_b0.out
      try simp only [List.setIfInBounds_toArray, List.set_cons_zero, List.set_cons_succ]
      obtain ⟨z0, z1, z2, z3⟩ := acB_c W_b0
      intro K hK
      rw [if_pos (by rfl)]
      go_simp
      exact hK.out _ _ ⟨b0, b1, b2, b3, b4, b5, b6, b7, b8, true, true, b11, b12, x3, x4, x5, x6, x7, x8, x9, x10, x11, .pointer (some ⟨p, 3, none⟩), (.bool x), x14, gb, (by simp only [Act.put, List.setIfInBounds_toArray, List.set_cons_zero, List.set_cons_succ]), (by simp only [Act.put, List.setIfInBounds_toArray, List.set_cons_zero, List.set_cons_succ]), hb, cd0, cd1, cd2, cd3, cd4, cd5, cd6, cd7, cd8, (fun _ => rfl), (fun _ => rfl), cd11, f_b0, f_z, f_bl, f_o, f_q3, w_7_3⟩
    · rintro L a w ⟨b0, b1, b2, b3, b4, b5, b6, b7, b8, b9, b10, b11, b12, x3, x4, x5, x6, x7, x8, x9, x10, x11, x12, x13, x14, gb, rfl, rfl, hb, cd0, cd1, cd2, cd3, cd4, cd5, cd6, cd7, cd8, cd9, cd10, cd11, f_b0, f_z, f_bl, f_o, f_q3, w_7_3⟩ hf hd
      have hf' : b11 = false := hf
      subst hf'
      have d2 : b2 = true := hd ⟨2, .data⟩ (by simp) rfl
      subst d2
      have d8 : b8 = true := hd ⟨8, .data⟩ (by simp) rfl
      subst d8
      have d10 : b10 = true := hd ⟨10, .data⟩ (by simp) rfl
      subst d10
      obtain rfl := cd2.out rfl
      obtain rfl := cd8.out rfl
      obtain rfl := cd10.out rfl
      clear hf hd
      have W_b0 := f_b0.out
      try simp only [List.setIfInBounds_toArray, List.set_cons_zero, List.set_cons_succ]
      intro K hK
      rw [if_pos (by rfl)]
      go_simp
      exact hK.out _ _ ⟨b0, b1, true, b3, b4, b5, b6, b7, true, b9, true, true, b12, x3, x4, .int .i64 A, x6, x7, x8, x9, x10, .string (bsOf (nm i)), x12, .bool x, (.agg #[.int .i64 A, .string (bsOf (nm i)), .bool x]), gb, (by simp only [Act.put, List.setIfInBounds_toArray, List.set_cons_zero, List.set_cons_succ]), (by simp only [Act.put, List.setIfInBounds_toArray, List.set_cons_zero, List.set_cons_succ]), hb, cd0, cd1, (fun _ => rfl), cd3, cd4, cd5, cd6, cd7, (fun _ => rfl), cd9, (fun _ => rfl), (fun _ => rfl), f_b0, f_z, f_bl, f_o, f_q3, w_7_3⟩
    · rintro L a w ⟨b0, b1, b2, b3, b4, b5, b6, b7, b8, b9, b10, b11, b12, x3, x4, x5, x6, x7, x8, x9, x10, x11, x12, x13, x14, gb, rfl, rfl, hb, cd0, cd1, cd2, cd3, cd4, cd5, cd6, cd7, cd8, cd9, cd10, cd11, f_b0, f_z, f_bl, f_o, f_q3, w_7_3⟩ hf hd
      have hf' : b12 = false := hf
      subst hf'
      have d11 : b11 = true := hd ⟨11, .data⟩ (by simp) rfl
      subst d11
      have d6 : b6 = true := hd ⟨6, .chain⟩ (by simp) rfl
      subst d6
      have d0 : b0 = true := hd ⟨0, .phase⟩ (by simp) rfl
      subst d0
      have d1 : b1 = true := hd ⟨1, .phase⟩ (by simp) rfl
      subst d1
      have d2 : b2 = true := hd ⟨2, .phase⟩ (by simp) rfl
      subst d2
      have d3 : b3 = true := hd ⟨3, .phase⟩ (by simp) rfl
      subst d3
      have d4 : b4 = true := hd ⟨4, .phase⟩ (by simp) rfl
      subst d4
      have d5 : b5 = true := hd ⟨5, .phase⟩ (by simp) rfl
      subst d5
      have d7 : b7 = true := hd ⟨7, .phase⟩ (by simp) rfl
      subst d7
      have d8 : b8 = true := hd ⟨8, .phase⟩ (by simp) rfl
      subst d8
      have d9 : b9 = true := hd ⟨9, .phase⟩ (by simp) rfl
      subst d9
      have d10 : b10 = true := hd ⟨10, .phase⟩ (by simp) rfl
      subst d10
      obtain rfl := cd11.out rfl
      obtain rfl := cd6.out rfl
      obtain rfl := cd0.out rfl
      obtain rfl := cd1.out rfl
      obtain rfl := cd2.out rfl
      obtain rfl := cd3.out rfl
      obtain rfl := cd4.out rfl
      obtain rfl := cd5.out rfl
      obtain rfl := cd7.out rfl
      obtain rfl := cd8.out rfl
      obtain rfl := cd9.out rfl
      obtain rfl := cd10.out rfl
      clear hf hd
      have W_b0 := f_b0.out
      have W_z := f_z.out rfl
      have W_bl := f_bl.out rfl
      try simp only [List.setIfInBounds_toArray, List.set_cons_zero, List.set_cons_succ]
      intro K hK
      rw [if_pos (by rfl)]
      refine wp_store_hd _ _ rfl r ⟨0, [], false⟩ ⟨A, nm i, x⟩ rfl rfl (Lib.hid W_z) fun w2 h8 g8 => ?_
      have hb2 := hb.grown g8 (Nat.le_trans hB0 hb.size) (fun z hz => by cases hz; exact hBr)
      exact hK.out _ _ ⟨true, true, true, true, true, true, true, true, true, true, true, true, true, .pointer (some ⟨p, 1, none⟩), .int .i64 s, .int .i64 A, .slice (some ⟨gb, 0, none⟩) 3 3, .pointer (some ⟨p, 2, none⟩), .int .i64 t, .int .i64 (i : Nat), .pointer (some ⟨gb, i, none⟩), .string (bsOf (nm i)), .pointer (some ⟨p, 3, none⟩), .bool x, .agg #[.int .i64 A, .string (bsOf (nm i)), .bool x], gb, (by simp only [Act.put, List.setIfInBounds_toArray, List.set_cons_zero, List.set_cons_succ]), (by simp only [Act.put, List.setIfInBounds_toArray, List.set_cons_zero, List.set_cons_succ]), hb2, (fun _ => rfl), (fun _ => rfl), (fun _ => rfl), (fun _ => rfl), (fun _ => rfl), (fun _ => rfl), (fun _ => rfl), (fun _ => rfl), (fun _ => rfl), (fun _ => rfl), (fun _ => rfl), (fun _ => rfl), (acB_far (f_b0.out) g8 hpr), (fun h => by cases h), (fun h0 => (g8.block gb (Array.getElem?_eq_some_iff.1 ((f_bl.out h0))).1 (neTy W_z ((f_bl.out h0)))).trans ((f_bl.out h0))), (fun _ => h8), (fun _ => rfl), (fun _ => rfl)⟩
  · rintro act V ⟨b0, b1, b2, b3, b4, b5, b6, b7, b8, b9, b10, b11, b12, x3, x4, x5, x6, x7, x8, x9, x10, x11, x12, x13, x14, gb, hL, rfl, hb, cd0, cd1, cd2, cd3, cd4, cd5, cd6, cd7, cd8, cd9, cd10, cd11, f_b0, f_z, f_bl, f_o, f_q3, w_7_3⟩
    have hL' : [true, true, true, true, true, true, true, true, true, true, true, true, true] = [b0, b1, b2, b3, b4, b5, b6, b7, b8, b9, b10, b11, b12] := congrArg Array.toList hL
    simp only [List.cons.injEq, and_true] at hL'
    obtain ⟨rfl, rfl, rfl, rfl, rfl, rfl, rfl, rfl, rfl, rfl, rfl, rfl, rfl⟩ := hL'
    obtain rfl := cd0.out rfl
    obtain rfl := cd1.out rfl
    obtain rfl := cd2.out rfl
    obtain rfl := cd3.out rfl
    obtain rfl := cd4.out rfl
    obtain rfl := cd5.out rfl
    obtain rfl := cd6.out rfl
    obtain rfl := cd7.out rfl
    obtain rfl := cd8.out rfl
    obtain rfl := cd9.out rfl
    obtain rfl := cd10.out rfl
    obtain rfl := cd11.out rfl
    have W_b0 := f_b0.out
    have W_bl := f_bl.out rfl
    have W_o := f_o.out rfl
    have W_q3 := f_q3.out rfl
    clear hL f_b0 f_z f_bl f_o f_q3 cd0 cd1 cd2 cd3 cd4 cd5 cd6 cd7 cd8 cd9 cd10 cd11 w_7_3
    simp only [List.setIfInBounds_toArray, List.set_cons_zero, List.set_cons_succ]
    have OV := W_o
    obtain ⟨y0, y1, y2⟩ := W_o.c
    simp only at y0 y1 y2
    go_wp2_with fail
    refine bodyPost_ret (v := .agg #[.int .i64 A, .string (bsOf (nm i)), .bool x]) (by simp [results, Try.results50, go_sem, y0, y1, y2]) rfl ?_
    refine ⟨rfl, ?_⟩
    rw [HP.out]
    exact BA.trans ((Below.refl _ _).drew.trans hb)
end Go.Proofs.Ytllijeciodmckaa
