/-
  lock's bySession: holds by their sessions (by gen_lkb.py).
-/
import Derived.Test.YtllijeciodmckaaLkG
import Derived.Test.YtllijeciodmckaaMp
import Derived.Test.YtllijeciodmckaaDk0
namespace Go.Proofs.Ytllijeciodmckaa
open Go.RowKit Go.Maps
set_option linter.unusedSimpArgs false
/-- BLOCK ob IS A MAP OF ROWS: under each session what it has of l; all in blocks from B on, no row in two. -/
structure GpF (w : World) (ob n B : Nat) (l : List Hd) (f : Int → Option (Nat × Nat × Nat)) : Prop where
  map : MapG Sl w Try.prog 3 ob n f
  ge : B ≤ ob
  none : ∀ x, f x = none → own l x = []
  row : ∀ x g k c, f x = some (g, k, c) → OwnR EHd w 101 g k c (own l x) ∧ B ≤ g ∧ g ≠ ob
  one : ∀ x y g k c k' c', f x = some (g, k, c) → f y = some (g, k', c') → x = y
/-- .. one row of them with one more, ahead of the store. -/
structure GpP (w : World) (ob n B : Nat) (l : List Hd) (f : Int → Option (Nat × Nat × Nat)) (y : Hd) (g' k' c' : Nat) : Prop where
  map : MapG Sl w Try.prog 3 ob n f
  ge : B ≤ ob
  none : ∀ x, x ≠ y.s → f x = none → own l x = []
  row : ∀ x g k c, x ≠ y.s → f x = some (g, k, c) → OwnR EHd w 101 g k c (own l x) ∧ B ≤ g ∧ g ≠ ob ∧ g ≠ g'
  one : ∀ x y g k c k' c', f x = some (g, k, c) → f y = some (g, k', c') → x = y
  new : OwnR EHd w 101 g' k' c' (own l y.s ++ [y]) ∧ B ≤ g' ∧ g' ≠ ob
section
variable {w w' : World} {ob n B : Nat} {l : List Hd} {f : Int → Option (Nat × Nat × Nat)} {y : Hd} {g' k' c' : Nat}
theorem GpF.past (h : GpF w ob n B l f) (b : Below w.heap.size w w') : GpF w' ob n B l f :=
  ⟨h.map.past b, h.ge, h.none, fun x g k c hx => ⟨(h.row x g k c hx).1.past b, (h.row x g k c hx).2⟩, h.one⟩
theorem GpP.past (h : GpP w ob n B l f y g' k' c') (b : Below w.heap.size w w') : GpP w' ob n B l f y g' k' c' :=
  ⟨h.map.past b, h.ge, h.none, fun x g k c hx hf => ⟨(h.row x g k c hx hf).1.past b, (h.row x g k c hx hf).2⟩, h.one, h.new.1.past b, h.new.2⟩
theorem GpF.drew (h : GpF w ob n B l f) : GpF w.drew ob n B l f := h.past (Below.refl _ _).drew
/-- The row of a session. -/
theorem GpF.txt (_h : GpF w ob n B l f) (x : Int) : ∃ ao k c, Sl.V (f x) = .slice ao k c ∧ (∀ g, Go.Proofs.Ytllijeciodmckaa.blk ao = some g → ∃ k c, f x = some (g, k, c)) ∧ ∀ w' n', GpF w' ob n' B l f → TxtR EHd w' 101 B ao k c (own l x) := by
  cases hx : f x with
  | none => exact ⟨Option.none, 0, 0, rfl, (fun g hg => by cases hg), fun w' n' h' => by rw [h'.none x hx]; exact TxtR.nil _ _ _⟩
  | some z =>
    obtain ⟨g, k, c⟩ := z
    exact ⟨some ⟨g, 0, Option.none⟩, k, c, rfl, (fun q hq => by cases hq; exact ⟨k, c, rfl⟩), fun w' n' h' => ⟨.inr ⟨g, rfl, (h'.row x g k c hx).1, (h'.row x g k c hx).2.1⟩⟩⟩
theorem GpF.made (w : World) : GpF (w.alloc (.map #[] 0)) w.heap.size 0 w.heap.size [] (fun _ => Option.none) :=
  ⟨MapG.made w _ _, Nat.le_refl _, fun _ _ => rfl, (fun x g k c hx => by cases hx), (fun x y g k c k' c' hx => by cases hx)⟩
theorem GpF.app (h : GpF w ob n B l f) {r : Option Nat} (hr : ∀ g, r = some g → ∃ k c, f y.s = some (g, k, c)) (hg : w.grownBy w' r) (hn : r = some g' ∨ w.heap.size ≤ g') (hB : B ≤ g') (ho : OwnR EHd w' 101 g' k' c' (own l y.s ++ [y])) : GpP w' ob n B l f y g' k' c' := by
  have hne : some ob ≠ r := fun e => by
    obtain ⟨k, c, hk⟩ := hr ob e.symm
    exact (h.row _ _ _ _ hk).2.2 rfl
  have hob := h.map.lt
  refine ⟨h.map.kept (hg.block ob hob hne), h.ge, fun x _ hx => h.none x hx, fun x g k c hxs hx => ?_, h.one, ho, hB, ?_⟩
  · obtain ⟨o1, o2, o3⟩ := h.row x g k c hx
    have hgr : some g ≠ r := fun e => by
      obtain ⟨k2, c2, hk⟩ := hr g e.symm
      exact hxs (h.one x y.s g k c k2 c2 hx hk)
    refine ⟨o1.grown hg hgr, o2, o3, fun e => ?_⟩
    rcases hn with hn | hn
    · exact hgr (by rw [hn, e])
    · have := o1.lt; omega
  · rcases hn with hn | hn
    · obtain ⟨k, c, hk⟩ := hr g' hn
      exact (h.row _ _ _ _ hk).2.2
    · omega
theorem GpP.upd (h : GpP w ob n B l f y g' k' c') (hm : MapG Sl w' Try.prog 3 ob (n + 1) (fun x => if x = y.s then some (g', k', c') else f x)) (hg : w.grownBy w' (some ob)) : GpF w' ob (n + 1) B (l ++ [y]) (fun x => if x = y.s then some (g', k', c') else f x) := by
  have hown : ∀ x, own (l ++ [y]) x = own l x ++ (if y.s = x then [y] else []) := fun x => by
    rw [own_append]
    congr 1
    unfold own
    by_cases e : y.s = x <;> simp [e]
  refine ⟨hm, h.ge, fun x hx => ?_, fun x g k c hx => ?_, fun x z g k c k2 c2 hx hz => ?_⟩
  · have hx' : (if x = y.s then some (g', k', c') else f x) = Option.none := hx
    by_cases e : x = y.s
    · rw [if_pos e] at hx'; cases hx'
    · rw [if_neg e] at hx'
      rw [hown, h.none x e hx', if_neg (fun q => e q.symm)]
      rfl
  · have hx' : (if x = y.s then some (g', k', c') else f x) = some (g, k, c) := hx
    by_cases e : x = y.s
    · rw [if_pos e] at hx'
      cases hx'
      subst e
      rw [hown, if_pos rfl]
      exact ⟨h.new.1.grown hg (fun q => h.new.2.2 (Option.some.inj q)), h.new.2⟩
    · rw [if_neg e] at hx'
      obtain ⟨o1, o2, o3, _⟩ := h.row x g k c e hx'
      rw [hown, if_neg (fun q => e q.symm), List.append_nil]
      exact ⟨o1.grown hg (fun q => o3 (Option.some.inj q)), o2, o3⟩
  · have hx' : (if x = y.s then some (g', k', c') else f x) = some (g, k, c) := hx
    have hz' : (if z = y.s then some (g', k', c') else f z) = some (g, k2, c2) := hz
    by_cases e1 : x = y.s <;> by_cases e2 : z = y.s
    · rw [e1, e2]
    · rw [if_pos e1] at hx'
      rw [if_neg e2] at hz'
      cases hx'
      exact absurd rfl (h.row z _ _ _ e2 hz').2.2.2
    · rw [if_neg e1] at hx'
      rw [if_pos e2] at hz'
      cases hz'
      exact absurd rfl (h.row x _ _ _ e1 hx').2.2.2
    · rw [if_neg e1] at hx'
      rw [if_neg e2] at hz'
      exact h.one x z g k c k2 c2 hx' hz'
end
theorem hd_inf : ∃ i z, Try.prog.info? 101 = some i ∧ i.zero = some z ∧ i.size = 3 := by
  obtain ⟨i, h1, h2, h3, h4⟩ := info_parts hd_info
  exact ⟨i, _, h1, h2, h3⟩
theorem keyI' : Keyed Try.prog 3 := int_keyed Try.underlying3
theorem zeroS (w : World) : (zeroValue 94).run Try.prog w = .ok (Sl.V none) w := by kernel_rfl
/-- What stands while the region's operations come up. -/
inductive BySes (B : Nat) (v : Nat) (j : Nat) (s : Int) (t : List UInt8) (x : Bool) (oa : Option Addr) (k : Nat) (cc : Nat) (N : Nat) (lj : List Hd) (f : Int → Option (Nat × Nat × Nat)) (a0 : Act) (w0 : World) (L : Array Bool) (a : Act) (w : World) : Prop
  | mk (b0 b1 b2 b3 b4 b5 b6 b7 b8 b9 b10 : Bool) (x13 x14 x15 x16 x17 x18 x19 x20 x21 x22 : Value) (gb : Nat) (g9 : Nat) (c9 : Nat) (hL : L = #[b0, b1, b2, b3, b4, b5, b6, b7, b8, b9, b10]) (ha : a = ⟨((((((((((a0.tmps.setIfInBounds 13 x13).setIfInBounds 14 x14).setIfInBounds 15 x15).setIfInBounds 16 x16).setIfInBounds 17 x17).setIfInBounds 18 x18).setIfInBounds 19 x19).setIfInBounds 20 x20).setIfInBounds 21 x21).setIfInBounds 22 x22), a0.defers⟩) (hb : Below B w0 w) (cd0 : Hid (b0 = true → x13 = .map (some B))) (cd1 : Hid (b1 = true → x14 = .pointer (some ⟨v, 0, none⟩))) (cd2 : Hid (b2 = true → x15 = .int .i64 s)) (cd3 : Hid (b3 = true → x16 = .map (some B))) (cd4 : Hid (b4 = true → x17 = .pointer (some ⟨v, 0, none⟩))) (cd5 : Hid (b5 = true → x18 = .int .i64 s)) (cd6 : Hid (b6 = true → x19 = .slice oa k cc)) (cd7 : Hid (b7 = true → x20 = .agg #[.int .i64 s, .string (bsOf t), .bool x])) (cd8 : Hid (b8 = true → x21 = .slice (some ⟨gb, 0, none⟩) 1 1)) (cd9 : Hid (b9 = true → x22 = .slice (some ⟨g9, 0, none⟩) N c9)) (f_v : Hid (HdB w v (⟨s, t, x⟩ : Hd) 101)) (f_G : Hid (b9 = false → GpF w B j B lj f)) (f_bl : Hid (b8 = true → b9 = false → OwnR EHd w 101 gb 1 1 [(⟨s, t, x⟩ : Hd)])) (f_q8 : Hid (b9 = true → b8 = true)) (f_P : Hid (b9 = true → b10 = false → GpP w B j B lj f (⟨s, t, x⟩ : Hd) g9 N c9)) (f_F : Hid (b10 = true → GpF w B (j + 1) B (lj ++ [(⟨s, t, x⟩ : Hd)]) (fun z => if z = s then some (g9, N, c9) else f z))) (f_q10 : Hid (b10 = true → b8 = true)) (f_q19 : Hid (b10 = true → b9 = true)) (f_q6 : Hid (b9 = true → b6 = true)) : BySes B v j s t x oa k cc N lj f a0 w0 L a w
theorem own_txt {α : Type} {E : Enc α} {w : World} {e : TypeId} {B g n c : Nat} {l : List α} (h : TxtR E w e B (some ⟨g, 0, none⟩) n c l) : B ≤ g ∧ OwnR E w e g n c l := by
  rcases h.either with ⟨h, _⟩ | ⟨q, hq, o, hB⟩
  · cases h
  · cases hq
    exact ⟨hB, o⟩
set_option maxRecDepth 100000 in
set_option maxHeartbeats 2000000 in
theorem bySession_any (w : World) (ao : Option Addr) (n c : Nat) (l : List Hd) (h : IsR EHd w ao n c l) (hn : n ≤ 90000) (hwf : ∀ y ∈ l, (Lit.int .i64 y.s).wf = true) :
    Calls Try.prog 158 #[.slice ao n c] w fun e w' => e = .returned (.map (some w.heap.size)) ∧ (∃ f, GpF w' w.heap.size n w.heap.size l f) ∧ Below w.heap.size w w' := by
  have hmm := @run_makeMap Try.prog
  have hln := h.len
  have hmx := h.max
  have hle := h.le
  unfold maxLen at hmx
  have G0 := GpF.made w
  have B0 : Below w.heap.size w (w.alloc (.map #[] 0)) := (Below.refl _ _).alloc (Nat.le_refl _) _
  go_enter Try.func158, Try.ntmps158
  go_upto_region 2 with fail
  generalize w.alloc (.map #[] 0) = W0 at G0 B0 ⊢
  obtain ⟨B, hB⟩ : ∃ B, w.heap.size = B := ⟨_, rfl⟩
  have HB := Lib.hid hB
  rw [hB] at G0 B0
  simp only [hB]
  clear hB
  have hB0 : B ≤ W0.heap.size := Nat.le_of_lt G0.map.lt
  go_wp2_with fail
  go_loopw [9] (fun z wr => ∃ (j : Nat) (f : Int → Option (Nat × Nat × Nat)), j ≤ n ∧ z = .int .i64 (j : Nat) ∧ GpF wr B j B (l.take j) f ∧ Below B w wr) (fun z _ => n - (intOf z).toNat)
  case atStart => exact ⟨0, _, by omega, rfl, G0, B0⟩
  case round =>
    obtain ⟨j, f, hj, rfl, G, BR⟩ := hrel
    have hBr := Nat.le_of_lt G.map.lt
    by_cases hlt : j < n
    · have hlti : (j : Int) < (n : Int) := by omega
      obtain ⟨y, hy⟩ : ∃ v, l[j]? = some v := ⟨l[j]'(by omega), List.getElem?_eq_getElem _⟩
      obtain ⟨b, off, rfl, hb, hc⟩ := h.open (by omega) (by decide)
      obtain ⟨p0, p1, p2⟩ := cells_hd hc j y hy
      rw [← (BR.cell (show (⟨b, off + j * 3, none⟩ : Addr).block < B by rw [← HB.out]; exact hb))] at p0
      rw [← (BR.cell (show (⟨b, off + j * 3 + 1, none⟩ : Addr).block < B by rw [← HB.out]; exact hb))] at p1
      rw [← (BR.cell (show (⟨b, off + j * 3 + 2, none⟩ : Addr).block < B by rw [← HB.out]; exact hb))] at p2
      have HTK : Hid (l.take (j + 1) = l.take j ++ [y]) := Lib.hid (by rw [List.take_add_one, hy]; rfl)
      have hs := hwf y (List.mem_of_getElem? hy)
      have X1 := HdB.new wr y 101
      have BX : Below wr.heap.size wr (wr.alloc (.cells #[.int .i64 y.s, .string (bsOf y.t), .bool y.x] 101)) := (Below.refl _ _).alloc (Nat.le_refl _) _
      have G1 := G.past BX
      have hltv : ∀ g k c, f y.s = some (g, k, c) → g < wr.heap.size := fun g k c hf => (G.row _ _ _ _ hf).1.lt
      have hobv := G.map.lt
      clear hc hy
      obtain ⟨s, t, x⟩ := y
      simp only at p0 p1 p2 hs X1 BX G1 hltv
      obtain ⟨oa, k, cc, HS, HR, HT⟩ := G1.txt s
      obtain ⟨lj, hlj⟩ : ∃ lj, l.take j = lj := ⟨_, rfl⟩
      have hljl : lj.length ≤ n := by rw [← hlj, List.length_take]; omega
      rw [hlj] at G1 HT HTK
      clear hlj G
      go_upto_region 5 with fail
      generalize wr.alloc (.cells #[.int .i64 s, .string (bsOf t), .bool x] 101) = W at X1 BX G1 ⊢
      obtain ⟨v, hv⟩ : ∃ v, wr.heap.size = v := ⟨_, rfl⟩
      rw [hv] at X1 BX hBr hltv hobv
      simp only [hv]
      clear hv p0 p1 p2
      have BW : Below B w W := BR.trans (BX.mono hBr)
      have hB0 : B ≤ W.heap.size := Nat.le_trans hBr (Nat.le_of_lt X1.lt)
      have nva : some v ≠ Go.Proofs.Ytllijeciodmckaa.blk oa := fun e => by
        obtain ⟨k2, c2, hk⟩ := HR v e.symm
        have := hltv v k2 c2 hk
        omega
      have nvo : v ≠ B := by omega
      have hkn : k ≤ n := by
        have h1 := (HT W j G1).len
        have h2 : (own lj s).length ≤ lj.length := List.length_filter_le _ _
        omega
      obtain ⟨N, HN⟩ : ∃ N, k + 1 = N := ⟨_, rfl⟩
      have hNm : N ≤ 1000000 := by omega
      have hnm : j < maxLen := by unfold maxLen; omega
      have hBob : B ≤ B := Nat.le_refl _
      refine region_inv (BySes B v j s t x oa k cc N lj f) (by kernel_rfl) (by kernel_rfl) ?_ ?_ ?_
      · exact ⟨false, false, false, false, false, false, false, false, false, false, false, u13, u14, u15, u16, u17, u18, u19, u20, u21, u22, 0, 0, 0, rfl, (by simp only [Act.put, List.setIfInBounds_toArray, List.set_cons_zero, List.set_cons_succ]), Below.refl _ _, (fun h => by cases h), (fun h => by cases h), (fun h => by cases h), (fun h => by cases h), (fun h => by cases h), (fun h => by cases h), (fun h => by cases h), (fun h => by cases h), (fun h => by cases h), (fun h => by cases h), (X1.past (Below.refl _ _).drew), (fun h1 => G1.drew), (fun h => by cases h), (fun h => by cases h), (fun h => by cases h), (fun h => by cases h), (fun h => by cases h), (fun h => by cases h), (fun h => by cases h)⟩
      · refine ⟨?_, ?_, ?_, ?_, ?_, ?_, ?_, ?_, ?_, ?_, ?_, trivial⟩
        · rintro L a w ⟨b0, b1, b2, b3, b4, b5, b6, b7, b8, b9, b10, x13, x14, x15, x16, x17, x18, x19, x20, x21, x22, gb, g9, c9, rfl, rfl, hb, cd0, cd1, cd2, cd3, cd4, cd5, cd6, cd7, cd8, cd9, f_v, f_G, f_bl, f_q8, f_P, f_F, f_q10, f_q19, f_q6⟩ hf hd
          have hf' : b0 = false := hf
          subst hf'
          clear hf hd
          have W_v := f_v.out
          try simp only [List.setIfInBounds_toArray, List.set_cons_zero, List.set_cons_succ]
          intro K hK
          rw [if_pos (by rfl)]
          go_simp
          exact hK.out _ _ ⟨true, b1, b2, b3, b4, b5, b6, b7, b8, b9, b10, (.map (some B)), x14, x15, x16, x17, x18, x19, x20, x21, x22, gb, g9, c9, (by simp only [Act.put, List.setIfInBounds_toArray, List.set_cons_zero, List.set_cons_succ]), (by simp only [Act.put, List.setIfInBounds_toArray, List.set_cons_zero, List.set_cons_succ]), hb, (fun _ => rfl), cd1, cd2, cd3, cd4, cd5, cd6, cd7, cd8, cd9, f_v, f_G, f_bl, f_q8, f_P, f_F, f_q10, f_q19, f_q6⟩
        · rintro L a w ⟨b0, b1, b2, b3, b4, b5, b6, b7, b8, b9, b10, x13, x14, x15, x16, x17, x18, x19, x20, x21, x22, gb, g9, c9, rfl, rfl, hb, cd0, cd1, cd2, cd3, cd4, cd5, cd6, cd7, cd8, cd9, f_v, f_G, f_bl, f_q8, f_P, f_F, f_q10, f_q19, f_q6⟩ hf hd
          have hf' : b1 = false := hf
          subst hf'
          clear hf hd
          have W_v := f_v.out
          try simp only [List.setIfInBounds_toArray, List.set_cons_zero, List.set_cons_succ]
          intro K hK
          rw [if_pos (by rfl)]
          go_simp
          exact hK.out _ _ ⟨b0, true, b2, b3, b4, b5, b6, b7, b8, b9, b10, x13, (.pointer (some ⟨v, 0, none⟩)), x15, x16, x17, x18, x19, x20, x21, x22, gb, g9, c9, (by simp only [Act.put, List.setIfInBounds_toArray, List.set_cons_zero, List.set_cons_succ]), (by simp only [Act.put, List.setIfInBounds_toArray, List.set_cons_zero, List.set_cons_succ]), hb, cd0, (fun _ => rfl), cd2, cd3, cd4, cd5, cd6, cd7, cd8, cd9, f_v, f_G, f_bl, f_q8, f_P, f_F, f_q10, f_q19, f_q6⟩
        · rintro L a w ⟨b0, b1, b2, b3, b4, b5, b6, b7, b8, b9, b10, x13, x14, x15, x16, x17, x18, x19, x20, x21, x22, gb, g9, c9, rfl, rfl, hb, cd0, cd1, cd2, cd3, cd4, cd5, cd6, cd7, cd8, cd9, f_v, f_G, f_bl, f_q8, f_P, f_F, f_q10, f_q19, f_q6⟩ hf hd
          have hf' : b2 = false := hf
          subst hf'
          have d1 : b1 = true := hd ⟨1, .data⟩ (by simp) rfl
          subst d1
          obtain rfl := cd1.out rfl
          clear hf hd
          have W_v := f_v.out
          try simp only [List.setIfInBounds_toArray, List.set_cons_zero, List.set_cons_succ]
          obtain ⟨z0, z1, z2⟩ := W_v.c
          simp only at z0 z1 z2
          intro K hK
          rw [if_pos (by rfl)]
          go_simp
          exact hK.out _ _ ⟨b0, true, true, b3, b4, b5, b6, b7, b8, b9, b10, x13, .pointer (some ⟨v, 0, none⟩), (.int .i64 s), x16, x17, x18, x19, x20, x21, x22, gb, g9, c9, (by simp only [Act.put, List.setIfInBounds_toArray, List.set_cons_zero, List.set_cons_succ]), (by simp only [Act.put, List.setIfInBounds_toArray, List.set_cons_zero, List.set_cons_succ]), hb, cd0, (fun _ => rfl), (fun _ => rfl), cd3, cd4, cd5, cd6, cd7, cd8, cd9, f_v, f_G, f_bl, f_q8, f_P, f_F, f_q10, f_q19, f_q6⟩
        · rintro L a w ⟨b0, b1, b2, b3, b4, b5, b6, b7, b8, b9, b10, x13, x14, x15, x16, x17, x18, x19, x20, x21, x22, gb, g9, c9, rfl, rfl, hb, cd0, cd1, cd2, cd3, cd4, cd5, cd6, cd7, cd8, cd9, f_v, f_G, f_bl, f_q8, f_P, f_F, f_q10, f_q19, f_q6⟩ hf hd
          have hf' : b3 = false := hf
          subst hf'
          clear hf hd
          have W_v := f_v.out
          try simp only [List.setIfInBounds_toArray, List.set_cons_zero, List.set_cons_succ]
          intro K hK
          rw [if_pos (by rfl)]
          go_simp
          exact hK.out _ _ ⟨b0, b1, b2, true, b4, b5, b6, b7, b8, b9, b10, x13, x14, x15, (.map (some B)), x17, x18, x19, x20, x21, x22, gb, g9, c9, (by simp only [Act.put, List.setIfInBounds_toArray, List.set_cons_zero, List.set_cons_succ]), (by simp only [Act.put, List.setIfInBounds_toArray, List.set_cons_zero, List.set_cons_succ]), hb, cd0, cd1, cd2, (fun _ => rfl), cd4, cd5, cd6, cd7, cd8, cd9, f_v, f_G, f_bl, f_q8, f_P, f_F, f_q10, f_q19, f_q6⟩
        · rintro L a w ⟨b0, b1, b2, b3, b4, b5, b6, b7, b8, b9, b10, x13, x14, x15, x16, x17, x18, x19, x20, x21, x22, gb, g9, c9, rfl, rfl, hb, cd0, cd1, cd2, cd3, cd4, cd5, cd6, cd7, cd8, cd9, f_v, f_G, f_bl, f_q8, f_P, f_F, f_q10, f_q19, f_q6⟩ hf hd
          have hf' : b4 = false := hf
          subst hf'
          clear hf hd
          have W_v := f_v.out
          try simp only [List.setIfInBounds_toArray, List.set_cons_zero, List.set_cons_succ]
          intro K hK
          rw [if_pos (by rfl)]
          go_simp
          exact hK.out _ _ ⟨b0, b1, b2, b3, true, b5, b6, b7, b8, b9, b10, x13, x14, x15, x16, (.pointer (some ⟨v, 0, none⟩)), x18, x19, x20, x21, x22, gb, g9, c9, (by simp only [Act.put, List.setIfInBounds_toArray, List.set_cons_zero, List.set_cons_succ]), (by simp only [Act.put, List.setIfInBounds_toArray, List.set_cons_zero, List.set_cons_succ]), hb, cd0, cd1, cd2, cd3, (fun _ => rfl), cd5, cd6, cd7, cd8, cd9, f_v, f_G, f_bl, f_q8, f_P, f_F, f_q10, f_q19, f_q6⟩
        · rintro L a w ⟨b0, b1, b2, b3, b4, b5, b6, b7, b8, b9, b10, x13, x14, x15, x16, x17, x18, x19, x20, x21, x22, gb, g9, c9, rfl, rfl, hb, cd0, cd1, cd2, cd3, cd4, cd5, cd6, cd7, cd8, cd9, f_v, f_G, f_bl, f_q8, f_P, f_F, f_q10, f_q19, f_q6⟩ hf hd
          have hf' : b5 = false := hf
          subst hf'
          have d4 : b4 = true := hd ⟨4, .data⟩ (by simp) rfl
          subst d4
          obtain rfl := cd4.out rfl
          clear hf hd
          have W_v := f_v.out
          try simp only [List.setIfInBounds_toArray, List.set_cons_zero, List.set_cons_succ]
          obtain ⟨z0, z1, z2⟩ := W_v.c
          simp only at z0 z1 z2
          intro K hK
          rw [if_pos (by rfl)]
          go_simp
          exact hK.out _ _ ⟨b0, b1, b2, b3, true, true, b6, b7, b8, b9, b10, x13, x14, x15, x16, .pointer (some ⟨v, 0, none⟩), (.int .i64 s), x19, x20, x21, x22, gb, g9, c9, (by simp only [Act.put, List.setIfInBounds_toArray, List.set_cons_zero, List.set_cons_succ]), (by simp only [Act.put, List.setIfInBounds_toArray, List.set_cons_zero, List.set_cons_succ]), hb, cd0, cd1, cd2, cd3, (fun _ => rfl), (fun _ => rfl), cd6, cd7, cd8, cd9, f_v, f_G, f_bl, f_q8, f_P, f_F, f_q10, f_q19, f_q6⟩
        · rintro L a w ⟨b0, b1, b2, b3, b4, b5, b6, b7, b8, b9, b10, x13, x14, x15, x16, x17, x18, x19, x20, x21, x22, gb, g9, c9, rfl, rfl, hb, cd0, cd1, cd2, cd3, cd4, cd5, cd6, cd7, cd8, cd9, f_v, f_G, f_bl, f_q8, f_P, f_F, f_q10, f_q19, f_q6⟩ hf hd
          have hf' : b6 = false := hf
          subst hf'
          have d3 : b3 = true := hd ⟨3, .data⟩ (by simp) rfl
          subst d3
          have d5 : b5 = true := hd ⟨5, .data⟩ (by simp) rfl
          subst d5
          obtain rfl := cd3.out rfl
          obtain rfl := cd5.out rfl
          clear hf hd
          have W_v := f_v.out
          try simp only [List.setIfInBounds_toArray, List.set_cons_zero, List.set_cons_succ]
          have e9 : b9 = false := by cases hq : b9 with | false => rfl | true => exact absurd (f_q6.out hq) (by simp)
          have W_G := f_G.out e9
          intro K hK
          rw [if_pos (by rfl)]
          refine wp_look_v _ _ 266 rfl 3 94 keyI' Try.underlying3 Try.underlying266 (zeroS _) B j f rfl W_G.map s rfl hs (.slice oa k cc) HS ?_
          exact hK.out _ _ ⟨b0, b1, b2, true, b4, true, true, b7, b8, b9, b10, x13, x14, x15, .map (some B), x17, .int .i64 s, (.slice oa k cc), x20, x21, x22, gb, g9, c9, (by simp only [Act.put, List.setIfInBounds_toArray, List.set_cons_zero, List.set_cons_succ]), (by simp only [Act.put, List.setIfInBounds_toArray, List.set_cons_zero, List.set_cons_succ]), hb, cd0, cd1, cd2, (fun _ => rfl), cd4, (fun _ => rfl), (fun _ => rfl), cd7, cd8, cd9, f_v, f_G, f_bl, f_q8, f_P, f_F, f_q10, f_q19, (fun _ => rfl)⟩
        · rintro L a w ⟨b0, b1, b2, b3, b4, b5, b6, b7, b8, b9, b10, x13, x14, x15, x16, x17, x18, x19, x20, x21, x22, gb, g9, c9, rfl, rfl, hb, cd0, cd1, cd2, cd3, cd4, cd5, cd6, cd7, cd8, cd9, f_v, f_G, f_bl, f_q8, f_P, f_F, f_q10, f_q19, f_q6⟩ hf hd
          have hf' : b7 = false := hf
          subst hf'
          clear hf hd
          have W_v := f_v.out
          try simp only [List.setIfInBounds_toArray, List.set_cons_zero, List.set_cons_succ]
          obtain ⟨z0, z1, z2⟩ := W_v.c
          simp only at z0 z1 z2
          intro K hK
          rw [if_pos (by rfl)]
          go_simp
          exact hK.out _ _ ⟨b0, b1, b2, b3, b4, b5, b6, true, b8, b9, b10, x13, x14, x15, x16, x17, x18, x19, (.agg #[.int .i64 s, .string (bsOf t), .bool x]), x21, x22, gb, g9, c9, (by simp only [Act.put, List.setIfInBounds_toArray, List.set_cons_zero, List.set_cons_succ]), (by simp only [Act.put, List.setIfInBounds_toArray, List.set_cons_zero, List.set_cons_succ]), hb, cd0, cd1, cd2, cd3, cd4, cd5, cd6, (fun _ => rfl), cd8, cd9, f_v, f_G, f_bl, f_q8, f_P, f_F, f_q10, f_q19, f_q6⟩
        · rintro L a w ⟨b0, b1, b2, b3, b4, b5, b6, b7, b8, b9, b10, x13, x14, x15, x16, x17, x18, x19, x20, x21, x22, gb, g9, c9, rfl, rfl, hb, cd0, cd1, cd2, cd3, cd4, cd5, cd6, cd7, cd8, cd9, f_v, f_G, f_bl, f_q8, f_P, f_F, f_q10, f_q19, f_q6⟩ hf hd
          have hf' : b8 = false := hf
          subst hf'
          have d7 : b7 = true := hd ⟨7, .data⟩ (by simp) rfl
          subst d7
          obtain rfl := cd7.out rfl
          clear hf hd
          have W_v := f_v.out
          try simp only [List.setIfInBounds_toArray, List.set_cons_zero, List.set_cons_succ]
          intro K hK
          rw [if_pos (by rfl)]
          refine wp_buildSlice_one 94 101 _ rfl (Hd.cells (⟨s, t, x⟩ : Hd)) 3 rfl rfl (by omega) (by omega) Try.underlying94 hd_inf fun w5 hB5 bq5 sq5 => ?_
          have bx := bq5
          exact hK.out _ _ ⟨b0, b1, b2, b3, b4, b5, b6, true, true, b9, b10, x13, x14, x15, x16, x17, x18, x19, .agg #[.int .i64 s, .string (bsOf t), .bool x], (.slice (some ⟨(w.heap.size), 0, none⟩) 1 1), x22, w.heap.size, g9, c9, (by simp only [Act.put, List.setIfInBounds_toArray, List.set_cons_zero, List.set_cons_succ]), (by simp only [Act.put, List.setIfInBounds_toArray, List.set_cons_zero, List.set_cons_succ]), hb.trans (bx.mono (Nat.le_trans hB0 hb.size)), cd0, cd1, cd2, cd3, cd4, cd5, cd6, (fun _ => rfl), (fun _ => rfl), cd9, (f_v.out.past bx), (fun h1 => (f_G.out h1).past bx), (fun _ _ => OwnR.ofBlk hB5 rfl rfl (by omega)), (fun _ => rfl), (fun h0 _ => absurd (f_q8.out h0) (by simp)), (fun h0 => absurd (f_q10.out h0) (by simp)), (fun _ => rfl), f_q19, f_q6⟩
        · rintro L a w ⟨b0, b1, b2, b3, b4, b5, b6, b7, b8, b9, b10, x13, x14, x15, x16, x17, x18, x19, x20, x21, x22, gb, g9, c9, rfl, rfl, hb, cd0, cd1, cd2, cd3, cd4, cd5, cd6, cd7, cd8, cd9, f_v, f_G, f_bl, f_q8, f_P, f_F, f_q10, f_q19, f_q6⟩ hf hd
          have hf' : b9 = false := hf
          subst hf'
          have d6 : b6 = true := hd ⟨6, .data⟩ (by simp) rfl
          subst d6
          have d8 : b8 = true := hd ⟨8, .data⟩ (by simp) rfl
          subst d8
          obtain rfl := cd6.out rfl
          obtain rfl := cd8.out rfl
          clear hf hd
          have W_v := f_v.out
          have W_G := f_G.out rfl
          have W_bl := f_bl.out rfl rfl
          try simp only [List.setIfInBounds_toArray, List.set_cons_zero, List.set_cons_succ]
          intro K hK
          rw [if_pos (by rfl)]
          refine wp_append_r _ _ 94 94 rfl rowTyHd rfl (HT _ _ W_G) (Nat.le_trans hB0 hb.size) _ rfl 1 [(⟨s, t, x⟩ : Hd)] (W_bl.isR.src Try.underlying94) rfl (by omega) N HN _ rfl hNm ?_
          intro g10 c10 w2 o10 gr10 q10 bq10
          have hb2 := hb.trans bq10
          obtain ⟨hB10, hw10⟩ := own_txt o10
          have p9 := W_G.app (y := (⟨s, t, x⟩ : Hd)) HR gr10 q10 hB10 hw10
          exact hK.out _ _ ⟨b0, b1, b2, b3, b4, b5, true, b7, true, true, b10, x13, x14, x15, x16, x17, x18, .slice oa k cc, x20, .slice (some ⟨gb, 0, none⟩) 1 1, (.slice (some ⟨g10, 0, none⟩) N c10), gb, g10, c10, (by simp only [Act.put, List.setIfInBounds_toArray, List.set_cons_zero, List.set_cons_succ]), (by simp only [Act.put, List.setIfInBounds_toArray, List.set_cons_zero, List.set_cons_succ]), hb2, cd0, cd1, cd2, cd3, cd4, cd5, (fun _ => rfl), cd7, (fun _ => rfl), (fun _ => rfl), ((gr10.block v (f_v.out).lt nva).trans (f_v.out)), (fun h => by cases h), (fun _ h => by cases h), (fun _ => rfl), (fun _ _ => p9), (fun h0 => absurd (f_q19.out h0) (by simp)), f_q10, (fun _ => rfl), (fun _ => rfl)⟩
        · rintro L a w ⟨b0, b1, b2, b3, b4, b5, b6, b7, b8, b9, b10, x13, x14, x15, x16, x17, x18, x19, x20, x21, x22, gb, g9, c9, rfl, rfl, hb, cd0, cd1, cd2, cd3, cd4, cd5, cd6, cd7, cd8, cd9, f_v, f_G, f_bl, f_q8, f_P, f_F, f_q10, f_q19, f_q6⟩ hf hd
          have hf' : b10 = false := hf
          subst hf'
          have d0 : b0 = true := hd ⟨0, .data⟩ (by simp) rfl
          subst d0
          have d2 : b2 = true := hd ⟨2, .data⟩ (by simp) rfl
          subst d2
          have d9 : b9 = true := hd ⟨9, .data⟩ (by simp) rfl
          subst d9
          have d1 : b1 = true := hd ⟨1, .phase⟩ (by simp) rfl
          subst d1
          have d3 : b3 = true := hd ⟨3, .phase⟩ (by simp) rfl
          subst d3
          have d4 : b4 = true := hd ⟨4, .phase⟩ (by simp) rfl
          subst d4
          have d5 : b5 = true := hd ⟨5, .phase⟩ (by simp) rfl
          subst d5
          have d6 : b6 = true := hd ⟨6, .phase⟩ (by simp) rfl
          subst d6
          have d7 : b7 = true := hd ⟨7, .phase⟩ (by simp) rfl
          subst d7
          have d8 : b8 = true := hd ⟨8, .phase⟩ (by simp) rfl
          subst d8
          obtain rfl := cd0.out rfl
          obtain rfl := cd2.out rfl
          obtain rfl := cd9.out rfl
          obtain rfl := cd1.out rfl
          obtain rfl := cd3.out rfl
          obtain rfl := cd4.out rfl
          obtain rfl := cd5.out rfl
          obtain rfl := cd6.out rfl
          obtain rfl := cd7.out rfl
          obtain rfl := cd8.out rfl
          clear hf hd
          have W_v := f_v.out
          have W_q8 := f_q8.out rfl
          have W_P := f_P.out rfl rfl
          have W_q6 := f_q6.out rfl
          try simp only [List.setIfInBounds_toArray, List.set_cons_zero, List.set_cons_succ]
          intro K hK
          rw [if_pos (by rfl)]
          refine wp_upd_g _ _ _ 266 rfl 3 94 keyI' Try.underlying3 Try.underlying266 B j f rfl W_P.map hnm s rfl hs (g9, N, c9) rfl ?_
          intro w2 m10 gr10 sz10
          have hb2 := hb.grown gr10 (Nat.le_trans hB0 hb.size) (fun z hz => by cases hz; exact hBob)
          have p10 := W_P.upd m10 gr10
          exact hK.out _ _ ⟨true, true, true, true, true, true, true, true, true, true, true, .map (some B), .pointer (some ⟨v, 0, none⟩), .int .i64 s, .map (some B), .pointer (some ⟨v, 0, none⟩), .int .i64 s, .slice oa k cc, .agg #[.int .i64 s, .string (bsOf t), .bool x], .slice (some ⟨gb, 0, none⟩) 1 1, .slice (some ⟨g9, 0, none⟩) N c9, gb, g9, c9, (by simp only [Act.put, List.setIfInBounds_toArray, List.set_cons_zero, List.set_cons_succ]), (by simp only [Act.put, List.setIfInBounds_toArray, List.set_cons_zero, List.set_cons_succ]), hb2, (fun _ => rfl), (fun _ => rfl), (fun _ => rfl), (fun _ => rfl), (fun _ => rfl), (fun _ => rfl), (fun _ => rfl), (fun _ => rfl), (fun _ => rfl), (fun _ => rfl), ((gr10.block v (f_v.out).lt (fun e => nvo (Option.some.inj e))).trans (f_v.out)), (fun h => by cases h), (fun _ h => by cases h), f_q8, (fun _ h => by cases h), (fun _ => p10), (fun _ => rfl), (fun _ => rfl), f_q6⟩
      · rintro act V ⟨b0, b1, b2, b3, b4, b5, b6, b7, b8, b9, b10, x13, x14, x15, x16, x17, x18, x19, x20, x21, x22, gb, g9, c9, hL, rfl, hb, cd0, cd1, cd2, cd3, cd4, cd5, cd6, cd7, cd8, cd9, f_v, f_G, f_bl, f_q8, f_P, f_F, f_q10, f_q19, f_q6⟩
        have hL' : [true, true, true, true, true, true, true, true, true, true, true] = [b0, b1, b2, b3, b4, b5, b6, b7, b8, b9, b10] := congrArg Array.toList hL
        simp only [List.cons.injEq, and_true] at hL'
        obtain ⟨rfl, rfl, rfl, rfl, rfl, rfl, rfl, rfl, rfl, rfl, rfl⟩ := hL'
        obtain rfl := cd0.out rfl
        obtain rfl := cd1.out rfl
        obtain rfl := cd2.out rfl
        obtain rfl := cd3.out rfl
        obtain rfl := cd4.out rfl
        obtain rfl := cd5.out rfl
        obtain rfl := cd6.out rfl
        obtain rfl := cd7.out rfl
        obtain rfl := cd8.out rfl
        obtain rfl := cd9.out rfl
        have W_v := f_v.out
        have W_q8 := f_q8.out rfl
        have W_F := f_F.out rfl
        have W_q10 := f_q10.out rfl
        have W_q19 := f_q19.out rfl
        have W_q6 := f_q6.out rfl
        clear hL f_v f_G f_bl f_q8 f_P f_F f_q10 f_q19 f_q6 cd0 cd1 cd2 cd3 cd4 cd5 cd6 cd7 cd8 cd9
        simp only [List.setIfInBounds_toArray, List.set_cons_zero, List.set_cons_succ]
        have BV : Below B W V := (Below.refl _ _).drew.trans hb
        have G2 := W_F
        rw [← HTK.out] at G2
        go_wp2_with fail
        go_roundw
        case rel => exact ⟨j + 1, _, by omega, by go_num, G2, BW.trans BV⟩
        case measure => simp [intOf]; omega
    · have hlti : ¬ ((j : Int) < (n : Int)) := by omega
      obtain rfl : j = n := by omega
      rw [List.take_of_length_le (by omega)] at G
      go_wp2_with fail
      go_ret
      rw [HB.out]
      exact ⟨rfl, ⟨f, G⟩, BR⟩
end Go.Proofs.Ytllijeciodmckaa
