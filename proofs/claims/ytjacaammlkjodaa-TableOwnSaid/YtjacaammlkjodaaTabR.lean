/-
  table.Range (by gen_tabr.py).
-/
import Derived.Test.YtjacaammlkjodaaTabC
import Derived.Test.YtjacaammlkjodaaRngP
namespace Go.Proofs.Ytjacaammlkjodaa
open Go.RowKit
set_option linter.unusedSimpArgs false
theorem IsRRf.mono {α : Type} {E : Enc α} {w : World} {B B' : Nat} {ao : Option Addr} {n c : Nat} {ls : List (List α)} (h : IsRRf E w B ao n c ls) (hb : B' ≤ B) : IsRRf E w B' ao n c ls := by
  obtain ⟨hs, h1, h2, h3, h4, h5⟩ := h
  exact ⟨hs, h1, h2, h3.mono hb, h4.mono hb, h5⟩
/-- What stands while the region's operations come up. -/
inductive Range1 (B : Nat) (p : Nat) (l : List UInt8) (co : Option Addr) (cn : Nat) (cc : Nat) (ky : Nat) (only : Bool) (ro : Option Addr) (rn : Nat) (rc : Nat) (lk : Int) (lm : Int) (ls : ByteArray) (N : Nat) (tk : Bool) (a0 : Act) (w0 : World) (L : Array Bool) (a : Act) (w : World) : Prop
  | mk (b0 b1 b2 b3 b4 b5 b6 b7 b8 : Bool) (x9 x10 x11 x12 x13 x14 x15 x7 x8 : Value) (hL : L = #[b0, b1, b2, b3, b4, b5, b6, b7, b8]) (ha : a = ⟨(((((((((a0.tmps.setIfInBounds 9 x9).setIfInBounds 10 x10).setIfInBounds 11 x11).setIfInBounds 12 x12).setIfInBounds 13 x13).setIfInBounds 14 x14).setIfInBounds 15 x15).setIfInBounds 7 x7).setIfInBounds 8 x8), a0.defers⟩) (hb : Below B w0 w) (cd0 : Hid (b0 = true → x9 = .agg #[.string (bsOf l), .slice co cn cc, .int .i64 (ky : Nat), .bool only, .slice ro rn rc])) (cd1 : Hid (b1 = true → x10 = .agg #[.int .i64 lk, .int .i64 lm, .string ls])) (cd2 : Hid (b2 = true → x11 = .agg #[.string (bsOf l), .slice co cn cc, .int .i64 (ky : Nat), .bool only, .slice ro rn rc, .int .i64 (N : Nat), .bool tk])) (cd3 : Hid (b3 = true → x12 = .int .i64 (N : Nat))) (cd4 : Hid (b4 = true → x13 = .pointer (some ⟨p, 4, none⟩))) (cd5 : Hid (b5 = true → x14 = .slice ro rn rc)) (cd6 : Hid (b6 = true → x15 = .int .i64 (rn : Nat))) (cd7 : Hid (b7 = true → x7 = .int .i64 (N : Nat))) (cd8 : Hid (b8 = true → x8 = .int .i64 (rn : Nat))) : Range1 B p l co cn cc ky only ro rn rc lk lm ls N tk a0 w0 L a w
set_option maxRecDepth 100000 in
set_option maxHeartbeats 1000000 in
theorem range_any (w : World) (l : List UInt8) (co : Option Addr) (cn cc : Nat) (ky : Nat) (only : Bool) (ro : Option Addr) (rn rc : Nat) (B : Nat) (rs : List (List V)) (h : IsRR EV w B ro rn rc rs) (lo hi : V) (hS : Srt ky rs) (hn : rn ≤ 300) (hfl : ∀ x ∈ rs, x.length ≤ 100) :
    Calls Try.prog 54 #[tbV l co cn cc (ky : Nat) only ro rn rc, vv lo.k lo.n lo.s, vv hi.k hi.n hi.s] w fun e w' => ∃ ao c, e = .returned (.slice ao (rngN ky lo hi rs).length c) ∧ IsRRf EV w' w.heap.size ao (rngN ky lo hi rs).length c (rngN ky lo hi rs) ∧ Below w.heap.size w w' := by
  have hln := h.len
  have hNle := at_le ky lo rs
  have hEle := end_le ky hi rs
  have HS0 := fun (w' : World) (hb : Below w.heap.size w w') => seek_any w' l co cn cc ky only ro rn rc B rs (h.past hb) lo hS (by omega)
  have HX0 := fun (w' : World) (hb : Below w.heap.size w w') => seek_any w' l co cn cc ky only ro rn rc B rs (h.past hb) hi hS (by omega)
  have HRg : Hid (rngN ky lo hi rs = (rs.drop (atN ky lo rs)).take (max (atN ky lo rs) (endN ky hi rs) - atN ky lo rs)) := rfl
  obtain ⟨RG, hRG⟩ : ∃ RG, rngN ky lo hi rs = RG := ⟨_, rfl⟩
  rw [hRG] at HRg
  rw [hRG]
  obtain ⟨N, hN⟩ : ∃ N, atN ky lo rs = N := ⟨_, rfl⟩
  obtain ⟨tk, htk⟩ : ∃ tk, hasN ky lo rs = tk := ⟨_, rfl⟩
  simp only [hN, htk] at HS0 hNle HRg
  clear hN htk hRG
  obtain ⟨lk, lm, ls⟩ := lo
  obtain ⟨hk, hm, hs⟩ := hi
  simp only at HS0 HX0 ⊢
  have B0 : Below w.heap.size w (((w.alloc (.cells #[.string (bsOf l), .slice co cn cc, .int .i64 (ky : Nat), .bool only, .slice ro rn rc] 37)).alloc (.cells #[.int .i64 lk, .int .i64 lm, .string ls] 46)).alloc (.cells #[.int .i64 hk, .int .i64 hm, .string hs] 46)) := (((Below.refl _ _).alloc (Nat.le_refl _) _).alloc (by simp) _).alloc (by simp; omega) _
  have hT : Bk (((w.alloc (.cells #[.string (bsOf l), .slice co cn cc, .int .i64 (ky : Nat), .bool only, .slice ro rn rc] 37)).alloc (.cells #[.int .i64 lk, .int .i64 lm, .string ls] 46)).alloc (.cells #[.int .i64 hk, .int .i64 hm, .string hs] 46)) w.heap.size (tbC l co cn cc (ky : Nat) only ro rn rc) 37 := ((Bk.new w _ _).alloc _).alloc _
  have hLo : VAt (((w.alloc (.cells #[.string (bsOf l), .slice co cn cc, .int .i64 (ky : Nat), .bool only, .slice ro rn rc] 37)).alloc (.cells #[.int .i64 lk, .int .i64 lm, .string ls] 46)).alloc (.cells #[.int .i64 hk, .int .i64 hm, .string hs] 46)) (w.heap.size + 1) lk lm ls := by
    have := (VAt.new (w.alloc (.cells #[.string (bsOf l), .slice co cn cc, .int .i64 (ky : Nat), .bool only, .slice ro rn rc] 37)) lk lm ls).alloc (.cells #[.int .i64 hk, .int .i64 hm, .string hs] 46)
    rwa [World.size_alloc] at this
  have hHi : VAt (((w.alloc (.cells #[.string (bsOf l), .slice co cn cc, .int .i64 (ky : Nat), .bool only, .slice ro rn rc] 37)).alloc (.cells #[.int .i64 lk, .int .i64 lm, .string ls] 46)).alloc (.cells #[.int .i64 hk, .int .i64 hm, .string hs] 46)) (w.heap.size + 1 + 1) hk hm hs := by
    have := VAt.new ((w.alloc (.cells #[.string (bsOf l), .slice co cn cc, .int .i64 (ky : Nat), .bool only, .slice ro rn rc] 37)).alloc (.cells #[.int .i64 lk, .int .i64 lm, .string ls] 46)) hk hm hs
    rwa [World.size_alloc, World.size_alloc] at this
  unfold tbV spV at HS0 HX0
  unfold tbV
  go_enter Try.func54, Try.ntmps54
  go_upto_region 1 with fail
  generalize ((w.alloc (.cells #[.string (bsOf l), .slice co cn cc, .int .i64 (ky : Nat), .bool only, .slice ro rn rc] 37)).alloc (.cells #[.int .i64 lk, .int .i64 lm, .string ls] 46)).alloc (.cells #[.int .i64 hk, .int .i64 hm, .string hs] 46) = W at B0 hT hLo hHi ⊢
  obtain ⟨p, hp⟩ : ∃ p, w.heap.size = p := ⟨_, rfl⟩
  obtain ⟨q, hq⟩ : ∃ q, p + 1 = q := ⟨_, rfl⟩
  obtain ⟨q2, hq2⟩ : ∃ q2, p + 1 + 1 = q2 := ⟨_, rfl⟩
  simp only [hp] at hT hLo hHi ⊢
  simp only [hq2] at hHi ⊢
  simp only [hq] at hLo ⊢
  clear hp hq hq2
  obtain ⟨t0, t1, t2, t3, t4⟩ := tb_cells hT
  obtain ⟨g0, g1, g2, -, -, -, hgB⟩ := hLo
  have hpB := hT.lt
  have HS := fun (w' : World) (hb : Below W.heap.size W.drew w') => HS0 w' (B0.trans (((Below.refl _ _).drew.trans hb).mono B0.size))
  have hB0 : W.heap.size ≤ W.heap.size := Nat.le_refl _
  refine region_inv (Range1 W.heap.size p l co cn cc ky only ro rn rc lk lm ls N tk) (by kernel_rfl) (by kernel_rfl) ?_ ?_ ?_
  · exact ⟨false, false, false, false, false, false, false, false, false, undef, undef, undef, undef, undef, undef, undef, undef, undef, rfl, (by simp only [Act.put, List.setIfInBounds_toArray, List.set_cons_zero, List.set_cons_succ]), Below.refl _ _, (fun h => by cases h), (fun h => by cases h), (fun h => by cases h), (fun h => by cases h), (fun h => by cases h), (fun h => by cases h), (fun h => by cases h), (fun h => by cases h), (fun h => by cases h)⟩
  · refine ⟨?_, ?_, ?_, ?_, ?_, ?_, ?_, ?_, ?_, trivial⟩
    · rintro L a w ⟨b0, b1, b2, b3, b4, b5, b6, b7, b8, x9, x10, x11, x12, x13, x14, x15, x7, x8, rfl, rfl, hb, cd0, cd1, cd2, cd3, cd4, cd5, cd6, cd7, cd8⟩ hf hd
      have hf' : b0 = false := hf
      subst hf'
      clear hf hd
      try simp only [List.setIfInBounds_toArray, List.set_cons_zero, List.set_cons_succ]
      have z0 := (hb.cell hpB).trans t0
      have z1 := (hb.cell hpB).trans t1
      have z2 := (hb.cell hpB).trans t2
      have z3 := (hb.cell hpB).trans t3
      have z4 := (hb.cell hpB).trans t4
      intro K hK
      rw [if_pos (by rfl)]
      go_simp
      exact hK.out _ _ ⟨true, b1, b2, b3, b4, b5, b6, b7, b8, (.agg #[.string (bsOf l), .slice co cn cc, .int .i64 (ky : Nat), .bool only, .slice ro rn rc]), x10, x11, x12, x13, x14, x15, x7, x8, (by simp only [Act.put, List.setIfInBounds_toArray, List.set_cons_zero, List.set_cons_succ]), (by simp only [Act.put, List.setIfInBounds_toArray, List.set_cons_zero, List.set_cons_succ]), hb, (fun _ => rfl), cd1, cd2, cd3, cd4, cd5, cd6, cd7, cd8⟩
    · rintro L a w ⟨b0, b1, b2, b3, b4, b5, b6, b7, b8, x9, x10, x11, x12, x13, x14, x15, x7, x8, rfl, rfl, hb, cd0, cd1, cd2, cd3, cd4, cd5, cd6, cd7, cd8⟩ hf hd
      have hf' : b1 = false := hf
      subst hf'
      clear hf hd
      try simp only [List.setIfInBounds_toArray, List.set_cons_zero, List.set_cons_succ]
      have z0 := (hb.cell hgB).trans g0
      have z1 := (hb.cell hgB).trans g1
      have z2 := (hb.cell hgB).trans g2
      intro K hK
      rw [if_pos (by rfl)]
      go_simp
      exact hK.out _ _ ⟨b0, true, b2, b3, b4, b5, b6, b7, b8, x9, (.agg #[.int .i64 lk, .int .i64 lm, .string ls]), x11, x12, x13, x14, x15, x7, x8, (by simp only [Act.put, List.setIfInBounds_toArray, List.set_cons_zero, List.set_cons_succ]), (by simp only [Act.put, List.setIfInBounds_toArray, List.set_cons_zero, List.set_cons_succ]), hb, cd0, (fun _ => rfl), cd2, cd3, cd4, cd5, cd6, cd7, cd8⟩
    · rintro L a w ⟨b0, b1, b2, b3, b4, b5, b6, b7, b8, x9, x10, x11, x12, x13, x14, x15, x7, x8, rfl, rfl, hb, cd0, cd1, cd2, cd3, cd4, cd5, cd6, cd7, cd8⟩ hf hd
      have hf' : b2 = false := hf
      subst hf'
      have d0 : b0 = true := hd ⟨0, .data⟩ (by simp) rfl
      subst d0
      have d1 : b1 = true := hd ⟨1, .data⟩ (by simp) rfl
      subst d1
      obtain rfl := cd0.out rfl
      obtain rfl := cd1.out rfl
      clear hf hd
      try simp only [List.setIfInBounds_toArray, List.set_cons_zero, List.set_cons_succ]
      intro K hK
      rw [if_pos (by rfl)]
      go_simp
      go_at_call 83
      refine (HS _ hb).mono ?_
      rintro e w' ⟨rfl, bx⟩
      exact hK.out _ _ ⟨true, true, true, b3, b4, b5, b6, b7, b8, .agg #[.string (bsOf l), .slice co cn cc, .int .i64 (ky : Nat), .bool only, .slice ro rn rc], .agg #[.int .i64 lk, .int .i64 lm, .string ls], (.agg #[.string (bsOf l), .slice co cn cc, .int .i64 (ky : Nat), .bool only, .slice ro rn rc, .int .i64 (N : Nat), .bool tk]), x12, x13, x14, x15, x7, x8, (by simp only [Act.put, List.setIfInBounds_toArray, List.set_cons_zero, List.set_cons_succ]), (by simp only [Act.put, List.setIfInBounds_toArray, List.set_cons_zero, List.set_cons_succ]), hb.trans (bx.mono (Nat.le_trans hB0 hb.size)), (fun _ => rfl), (fun _ => rfl), (fun _ => rfl), cd3, cd4, cd5, cd6, cd7, cd8⟩
    · rintro L a w ⟨b0, b1, b2, b3, b4, b5, b6, b7, b8, x9, x10, x11, x12, x13, x14, x15, x7, x8, rfl, rfl, hb, cd0, cd1, cd2, cd3, cd4, cd5, cd6, cd7, cd8⟩ hf hd
      have hf' : b3 = false := hf
      subst hf'
      have d2 : b2 = true := hd ⟨2, .data⟩ (by simp) rfl
      subst d2
      obtain rfl := cd2.out rfl
      clear hf hd
      try simp only [List.setIfInBounds_toArray, List.set_cons_zero, List.set_cons_succ]
      intro K hK
      rw [if_pos (by rfl)]
      go_simp
      exact hK.out _ _ ⟨b0, b1, true, true, b4, b5, b6, b7, b8, x9, x10, .agg #[.string (bsOf l), .slice co cn cc, .int .i64 (ky : Nat), .bool only, .slice ro rn rc, .int .i64 (N : Nat), .bool tk], (.int .i64 (N : Nat)), x13, x14, x15, x7, x8, (by simp only [Act.put, List.setIfInBounds_toArray, List.set_cons_zero, List.set_cons_succ]), (by simp [Act.put]), hb, cd0, cd1, (fun _ => rfl), (fun _ => rfl), cd4, cd5, cd6, cd7, cd8⟩
    · rintro L a w ⟨b0, b1, b2, b3, b4, b5, b6, b7, b8, x9, x10, x11, x12, x13, x14, x15, x7, x8, rfl, rfl, hb, cd0, cd1, cd2, cd3, cd4, cd5, cd6, cd7, cd8⟩ hf hd
      have hf' : b4 = false := hf
      subst hf'
      clear hf hd
      try simp only [List.setIfInBounds_toArray, List.set_cons_zero, List.set_cons_succ]
      intro K hK
      rw [if_pos (by rfl)]
      go_simp
      exact hK.out _ _ ⟨b0, b1, b2, b3, true, b5, b6, b7, b8, x9, x10, x11, x12, (.pointer (some ⟨p, 4, none⟩)), x14, x15, x7, x8, (by simp only [Act.put, List.setIfInBounds_toArray, List.set_cons_zero, List.set_cons_succ]), (by simp only [Act.put, List.setIfInBounds_toArray, List.set_cons_zero, List.set_cons_succ]), hb, cd0, cd1, cd2, cd3, (fun _ => rfl), cd5, cd6, cd7, cd8⟩
    · rintro L a w ⟨b0, b1, b2, b3, b4, b5, b6, b7, b8, x9, x10, x11, x12, x13, x14, x15, x7, x8, rfl, rfl, hb, cd0, cd1, cd2, cd3, cd4, cd5, cd6, cd7, cd8⟩ hf hd
      have hf' : b5 = false := hf
      subst hf'
      have d4 : b4 = true := hd ⟨4, .data⟩ (by simp) rfl
      subst d4
      obtain rfl := cd4.out rfl
      clear hf hd
      try simp only [List.setIfInBounds_toArray, List.set_cons_zero, List.set_cons_succ]
      have z0 := (hb.cell hpB).trans t4
      intro K hK
      rw [if_pos (by rfl)]
      go_simp
      exact hK.out _ _ ⟨b0, b1, b2, b3, true, true, b6, b7, b8, x9, x10, x11, x12, .pointer (some ⟨p, 4, none⟩), (.slice ro rn rc), x15, x7, x8, (by simp only [Act.put, List.setIfInBounds_toArray, List.set_cons_zero, List.set_cons_succ]), (by simp only [Act.put, List.setIfInBounds_toArray, List.set_cons_zero, List.set_cons_succ]), hb, cd0, cd1, cd2, cd3, (fun _ => rfl), (fun _ => rfl), cd6, cd7, cd8⟩
    · rintro L a w ⟨b0, b1, b2, b3, b4, b5, b6, b7, b8, x9, x10, x11, x12, x13, x14, x15, x7, x8, rfl, rfl, hb, cd0, cd1, cd2, cd3, cd4, cd5, cd6, cd7, cd8⟩ hf hd
      have hf' : b6 = false := hf
      subst hf'
      have d5 : b5 = true := hd ⟨5, .data⟩ (by simp) rfl
      subst d5
      obtain rfl := cd5.out rfl
      clear hf hd
      try simp only [List.setIfInBounds_toArray, List.set_cons_zero, List.set_cons_succ]
      intro K hK
      rw [if_pos (by rfl)]
      go_simp
      exact hK.out _ _ ⟨b0, b1, b2, b3, b4, true, true, b7, b8, x9, x10, x11, x12, x13, .slice ro rn rc, (.int .i64 (rn : Nat)), x7, x8, (by simp only [Act.put, List.setIfInBounds_toArray, List.set_cons_zero, List.set_cons_succ]), (by simp only [Act.put, List.setIfInBounds_toArray, List.set_cons_zero, List.set_cons_succ]), hb, cd0, cd1, cd2, cd3, cd4, (fun _ => rfl), (fun _ => rfl), cd7, cd8⟩
    · rintro L a w ⟨b0, b1, b2, b3, b4, b5, b6, b7, b8, x9, x10, x11, x12, x13, x14, x15, x7, x8, rfl, rfl, hb, cd0, cd1, cd2, cd3, cd4, cd5, cd6, cd7, cd8⟩ hf hd
      have hf' : b7 = false := hf
      subst hf'
      have d3 : b3 = true := hd ⟨3, .data⟩ (by simp) rfl
      subst d3
      have d2 : b2 = true := hd ⟨2, .chain⟩ (by simp) rfl
      subst d2
      have d0 : b0 = true := hd ⟨0, .phase⟩ (by simp) rfl
      subst d0
      have d1 : b1 = true := hd ⟨1, .phase⟩ (by simp) rfl
      subst d1
      obtain rfl := cd3.out rfl
      obtain rfl := cd2.out rfl
      obtain rfl := cd0.out rfl
      obtain rfl := cd1.out rfl
      clear hf hd
      try simp only [List.setIfInBounds_toArray, List.set_cons_zero, List.set_cons_succ]
      intro K hK
      rw [if_pos (by rfl)]
      go_simp
      exact hK.out _ _ ⟨true, true, true, true, b4, b5, b6, true, b8, .agg #[.string (bsOf l), .slice co cn cc, .int .i64 (ky : Nat), .bool only, .slice ro rn rc], .agg #[.int .i64 lk, .int .i64 lm, .string ls], .agg #[.string (bsOf l), .slice co cn cc, .int .i64 (ky : Nat), .bool only, .slice ro rn rc, .int .i64 (N : Nat), .bool tk], .int .i64 (N : Nat), x13, x14, x15, (.int .i64 (N : Nat)), x8, (by simp only [Act.put, List.setIfInBounds_toArray, List.set_cons_zero, List.set_cons_succ]), (by simp only [Act.put, List.setIfInBounds_toArray, List.set_cons_zero, List.set_cons_succ]), hb, (fun _ => rfl), (fun _ => rfl), (fun _ => rfl), (fun _ => rfl), cd4, cd5, cd6, (fun _ => rfl), cd8⟩
    · rintro L a w ⟨b0, b1, b2, b3, b4, b5, b6, b7, b8, x9, x10, x11, x12, x13, x14, x15, x7, x8, rfl, rfl, hb, cd0, cd1, cd2, cd3, cd4, cd5, cd6, cd7, cd8⟩ hf hd
      have hf' : b8 = false := hf
      subst hf'
      have d6 : b6 = true := hd ⟨6, .data⟩ (by simp) rfl
      subst d6
      have d7 : b7 = true := hd ⟨7, .chain⟩ (by simp) rfl
      subst d7
      have d0 : b0 = true := hd ⟨0, .phase⟩ (by simp) rfl
      subst d0
      have d1 : b1 = true := hd ⟨1, .phase⟩ (by simp) rfl
      subst d1
      have d2 : b2 = true := hd ⟨2, .phase⟩ (by simp) rfl
      subst d2
      have d3 : b3 = true := hd ⟨3, .phase⟩ (by simp) rfl
      subst d3
      have d4 : b4 = true := hd ⟨4, .phase⟩ (by simp) rfl
      subst d4
      have d5 : b5 = true := hd ⟨5, .phase⟩ (by simp) rfl
      subst d5
      obtain rfl := cd6.out rfl
      obtain rfl := cd7.out rfl
      obtain rfl := cd0.out rfl
      obtain rfl := cd1.out rfl
      obtain rfl := cd2.out rfl
      obtain rfl := cd3.out rfl
      obtain rfl := cd4.out rfl
      obtain rfl := cd5.out rfl
      clear hf hd
      try simp only [List.setIfInBounds_toArray, List.set_cons_zero, List.set_cons_succ]
      intro K hK
      rw [if_pos (by rfl)]
      go_simp
      exact hK.out _ _ ⟨true, true, true, true, true, true, true, true, true, .agg #[.string (bsOf l), .slice co cn cc, .int .i64 (ky : Nat), .bool only, .slice ro rn rc], .agg #[.int .i64 lk, .int .i64 lm, .string ls], .agg #[.string (bsOf l), .slice co cn cc, .int .i64 (ky : Nat), .bool only, .slice ro rn rc, .int .i64 (N : Nat), .bool tk], .int .i64 (N : Nat), .pointer (some ⟨p, 4, none⟩), .slice ro rn rc, .int .i64 (rn : Nat), .int .i64 (N : Nat), (.int .i64 (rn : Nat)), (by simp only [Act.put, List.setIfInBounds_toArray, List.set_cons_zero, List.set_cons_succ]), (by simp only [Act.put, List.setIfInBounds_toArray, List.set_cons_zero, List.set_cons_succ]), hb, (fun _ => rfl), (fun _ => rfl), (fun _ => rfl), (fun _ => rfl), (fun _ => rfl), (fun _ => rfl), (fun _ => rfl), (fun _ => rfl), (fun _ => rfl)⟩
  · rintro act V ⟨b0, b1, b2, b3, b4, b5, b6, b7, b8, x9, x10, x11, x12, x13, x14, x15, x7, x8, hL, rfl, hb, cd0, cd1, cd2, cd3, cd4, cd5, cd6, cd7, cd8⟩
    have hL' : [true, true, true, true, true, true, true, true, true] = [b0, b1, b2, b3, b4, b5, b6, b7, b8] := congrArg Array.toList hL
    simp only [List.cons.injEq, and_true] at hL'
    obtain ⟨rfl, rfl, rfl, rfl, rfl, rfl, rfl, rfl, rfl⟩ := hL'
    obtain rfl := cd0.out rfl
    obtain rfl := cd1.out rfl
    obtain rfl := cd2.out rfl
    obtain rfl := cd3.out rfl
    obtain rfl := cd4.out rfl
    obtain rfl := cd5.out rfl
    obtain rfl := cd6.out rfl
    obtain rfl := cd7.out rfl
    obtain rfl := cd8.out rfl
    clear hL cd0 cd1 cd2 cd3 cd4 cd5 cd6 cd7 cd8
    simp only [List.setIfInBounds_toArray, List.set_cons_zero, List.set_cons_succ]
    have BV1 : Below W.heap.size W V := (Below.refl _ _).drew.trans hb
    have BV := B0.trans (BV1.mono B0.size)
    have hTV := hT.past BV1
    have hHV := hHi.past BV1
    clear hb t0 t1 t2 t3 t4 g0 g1 g2 HS
    obtain ⟨t0, t1, t2, t3, t4⟩ := tb_cells hTV
    obtain ⟨h0, h1, h2, -, -, -, hhB⟩ := id hHV
    by_cases k0 : hk = 0
    · subst k0
      have hEn : endN ky ⟨0, hm, hs⟩ rs = rn := hln
      rw [hEn] at HRg hEle
      have hpV := hTV.lt
      clear hEn HX0
      obtain ⟨hds, hhs, hRd, -⟩ := id h
      have hle := hhs.le
      have hmx : max N rn ≤ rn := by omega
      have hmi : max (N : Int) (rn : Int) = ((max N rn : Nat) : Int) := by omega
      have hpp : IsR EH V (if rc = N then ro else Option.map (fun x => x.add N) ro) (max N rn - N) (rc - N) ((hds.drop N).take (max N rn - N)) := by
        have := (hhs.past BV).part N (max N rn) rc (Nat.le_max_left _ _) hmx (Nat.le_trans hmx hle) (Nat.le_refl _)
        simpa [EH] using this
      have hPL : IsRR EH (V.alloc (.cells #[.slice (if rc = N then ro else Option.map (fun x => x.add N) ro) (max N rn - N) (rc - N)] 31)) 0 (some ⟨V.heap.size, 0, none⟩) 1 1 [(hds.drop N).take (max N rn - N)] := part_lit V _ [⟨_, _, _⟩] _ (Rd.one hpp) 1 rfl (by omega) _ rfl
      have BA := BV.alloc BV.size (.cells #[.slice (if rc = N then ro else Option.map (fun x => x.add N) ro) (max N rn - N) (rc - N)] 31)
      have hRd2 : Rd EV (V.alloc (.cells #[.slice (if rc = N then ro else Option.map (fun x => x.add N) ro) (max N rn - N) (rc - N)] 31)) [(hds.drop N).take (max N rn - N)].flatten RG := by
        rw [HRg.out]
        simpa using ((hRd.drop N).take (max N rn - N)).past BA
      have hRl : RG.length ≤ rn := by rw [HRg.out, List.length_take, List.length_drop]; omega
      have hRm : ∀ x ∈ RG, x.length ≤ 100 := fun x hx => by rw [HRg.out] at hx; exact hfl x (List.mem_of_mem_drop (List.mem_of_mem_take hx))
      have hfb := flat_bound 100 RG hRm
      have HO := own_anyF (V.alloc (.cells #[.slice (if rc = N then ro else Option.map (fun x => x.add N) ro) (max N rn - N) (rc - N)] 31)) 0 _ 1 1 _ hPL (by omega) RG hRd2 RG.length rfl (by omega) (by omega)
      clear hpp hPL hRd2 hRm
      go_wp2_with (go_at_call 95; refine HO.mono ?_; rintro e w9 ⟨a9, c9, rfl, i9, b9⟩)
      all_goals (go_ret; exact ⟨a9, c9, rfl, i9.mono BA.size, BA.trans (b9.mono BA.size)⟩)
    · have kn : (hk != 0) = true := by simp [k0]
      have kb : (hk == 0) = false := by simp [k0]
      have hEn : endN ky ⟨hk, hm, hs⟩ rs = nxtN ky ⟨hk, hm, hs⟩ rs := by unfold endN; rw [if_neg k0]
      have HX := HX0 V BV
      have hM := at_le ky ⟨hk, hm, hs⟩ rs
      have hnxt : nxtN ky ⟨hk, hm, hs⟩ rs = (if hasN ky ⟨hk, hm, hs⟩ rs then atN ky ⟨hk, hm, hs⟩ rs + 1 else atN ky ⟨hk, hm, hs⟩ rs) := rfl
      rw [hEn] at HRg hEle
      rw [hnxt] at HRg hEle
      obtain ⟨M, hMe⟩ : ∃ M, atN ky ⟨hk, hm, hs⟩ rs = M := ⟨_, rfl⟩
      obtain ⟨tk2, htk2⟩ : ∃ tk2, hasN ky ⟨hk, hm, hs⟩ rs = tk2 := ⟨_, rfl⟩
      simp only [hMe, htk2] at HX hM HRg hEle
      have HNx := fun w' => next_any w' l co cn cc (ky : Nat) only ro rn rc M (by omega) tk2
      obtain ⟨E, hE⟩ : ∃ E, (if tk2 then M + 1 else M) = E := ⟨_, rfl⟩
      have hEi : (if tk2 then ((M + 1 : Nat) : Int) else (M : Int)) = (E : Int) := by rw [← hE]; split <;> rfl
      simp only [hE, hEi] at HNx HRg hEle
      unfold spV at HNx
      clear hEn hnxt hMe htk2 hE hEi
      go_upto_region 4 with (first | (go_at_call 83; refine HX.mono ?_; rintro e w2 ⟨rfl, b2⟩; have B2 := BV.trans (b2.mono BV.size)) | (go_at_call 94; refine (HNx _).mono ?_; rintro e w3 ⟨rfl, b3⟩; have B3 := B2.trans (b3.mono B2.size); have hT3 := hTV.past (b2.trans (b3.mono b2.size))))
      clear t0 t1 t2 t3 t4 h0 h1 h2
      obtain ⟨t0, t1, t2, t3, t4⟩ := tb_cells hT3
      have hpV := hT3.lt
      obtain ⟨hds, hhs, hRd, -⟩ := id h
      have hle := hhs.le
      have hmx : max N E ≤ rn := by omega
      have hmi : max (N : Int) (E : Int) = ((max N E : Nat) : Int) := by omega
      have hpp : IsR EH w3 (if rc = N then ro else Option.map (fun x => x.add N) ro) (max N E - N) (rc - N) ((hds.drop N).take (max N E - N)) := by
        have := (hhs.past B3).part N (max N E) rc (Nat.le_max_left _ _) hmx (Nat.le_trans hmx hle) (Nat.le_refl _)
        simpa [EH] using this
      have hPL : IsRR EH (w3.alloc (.cells #[.slice (if rc = N then ro else Option.map (fun x => x.add N) ro) (max N E - N) (rc - N)] 31)) 0 (some ⟨w3.heap.size, 0, none⟩) 1 1 [(hds.drop N).take (max N E - N)] := part_lit w3 _ [⟨_, _, _⟩] _ (Rd.one hpp) 1 rfl (by omega) _ rfl
      have BA := B3.alloc B3.size (.cells #[.slice (if rc = N then ro else Option.map (fun x => x.add N) ro) (max N E - N) (rc - N)] 31)
      have hRd2 : Rd EV (w3.alloc (.cells #[.slice (if rc = N then ro else Option.map (fun x => x.add N) ro) (max N E - N) (rc - N)] 31)) [(hds.drop N).take (max N E - N)].flatten RG := by
        rw [HRg.out]
        simpa using ((hRd.drop N).take (max N E - N)).past BA
      have hRl : RG.length ≤ rn := by rw [HRg.out, List.length_take, List.length_drop]; omega
      have hRm : ∀ x ∈ RG, x.length ≤ 100 := fun x hx => by rw [HRg.out] at hx; exact hfl x (List.mem_of_mem_drop (List.mem_of_mem_take hx))
      have hfb := flat_bound 100 RG hRm
      have HO := own_anyF (w3.alloc (.cells #[.slice (if rc = N then ro else Option.map (fun x => x.add N) ro) (max N E - N) (rc - N)] 31)) 0 _ 1 1 _ hPL (by omega) RG hRd2 RG.length rfl (by omega) (by omega)
      clear hpp hPL hRd2 hRm
      go_wp2_with (go_at_call 95; refine HO.mono ?_; rintro e w9 ⟨a9, c9, rfl, i9, b9⟩)
      all_goals (go_ret; exact ⟨a9, c9, rfl, i9.mono BA.size, BA.trans (b9.mono BA.size)⟩)
end Go.Proofs.Ytjacaammlkjodaa
