/-
  The row of a key, walked (by gen_at.py).
-/
import Derived.Test.YtjacaammlkjodaaLaw11
import Derived.Test.YtjacaammlkjodaaSame
namespace Go.Proofs.Ytjacaammlkjodaa
open Go.RowKit
set_option linter.unusedSimpArgs false
theorem eqV_iff (k n : Int) (s : ByteArray) (k' n' : Int) (s' : ByteArray) : eqV k n s k' n' s' = true ↔ (⟨k, n, s⟩ : V) = ⟨k', n', s'⟩ := by
  exact V.eq_iff ⟨k, n, s⟩ ⟨k', n', s'⟩
/-- What at answers. -/
def AtPost (w : World) (C : Nat) (v : V) (rs : List (List V)) (e : Ending) (w' : World) : Prop :=
  ((∃ (i : Nat) (r : List V), e = .returned (.int .i64 (i : Nat)) ∧ rs[i]? = some r ∧ kOf C r = v) ∨ e = .returned (.int .i64 (-1)) ∧ ∀ r ∈ rs, kOf C r ≠ v) ∧ Below w.heap.size w w'
/-- What stands while the region's operations come up. -/
inductive At4 (B : Nat) (p : Nat) (b : Nat) (off : Nat) (rn : Nat) (rc : Nat) (j : Nat) (zb : Nat) (zo : Nat) (xn : Nat) (xc : Nat) (k1 : Int) (m1 : Int) (s1 : ByteArray) (C : Nat) (k : Int) (m : Int) (s : ByteArray) (EQ : Bool) (a0 : Act) (w0 : World) (L : Array Bool) (a : Act) (w : World) : Prop
  | mk (b0 b1 b2 b3 b4 b5 b6 b7 b8 : Bool) (x14 x15 x16 x17 x18 x19 x20 x21 x22 : Value) (hL : L = #[b0, b1, b2, b3, b4, b5, b6, b7, b8]) (ha : a = ⟨(((((((((a0.tmps.setIfInBounds 14 x14).setIfInBounds 15 x15).setIfInBounds 16 x16).setIfInBounds 17 x17).setIfInBounds 18 x18).setIfInBounds 19 x19).setIfInBounds 20 x20).setIfInBounds 21 x21).setIfInBounds 22 x22), a0.defers⟩) (hb : Below B w0 w) (cd0 : Hid (b0 = true → x14 = .slice (some ⟨b, off, none⟩) rn rc)) (cd1 : Hid (b1 = true → x15 = .int .i64 (j : Nat))) (cd2 : Hid (b2 = true → x16 = .pointer (some ⟨b, off + j, none⟩))) (cd3 : Hid (b3 = true → x17 = .slice (some ⟨zb, zo, none⟩) xn xc)) (cd4 : Hid (b4 = true → x18 = .int .i64 (C : Nat))) (cd5 : Hid (b5 = true → x19 = .pointer (some ⟨zb, zo + C * 3, none⟩))) (cd6 : Hid (b6 = true → x20 = .agg #[.int .i64 k1, .int .i64 m1, .string s1])) (cd7 : Hid (b7 = true → x21 = .agg #[.int .i64 k, .int .i64 m, .string s])) (cd8 : Hid (b8 = true → x22 = .bool EQ)) : At4 B p b off rn rc j zb zo xn xc k1 m1 s1 C k m s EQ a0 w0 L a w
set_option maxRecDepth 100000 in
set_option maxHeartbeats 1000000 in
theorem at11_any (w : World) (B : Nat) (ro : Option Addr) (rn rc : Nat) (rs : List (List V)) (h : IsRR EV w B ro rn rc rs) (C : Nat) (hV : ∀ r ∈ rs, C < r.length) (v : V) (hn : rn ≤ 1000) :
    Calls Try.prog 36 #[.slice ro rn rc, .int .i64 (C : Nat), vv v.k v.n v.s] w (AtPost w C v rs) := by
  have hln := h.len
  obtain ⟨k, m, s⟩ := v
  simp only
  have B0 : Below w.heap.size w (w.alloc (.cells #[.int .i64 k, .int .i64 m, .string s] 46)) := (Below.refl _ _).alloc (Nat.le_refl _) _
  have hVa : VAt (w.alloc (.cells #[.int .i64 k, .int .i64 m, .string s] 46)) w.heap.size k m s := VAt.new w k m s
  go_enter Try.func36, Try.ntmps36
  go_upto_region 1 with fail
  generalize w.alloc (.cells #[.int .i64 k, .int .i64 m, .string s] 46) = W at B0 hVa ⊢
  obtain ⟨p, hp⟩ : ∃ p, w.heap.size = p := ⟨_, rfl⟩
  have hpp := Lib.hid hp
  rw [hp] at hVa
  simp only [hp]
  clear hp
  go_wp2_with fail
  go_loopw [7] (fun i wr => ∃ j : Nat, j ≤ rn ∧ i = .int .i64 (j : Nat) ∧ Below W.heap.size W wr ∧ Hid (∀ i, i < j → ∀ x, rs[i]? = some x → kOf C x ≠ ⟨k, m, s⟩)) (fun i _ => rn - (intOf i).toNat)
  case atStart => exact ⟨0, Nat.zero_le _, rfl, Below.refl _ _, fun i hi => absurd hi (by omega)⟩
  case round =>
    obtain ⟨j, hj, rfl, hB, hf⟩ := hrel
    obtain ⟨g0, g1, g2, -, -, -, hgB⟩ := hVa.past hB
    by_cases hlt : j < rn
    · have hlti : (j : Int) < (rn : Int) := by omega
      obtain ⟨r, hr⟩ : ∃ r, rs[j]? = some r := ⟨rs[j]'(by omega), List.getElem?_eq_getElem _⟩
      obtain ⟨b, off, x, rfl, hbx, hc, hx⟩ := h.at hr
      have hky := hV r (List.mem_of_getElem? hr)
      obtain ⟨kv, hkv⟩ : ∃ v, r[C]? = some v := ⟨r[C]'hky, List.getElem?_eq_getElem _⟩
      have hkk := kOf_get hkv
      obtain ⟨xa, xn, xc⟩ := x
      simp only at hc hx
      obtain ⟨zb, zo, rfl, hb2x, hcc⟩ := hx.open (by have := hx.len; omega) (by decide)
      obtain ⟨e0, e1, e2⟩ := cells_v hcc C kv hkv
      have hxl := hx.len
      have BB := B0.trans (hB.mono B0.size)
      rw [← BB.cell hbx] at hc
      rw [← BB.cell hb2x] at e0 e1 e2
      have hbB := Nat.lt_of_lt_of_le hbx BB.size
      have hzB := Nat.lt_of_lt_of_le hb2x BB.size
      have hkn : (C : Int) < (xn : Int) := by omega
      obtain ⟨k1, m1, s1⟩ := kv
      have hEQ := eqV_iff k1 m1 s1 k m s
      have heq := run_eql_val k1 m1 s1 k m s
      rw [← hkk] at hEQ
      obtain ⟨EQ, hQ⟩ : ∃ q, eqV k1 m1 s1 k m s = q := ⟨_, rfl⟩
      rw [hQ] at hEQ heq
      have HEQ := Lib.hid hEQ
      have HR := Lib.hid hr
      simp only at e0 e1 e2
      have hB0 : wr.heap.size ≤ wr.heap.size := Nat.le_refl _
      clear hEQ hQ hkk hkv hcc hx hr
      go_upto_region 4 with fail
      refine region_inv (At4 wr.heap.size p b off rn rc j zb zo xn xc k1 m1 s1 C k m s EQ) (by kernel_rfl) (by kernel_rfl) ?_ ?_ ?_
      · exact ⟨false, false, false, false, false, false, false, false, false, u14, u15, u16, u17, u18, u19, u20, u21, u22, rfl, (by simp only [Act.put, List.setIfInBounds_toArray, List.set_cons_zero, List.set_cons_succ]), Below.refl _ _, (fun h => by cases h), (fun h => by cases h), (fun h => by cases h), (fun h => by cases h), (fun h => by cases h), (fun h => by cases h), (fun h => by cases h), (fun h => by cases h), (fun h => by cases h)⟩
      · refine ⟨?_, ?_, ?_, ?_, ?_, ?_, ?_, ?_, ?_, trivial⟩
        · rintro L a w ⟨b0, b1, b2, b3, b4, b5, b6, b7, b8, x14, x15, x16, x17, x18, x19, x20, x21, x22, rfl, rfl, hb, cd0, cd1, cd2, cd3, cd4, cd5, cd6, cd7, cd8⟩ hf hd
          have hf' : b0 = false := hf
          subst hf'
          clear hf hd
          try simp only [List.setIfInBounds_toArray, List.set_cons_zero, List.set_cons_succ]
          intro K hK
          rw [if_pos (by rfl)]
          go_simp
          exact hK.out _ _ ⟨true, b1, b2, b3, b4, b5, b6, b7, b8, (.slice (some ⟨b, off, none⟩) rn rc), x15, x16, x17, x18, x19, x20, x21, x22, (by simp only [Act.put, List.setIfInBounds_toArray, List.set_cons_zero, List.set_cons_succ]), (by simp only [Act.put, List.setIfInBounds_toArray, List.set_cons_zero, List.set_cons_succ]), hb, (fun _ => rfl), cd1, cd2, cd3, cd4, cd5, cd6, cd7, cd8⟩
        · rintro L a w ⟨b0, b1, b2, b3, b4, b5, b6, b7, b8, x14, x15, x16, x17, x18, x19, x20, x21, x22, rfl, rfl, hb, cd0, cd1, cd2, cd3, cd4, cd5, cd6, cd7, cd8⟩ hf hd
          have hf' : b1 = false := hf
          subst hf'
          clear hf hd
          try simp only [List.setIfInBounds_toArray, List.set_cons_zero, List.set_cons_succ]
          intro K hK
          rw [if_pos (by rfl)]
          go_simp
          exact hK.out _ _ ⟨b0, true, b2, b3, b4, b5, b6, b7, b8, x14, (.int .i64 (j : Nat)), x16, x17, x18, x19, x20, x21, x22, (by simp only [Act.put, List.setIfInBounds_toArray, List.set_cons_zero, List.set_cons_succ]), (by simp only [Act.put, List.setIfInBounds_toArray, List.set_cons_zero, List.set_cons_succ]), hb, cd0, (fun _ => rfl), cd2, cd3, cd4, cd5, cd6, cd7, cd8⟩
        · rintro L a w ⟨b0, b1, b2, b3, b4, b5, b6, b7, b8, x14, x15, x16, x17, x18, x19, x20, x21, x22, rfl, rfl, hb, cd0, cd1, cd2, cd3, cd4, cd5, cd6, cd7, cd8⟩ hf hd
          have hf' : b2 = false := hf
          subst hf'
          have d0 : b0 = true := hd ⟨0, .data⟩ (by simp) rfl
          subst d0
          have d1 : b1 = true := hd ⟨1, .data⟩ (by simp) rfl
          subst d1
          obtain rfl := cd0.out rfl
          obtain rfl := cd1.out rfl
          clear hf hd
          try simp only [List.setIfInBounds_toArray, List.set_cons_zero, List.set_cons_succ]
          intro K hK
          rw [if_pos (by rfl)]
          go_simp
          exact hK.out _ _ ⟨true, true, true, b3, b4, b5, b6, b7, b8, .slice (some ⟨b, off, none⟩) rn rc, .int .i64 (j : Nat), (.pointer (some ⟨b, off + j, none⟩)), x17, x18, x19, x20, x21, x22, (by simp only [Act.put, List.setIfInBounds_toArray, List.set_cons_zero, List.set_cons_succ]), (by simp only [Act.put, List.setIfInBounds_toArray, List.set_cons_zero, List.set_cons_succ]), hb, (fun _ => rfl), (fun _ => rfl), (fun _ => rfl), cd3, cd4, cd5, cd6, cd7, cd8⟩
        · rintro L a w ⟨b0, b1, b2, b3, b4, b5, b6, b7, b8, x14, x15, x16, x17, x18, x19, x20, x21, x22, rfl, rfl, hb, cd0, cd1, cd2, cd3, cd4, cd5, cd6, cd7, cd8⟩ hf hd
          have hf' : b3 = false := hf
          subst hf'
          have d2 : b2 = true := hd ⟨2, .data⟩ (by simp) rfl
          subst d2
          obtain rfl := cd2.out rfl
          clear hf hd
          try simp only [List.setIfInBounds_toArray, List.set_cons_zero, List.set_cons_succ]
          have z0 := (hb.cell hbB).trans hc
          intro K hK
          rw [if_pos (by rfl)]
          go_simp
          exact hK.out _ _ ⟨b0, b1, true, true, b4, b5, b6, b7, b8, x14, x15, .pointer (some ⟨b, off + j, none⟩), (.slice (some ⟨zb, zo, none⟩) xn xc), x18, x19, x20, x21, x22, (by simp only [Act.put, List.setIfInBounds_toArray, List.set_cons_zero, List.set_cons_succ]), (by simp only [Act.put, List.setIfInBounds_toArray, List.set_cons_zero, List.set_cons_succ]), hb, cd0, cd1, (fun _ => rfl), (fun _ => rfl), cd4, cd5, cd6, cd7, cd8⟩
        · rintro L a w ⟨b0, b1, b2, b3, b4, b5, b6, b7, b8, x14, x15, x16, x17, x18, x19, x20, x21, x22, rfl, rfl, hb, cd0, cd1, cd2, cd3, cd4, cd5, cd6, cd7, cd8⟩ hf hd
          have hf' : b4 = false := hf
          subst hf'
          clear hf hd
          try simp only [List.setIfInBounds_toArray, List.set_cons_zero, List.set_cons_succ]
          intro K hK
          rw [if_pos (by rfl)]
          go_simp
          exact hK.out _ _ ⟨b0, b1, b2, b3, true, b5, b6, b7, b8, x14, x15, x16, x17, (.int .i64 (C : Nat)), x19, x20, x21, x22, (by simp only [Act.put, List.setIfInBounds_toArray, List.set_cons_zero, List.set_cons_succ]), (by simp only [Act.put, List.setIfInBounds_toArray, List.set_cons_zero, List.set_cons_succ]), hb, cd0, cd1, cd2, cd3, (fun _ => rfl), cd5, cd6, cd7, cd8⟩
        · rintro L a w ⟨b0, b1, b2, b3, b4, b5, b6, b7, b8, x14, x15, x16, x17, x18, x19, x20, x21, x22, rfl, rfl, hb, cd0, cd1, cd2, cd3, cd4, cd5, cd6, cd7, cd8⟩ hf hd
          have hf' : b5 = false := hf
          subst hf'
          have d3 : b3 = true := hd ⟨3, .data⟩ (by simp) rfl
          subst d3
          have d4 : b4 = true := hd ⟨4, .data⟩ (by simp) rfl
          subst d4
          obtain rfl := cd3.out rfl
          obtain rfl := cd4.out rfl
          clear hf hd
          try simp only [List.setIfInBounds_toArray, List.set_cons_zero, List.set_cons_succ]
          intro K hK
          rw [if_pos (by rfl)]
          go_simp
          exact hK.out _ _ ⟨b0, b1, b2, true, true, true, b6, b7, b8, x14, x15, x16, .slice (some ⟨zb, zo, none⟩) xn xc, .int .i64 (C : Nat), (.pointer (some ⟨zb, zo + C * 3, none⟩)), x20, x21, x22, (by simp only [Act.put, List.setIfInBounds_toArray, List.set_cons_zero, List.set_cons_succ]), (by simp only [Act.put, List.setIfInBounds_toArray, List.set_cons_zero, List.set_cons_succ]), hb, cd0, cd1, cd2, (fun _ => rfl), (fun _ => rfl), (fun _ => rfl), cd6, cd7, cd8⟩
        · rintro L a w ⟨b0, b1, b2, b3, b4, b5, b6, b7, b8, x14, x15, x16, x17, x18, x19, x20, x21, x22, rfl, rfl, hb, cd0, cd1, cd2, cd3, cd4, cd5, cd6, cd7, cd8⟩ hf hd
          have hf' : b6 = false := hf
          subst hf'
          have d5 : b5 = true := hd ⟨5, .data⟩ (by simp) rfl
          subst d5
          obtain rfl := cd5.out rfl
          clear hf hd
          try simp only [List.setIfInBounds_toArray, List.set_cons_zero, List.set_cons_succ]
          have z0 := (hb.cell hzB).trans e0
          have z1 := (hb.cell hzB).trans e1
          have z2 := (hb.cell hzB).trans e2
          intro K hK
          rw [if_pos (by rfl)]
          go_simp
          exact hK.out _ _ ⟨b0, b1, b2, b3, b4, true, true, b7, b8, x14, x15, x16, x17, x18, .pointer (some ⟨zb, zo + C * 3, none⟩), (.agg #[.int .i64 k1, .int .i64 m1, .string s1]), x21, x22, (by simp only [Act.put, List.setIfInBounds_toArray, List.set_cons_zero, List.set_cons_succ]), (by simp only [Act.put, List.setIfInBounds_toArray, List.set_cons_zero, List.set_cons_succ]), hb, cd0, cd1, cd2, cd3, cd4, (fun _ => rfl), (fun _ => rfl), cd7, cd8⟩
        · rintro L a w ⟨b0, b1, b2, b3, b4, b5, b6, b7, b8, x14, x15, x16, x17, x18, x19, x20, x21, x22, rfl, rfl, hb, cd0, cd1, cd2, cd3, cd4, cd5, cd6, cd7, cd8⟩ hf hd
          have hf' : b7 = false := hf
          subst hf'
          clear hf hd
          try simp only [List.setIfInBounds_toArray, List.set_cons_zero, List.set_cons_succ]
          have z0 := (hb.cell hgB).trans g0
          have z1 := (hb.cell hgB).trans g1
          have z2 := (hb.cell hgB).trans g2
          intro K hK
          rw [if_pos (by rfl)]
          go_simp
          exact hK.out _ _ ⟨b0, b1, b2, b3, b4, b5, b6, true, b8, x14, x15, x16, x17, x18, x19, x20, (.agg #[.int .i64 k, .int .i64 m, .string s]), x22, (by simp only [Act.put, List.setIfInBounds_toArray, List.set_cons_zero, List.set_cons_succ]), (by simp only [Act.put, List.setIfInBounds_toArray, List.set_cons_zero, List.set_cons_succ]), hb, cd0, cd1, cd2, cd3, cd4, cd5, cd6, (fun _ => rfl), cd8⟩
        · rintro L a w ⟨b0, b1, b2, b3, b4, b5, b6, b7, b8, x14, x15, x16, x17, x18, x19, x20, x21, x22, rfl, rfl, hb, cd0, cd1, cd2, cd3, cd4, cd5, cd6, cd7, cd8⟩ hf hd
          have hf' : b8 = false := hf
          subst hf'
          have d6 : b6 = true := hd ⟨6, .data⟩ (by simp) rfl
          subst d6
          have d7 : b7 = true := hd ⟨7, .data⟩ (by simp) rfl
          subst d7
          obtain rfl := cd6.out rfl
          obtain rfl := cd7.out rfl
          clear hf hd
          try simp only [List.setIfInBounds_toArray, List.set_cons_zero, List.set_cons_succ]
          intro K hK
          rw [if_pos (by rfl)]
          go_simp
          exact hK.out _ _ ⟨b0, b1, b2, b3, b4, b5, true, true, true, x14, x15, x16, x17, x18, x19, .agg #[.int .i64 k1, .int .i64 m1, .string s1], .agg #[.int .i64 k, .int .i64 m, .string s], (.bool EQ), (by simp only [Act.put, List.setIfInBounds_toArray, List.set_cons_zero, List.set_cons_succ]), (by simp only [Act.put, List.setIfInBounds_toArray, List.set_cons_zero, List.set_cons_succ]), hb, cd0, cd1, cd2, cd3, cd4, cd5, (fun _ => rfl), (fun _ => rfl), (fun _ => rfl)⟩
      · rintro act V ⟨b0, b1, b2, b3, b4, b5, b6, b7, b8, x14, x15, x16, x17, x18, x19, x20, x21, x22, hL, rfl, hb, cd0, cd1, cd2, cd3, cd4, cd5, cd6, cd7, cd8⟩
        have hL' : [true, true, true, true, true, true, true, true, true] = [b0, b1, b2, b3, b4, b5, b6, b7, b8] := congrArg Array.toList hL
        simp only [List.cons.injEq, and_true] at hL'
        obtain ⟨rfl, rfl, rfl, rfl, rfl, rfl, rfl, rfl, rfl⟩ := hL'
        obtain rfl := cd0.out rfl
        obtain rfl := cd1.out rfl
        obtain rfl := cd2.out rfl
        obtain rfl := cd3.out rfl
        obtain rfl := cd4.out rfl
        obtain rfl := cd5.out rfl
        obtain rfl := cd6.out rfl
        obtain rfl := cd7.out rfl
        obtain rfl := cd8.out rfl
        clear hL cd0 cd1 cd2 cd3 cd4 cd5 cd6 cd7 cd8
        simp only [List.setIfInBounds_toArray, List.set_cons_zero, List.set_cons_succ]
        have BV : Below W.heap.size W V := hB.trans (((Below.refl _ _).drew.trans hb).mono hB.size)
        clear hb
        cases EQ with
        | true =>
          have hk : kOf C r = ⟨k, m, s⟩ := HEQ.out.1 rfl
          go_wp2_with fail
          go_ret
          exact ⟨.inl ⟨j, r, rfl, HR.out, hk⟩, B0.trans (BV.mono B0.size)⟩
        | false =>
          have hk : ∀ i, i < j + 1 → ∀ x, rs[i]? = some x → kOf C x ≠ ⟨k, m, s⟩ := fun i hi x hx e => by
            by_cases hij : i = j
            · subst hij
              obtain rfl := Option.some.inj (HR.out.symm.trans hx)
              have := HEQ.out.2 e
              cases this
            · exact hf.out i (by omega) x hx e
          have HN := Lib.hid hk
          clear hk
          go_wp2_with fail
          go_roundw
          case rel => exact ⟨j + 1, by omega, by go_num, BV, HN⟩
          case measure => simp [intOf]; omega
    · have hlti : ¬ ((j : Int) < (rn : Int)) := by omega
      have hN : ∀ r ∈ rs, kOf C r ≠ ⟨k, m, s⟩ := fun r hr => by
        obtain ⟨i, hi⟩ := List.getElem?_of_mem hr
        have := (List.getElem?_eq_some_iff.1 hi).1
        exact hf.out i (by omega) r hi
      have HN := Lib.hid hN
      clear hN hf
      go_wp2_with fail
      go_ret
      exact ⟨.inr ⟨rfl, HN.out⟩, B0.trans (hB.mono B0.size)⟩
end Go.Proofs.Ytjacaammlkjodaa
