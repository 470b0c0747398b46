/-
  table: key, the search for a key's spot (by gen_tab.py).
-/
import Derived.Test.YtllijeciodmckaaTabD
import Derived.Deep.QuietTactic
import Derived.BigQuiet
import Derived.Shelf.Abstract
namespace Go.Proofs.Ytllijeciodmckaa
open Go.RowKit
set_option linter.unusedSimpArgs false
theorem tb_cells {w : World} {p : Nat} {l : List UInt8} {co : Option Addr} {cn cc : Nat} {ky : Int} {only : Bool} {ro : Option Addr} {rn rc : Nat} {t : TypeId} (h : Bk w p (tbC l co cn cc ky only ro rn rc) t) :
    w.cell? ⟨p, 0, none⟩ = some (.string (bsOf l)) ∧ w.cell? ⟨p, 1, none⟩ = some (.slice co cn cc) ∧ w.cell? ⟨p, 2, none⟩ = some (.int .i64 ky) ∧ w.cell? ⟨p, 3, none⟩ = some (.bool only) ∧ w.cell? ⟨p, 4, none⟩ = some (.slice ro rn rc) :=
  ⟨h.c rfl, h.c rfl, h.c rfl, h.c rfl, h.c rfl⟩
theorem kOf_get {K : Nat} {r : List V} {v : V} (h : r[K]? = some v) : kOf K r = v := by unfold kOf; rw [List.getD_eq_getElem?_getD, h]; rfl
theorem kOf_none {K : Nat} {r : List V} (h : r.length ≤ K) : kOf K r = V0 := by unfold kOf; rw [List.getD_eq_getElem?_getD, List.getElem?_eq_none h]; rfl
set_option maxRecDepth 100000 in
set_option maxHeartbeats 1000000 in
theorem key_any (w : World) (l : List UInt8) (co : Option Addr) (cn cc : Nat) (K : Nat) (only : Bool) (ro : Option Addr) (rn rc : Nat) (ra : Option Addr) (n c : Nat) (r : List V) (h : IsR EV w ra n c r) :
    Calls Try.prog 77 #[tbV l co cn cc (K : Nat) only ro rn rc, .slice ra n c] w fun e w' => e = .returned (vv (kOf K r).k (kOf K r).n (kOf K r).s) ∧ Below w.heap.size w w' := by
  have hln := h.len
  have B : Below w.heap.size w (w.alloc (.cells #[.string (bsOf l), .slice co cn cc, .int .i64 (K : Nat), .bool only, .slice ro rn rc] 47)) := (Below.refl _ _).alloc (Nat.le_refl _) _
  have hK0 : ¬ ((K : Int) < 0) := by omega
  unfold tbV
  by_cases hlt : K < n
  · have hk : (K : Int) < (n : Int) := by omega
    have hk2 : ¬ ((n : Int) ≤ (K : Int)) := by omega
    obtain ⟨v, hv⟩ : ∃ v, r[K]? = some v := ⟨r[K]'(by omega), List.getElem?_eq_getElem _⟩
    obtain ⟨b, off, rfl, hb, hc⟩ := h.open (by omega) (by decide)
    obtain ⟨c0, c1, c2⟩ := cells_v hc K v hv
    rw [← B.cell hb] at c0 c1 c2
    have hb1 : b < (w.alloc (.cells #[.string (bsOf l), .slice co cn cc, .int .i64 (K : Nat), .bool only, .slice ro rn rc] 47)).heap.size := Nat.lt_of_lt_of_le hb B.size
    have HV := Lib.hid (kOf_get hv)
    obtain ⟨k, m, s⟩ := v
    simp only at c0 c1 c2
    have B2 : Below w.heap.size w ((w.alloc (.cells #[.string (bsOf l), .slice co cn cc, .int .i64 (K : Nat), .bool only, .slice ro rn rc] 47)).alloc (.cells #[.int .i64 k, .int .i64 m, .string s] 55)) := B.alloc B.size _
    clear hv hc
    go_enter Try.func77, Try.ntmps77
    go_wp2_with fail
    refine bodyPost_ret (v := vv k m s) (by simp [results, Try.results77, go_sem]) rfl ?_
    rw [HV.out]
    exact ⟨rfl, B2⟩
  · have hk : ¬ ((K : Int) < (n : Int)) := by omega
    have hk2 : (n : Int) ≤ (K : Int) := by omega
    have HV := Lib.hid (kOf_none (K := K) (r := r) (by omega))
    go_enter Try.func77, Try.ntmps77
    go_wp2_with fail
    refine bodyPost_ret (v := vv 0 0 ⟨#[]⟩) (by simp [results, Try.results77, go_sem]) rfl ?_
    rw [HV.out]
    exact ⟨rfl, B.alloc B.size _⟩
/-- What stands while the region's operations come up. -/
inductive SeekF (B : Nat) (l : List UInt8) (co : Option Addr) (cn : Nat) (cc : Nat) (ky : Nat) (only : Bool) (ro : Option Addr) (rn : Nat) (rc : Nat) (xa : Option Addr) (xn : Nat) (xc : Nat) (k1 : Int) (m1 : Int) (s1 : ByteArray) (k : Int) (m : Int) (s : ByteArray) (C : Int) (a0 : Act) (w0 : World) (L : Array Bool) (a : Act) (w : World) : Prop
  | mk (b0 b1 b2 b3 b4 b5 : Bool) (x6 x7 x8 x9 x10 x5 : Value) (hL : L = #[b0, b1, b2, b3, b4, b5]) (ha : a = ⟨((((((a0.tmps.setIfInBounds 6 x6).setIfInBounds 7 x7).setIfInBounds 8 x8).setIfInBounds 9 x9).setIfInBounds 10 x10).setIfInBounds 5 x5), a0.defers⟩) (hb : Below B w0 w) (cd0 : Hid (b0 = true → x6 = .agg #[.string (bsOf l), .slice co cn cc, .int .i64 (ky : Nat), .bool only, .slice ro rn rc])) (cd1 : Hid (b1 = true → x7 = .slice xa xn xc)) (cd2 : Hid (b2 = true → x8 = .agg #[.int .i64 k1, .int .i64 m1, .string s1])) (cd3 : Hid (b3 = true → x9 = .agg #[.int .i64 k, .int .i64 m, .string s])) (cd4 : Hid (b4 = true → x10 = .int .i64 C)) (cd5 : Hid (b5 = true → x5 = .int .i64 C)) : SeekF B l co cn cc ky only ro rn rc xa xn xc k1 m1 s1 k m s C a0 w0 L a w
set_option maxRecDepth 100000 in
set_option maxHeartbeats 1000000 in
theorem seekF_any (w : World) (p : Nat) (l : List UInt8) (co : Option Addr) (cn cc : Nat) (ky : Nat) (only : Bool) (ro : Option Addr) (rn rc : Nat) (hp : Bk w p (tbC l co cn cc (ky : Nat) only ro rn rc) 47) (xa : Option Addr) (xn xc : Nat) (r : List V) (h : IsR EV w xa xn xc r) (v : V) :
    Calls Try.prog 133 #[.slice xa xn xc, vv v.k v.n v.s, .pointer (some ⟨p, 0, none⟩)] w fun e w' => e = .returned (.int .i64 ((kOf ky r).cmp v)) ∧ Below w.heap.size w w' := by
  have HK := fun (w' : World) (hr : IsR EV w' xa xn xc r) => key_any w' l co cn cc ky only ro rn rc xa xn xc r hr
  obtain ⟨x, hx⟩ : ∃ x, kOf ky r = x := ⟨_, rfl⟩
  rw [hx] at HK ⊢
  have HC := compare_any x.k x.n x.s v.k v.n v.s
  obtain ⟨C, hC⟩ : ∃ C, x.cmp v = C := ⟨_, rfl⟩
  rw [show cmpV x.k x.n x.s v.k v.n v.s = C from hC] at HC
  rw [hC]
  obtain ⟨k1, m1, s1⟩ := x
  obtain ⟨k, m, s⟩ := v
  simp only at HK HC ⊢
  unfold tbV at HK
  clear hx hC
  have B0 : Below w.heap.size w (w.alloc (.cells #[.int .i64 k, .int .i64 m, .string s] 55)) := (Below.refl _ _).alloc (Nat.le_refl _) _
  have HV := VAt.new w k m s
  go_enter Try.func133, Try.ntmps133
  go_upto_region 1 with fail
  have hr := h.past B0
  have hp1 := hp.past B0
  generalize w.alloc (.cells #[.int .i64 k, .int .i64 m, .string s] 55) = W at B0 HV hr hp1 ⊢
  obtain ⟨gv, hgv⟩ : ∃ gv, w.heap.size = gv := ⟨_, rfl⟩
  rw [hgv] at HV
  simp only [hgv]
  rw [hgv] at B0
  have hgW : gv ≤ W.heap.size := Nat.le_of_lt HV.lt
  obtain ⟨g0, g1, g2, -, -, -, hgB⟩ := HV
  obtain ⟨t0, t1, t2, t3, t4⟩ := tb_cells hp1
  have hpB := hp1.lt
  have hB0 : W.heap.size ≤ W.heap.size := Nat.le_refl _
  have HG := Lib.hid hgv
  clear hgv h hp
  refine region_inv (SeekF W.heap.size l co cn cc ky only ro rn rc xa xn xc k1 m1 s1 k m s C) (by kernel_rfl) (by kernel_rfl) ?_ ?_ ?_
  · exact ⟨false, false, false, false, false, false, undef, undef, undef, undef, undef, .int .i64 0, rfl, (by simp only [Act.put, List.setIfInBounds_toArray, List.set_cons_zero, List.set_cons_succ]), Below.refl _ _, (fun h => by cases h), (fun h => by cases h), (fun h => by cases h), (fun h => by cases h), (fun h => by cases h), (fun h => by cases h)⟩
  · refine ⟨?_, ?_, ?_, ?_, ?_, ?_, trivial⟩
    · rintro L a w ⟨b0, b1, b2, b3, b4, b5, x6, x7, x8, x9, x10, x5, rfl, rfl, hb, cd0, cd1, cd2, cd3, cd4, cd5⟩ hf hd
      have hf' : b0 = false := hf
      subst hf'
      clear hf hd
      try simp only [List.setIfInBounds_toArray, List.set_cons_zero, List.set_cons_succ]
      have z0 := (hb.cell hpB).trans t0
      have z1 := (hb.cell hpB).trans t1
      have z2 := (hb.cell hpB).trans t2
      have z3 := (hb.cell hpB).trans t3
      have z4 := (hb.cell hpB).trans t4
      intro K hK
      rw [if_pos (by rfl)]
      go_simp
      exact hK.out _ _ ⟨true, b1, b2, b3, b4, b5, (.agg #[.string (bsOf l), .slice co cn cc, .int .i64 (ky : Nat), .bool only, .slice ro rn rc]), x7, x8, x9, x10, x5, (by simp only [Act.put, List.setIfInBounds_toArray, List.set_cons_zero, List.set_cons_succ]), (by simp only [Act.put, List.setIfInBounds_toArray, List.set_cons_zero, List.set_cons_succ]), hb, (fun _ => rfl), cd1, cd2, cd3, cd4, cd5⟩
    · rintro L a w ⟨b0, b1, b2, b3, b4, b5, x6, x7, x8, x9, x10, x5, rfl, rfl, hb, cd0, cd1, cd2, cd3, cd4, cd5⟩ hf hd
      have hf' : b1 = false := hf
      subst hf'
      clear hf hd
      try simp only [List.setIfInBounds_toArray, List.set_cons_zero, List.set_cons_succ]
      intro K hK
      rw [if_pos (by rfl)]
      go_simp
      exact hK.out _ _ ⟨b0, true, b2, b3, b4, b5, x6, (.slice xa xn xc), x8, x9, x10, x5, (by simp only [Act.put, List.setIfInBounds_toArray, List.set_cons_zero, List.set_cons_succ]), (by simp only [Act.put, List.setIfInBounds_toArray, List.set_cons_zero, List.set_cons_succ]), hb, cd0, (fun _ => rfl), cd2, cd3, cd4, cd5⟩
    · rintro L a w ⟨b0, b1, b2, b3, b4, b5, x6, x7, x8, x9, x10, x5, rfl, rfl, hb, cd0, cd1, cd2, cd3, cd4, cd5⟩ hf hd
      have hf' : b2 = false := hf
      subst hf'
      have d0 : b0 = true := hd ⟨0, .data⟩ (by simp) rfl
      subst d0
      have d1 : b1 = true := hd ⟨1, .data⟩ (by simp) rfl
      subst d1
      obtain rfl := cd0.out rfl
      obtain rfl := cd1.out rfl
      clear hf hd
      try simp only [List.setIfInBounds_toArray, List.set_cons_zero, List.set_cons_succ]
      intro K hK
      rw [if_pos (by rfl)]
      go_simp
      go_at_call 77
      refine (HK _ (hr.drew.past hb)).mono ?_
      rintro e w' ⟨rfl, bx⟩
      exact hK.out _ _ ⟨true, true, true, b3, b4, b5, .agg #[.string (bsOf l), .slice co cn cc, .int .i64 (ky : Nat), .bool only, .slice ro rn rc], .slice xa xn xc, (.agg #[.int .i64 k1, .int .i64 m1, .string s1]), x9, x10, x5, (by simp only [Act.put, List.setIfInBounds_toArray, List.set_cons_zero, List.set_cons_succ]), (by simp only [Act.put, List.setIfInBounds_toArray, List.set_cons_zero, List.set_cons_succ]), hb.trans (bx.mono (Nat.le_trans hB0 hb.size)), (fun _ => rfl), (fun _ => rfl), (fun _ => rfl), cd3, cd4, cd5⟩
    · rintro L a w ⟨b0, b1, b2, b3, b4, b5, x6, x7, x8, x9, x10, x5, rfl, rfl, hb, cd0, cd1, cd2, cd3, cd4, cd5⟩ hf hd
      have hf' : b3 = false := hf
      subst hf'
      clear hf hd
      try simp only [List.setIfInBounds_toArray, List.set_cons_zero, List.set_cons_succ]
      have z0 := (hb.cell hgB).trans g0
      have z1 := (hb.cell hgB).trans g1
      have z2 := (hb.cell hgB).trans g2
      intro K hK
      rw [if_pos (by rfl)]
      go_simp
      exact hK.out _ _ ⟨b0, b1, b2, true, b4, b5, x6, x7, x8, (.agg #[.int .i64 k, .int .i64 m, .string s]), x10, x5, (by simp only [Act.put, List.setIfInBounds_toArray, List.set_cons_zero, List.set_cons_succ]), (by simp only [Act.put, List.setIfInBounds_toArray, List.set_cons_zero, List.set_cons_succ]), hb, cd0, cd1, cd2, (fun _ => rfl), cd4, cd5⟩
    · rintro L a w ⟨b0, b1, b2, b3, b4, b5, x6, x7, x8, x9, x10, x5, rfl, rfl, hb, cd0, cd1, cd2, cd3, cd4, cd5⟩ hf hd
      have hf' : b4 = false := hf
      subst hf'
      have d2 : b2 = true := hd ⟨2, .data⟩ (by simp) rfl
      subst d2
      have d3 : b3 = true := hd ⟨3, .data⟩ (by simp) rfl
      subst d3
      obtain rfl := cd2.out rfl
      obtain rfl := cd3.out rfl
      clear hf hd
      try simp only [List.setIfInBounds_toArray, List.set_cons_zero, List.set_cons_succ]
      intro K hK
      rw [if_pos (by rfl)]
      go_simp
      go_at_call 134
      refine (HC _).mono ?_
      rintro e w' ⟨rfl, bx⟩
      exact hK.out _ _ ⟨b0, b1, true, true, true, b5, x6, x7, .agg #[.int .i64 k1, .int .i64 m1, .string s1], .agg #[.int .i64 k, .int .i64 m, .string s], (.int .i64 C), x5, (by simp only [Act.put, List.setIfInBounds_toArray, List.set_cons_zero, List.set_cons_succ]), (by simp only [Act.put, List.setIfInBounds_toArray, List.set_cons_zero, List.set_cons_succ]), hb.trans (bx.mono (Nat.le_trans hB0 hb.size)), cd0, cd1, (fun _ => rfl), (fun _ => rfl), (fun _ => rfl), cd5⟩
    · rintro L a w ⟨b0, b1, b2, b3, b4, b5, x6, x7, x8, x9, x10, x5, rfl, rfl, hb, cd0, cd1, cd2, cd3, cd4, cd5⟩ hf hd
      have hf' : b5 = false := hf
      subst hf'
      have d4 : b4 = true := hd ⟨4, .data⟩ (by simp) rfl
      subst d4
      have d0 : b0 = true := hd ⟨0, .phase⟩ (by simp) rfl
      subst d0
      have d1 : b1 = true := hd ⟨1, .phase⟩ (by simp) rfl
      subst d1
      have d2 : b2 = true := hd ⟨2, .phase⟩ (by simp) rfl
      subst d2
      have d3 : b3 = true := hd ⟨3, .phase⟩ (by simp) rfl
      subst d3
      obtain rfl := cd4.out rfl
      obtain rfl := cd0.out rfl
      obtain rfl := cd1.out rfl
      obtain rfl := cd2.out rfl
      obtain rfl := cd3.out rfl
      clear hf hd
      try simp only [List.setIfInBounds_toArray, List.set_cons_zero, List.set_cons_succ]
      intro K hK
      rw [if_pos (by rfl)]
      go_simp
      exact hK.out _ _ ⟨true, true, true, true, true, true, .agg #[.string (bsOf l), .slice co cn cc, .int .i64 (ky : Nat), .bool only, .slice ro rn rc], .slice xa xn xc, .agg #[.int .i64 k1, .int .i64 m1, .string s1], .agg #[.int .i64 k, .int .i64 m, .string s], .int .i64 C, (.int .i64 C), (by simp only [Act.put, List.setIfInBounds_toArray, List.set_cons_zero, List.set_cons_succ]), (by simp only [Act.put, List.setIfInBounds_toArray, List.set_cons_zero, List.set_cons_succ]), hb, (fun _ => rfl), (fun _ => rfl), (fun _ => rfl), (fun _ => rfl), (fun _ => rfl), (fun _ => rfl)⟩
  · rintro act V ⟨b0, b1, b2, b3, b4, b5, x6, x7, x8, x9, x10, x5, hL, rfl, hb, cd0, cd1, cd2, cd3, cd4, cd5⟩
    have hL' : [true, true, true, true, true, true] = [b0, b1, b2, b3, b4, b5] := congrArg Array.toList hL
    simp only [List.cons.injEq, and_true] at hL'
    obtain ⟨rfl, rfl, rfl, rfl, rfl, rfl⟩ := hL'
    obtain rfl := cd0.out rfl
    obtain rfl := cd1.out rfl
    obtain rfl := cd2.out rfl
    obtain rfl := cd3.out rfl
    obtain rfl := cd4.out rfl
    obtain rfl := cd5.out rfl
    clear hL cd0 cd1 cd2 cd3 cd4 cd5
    simp only [List.setIfInBounds_toArray, List.set_cons_zero, List.set_cons_succ]
    go_wp2_with fail
    go_ret
    exact ⟨rfl, by rw [HG.out]; exact B0.trans (((Below.refl _ _).drew.trans hb).mono hgW)⟩
/-- What stands while the region's operations come up. -/
inductive BSearch5 (B : Nat) (p : Nat) (b : Nat) (off : Nat) (rn : Nat) (rc : Nat) (mid : Nat) (xa : Option Addr) (xn : Nat) (xc : Nat) (k : Int) (m : Int) (s : ByteArray) (C : Int) (a0 : Act) (w0 : World) (L : Array Bool) (a : Act) (w : World) : Prop
  | mk (b0 b1 b2 b3 b4 b5 b6 b7 : Bool) (x24 x25 x26 x27 x28 x29 x30 x31 : Value) (hL : L = #[b0, b1, b2, b3, b4, b5, b6, b7]) (ha : a = ⟨((((((((a0.tmps.setIfInBounds 24 x24).setIfInBounds 25 x25).setIfInBounds 26 x26).setIfInBounds 27 x27).setIfInBounds 28 x28).setIfInBounds 29 x29).setIfInBounds 30 x30).setIfInBounds 31 x31), a0.defers⟩) (hb : Below B w0 w) (cd0 : Hid (b0 = true → x24 = .func (.func 133) #[] #[.pointer (some ⟨p, 0, none⟩)])) (cd1 : Hid (b1 = true → x25 = .slice (some ⟨b, off, none⟩) rn rc)) (cd2 : Hid (b2 = true → x26 = .int .i64 (mid : Nat))) (cd3 : Hid (b3 = true → x27 = .pointer (some ⟨b, off + mid, none⟩))) (cd4 : Hid (b4 = true → x28 = .slice xa xn xc)) (cd5 : Hid (b5 = true → x29 = .agg #[.int .i64 k, .int .i64 m, .string s])) (cd6 : Hid (b6 = true → x30 = .int .i64 C)) (cd7 : Hid (b7 = true → x31 = .bool (decide (C < 0)))) : BSearch5 B p b off rn rc mid xa xn xc k m s C a0 w0 L a w
/-- What stands while the region's operations come up. -/
inductive BSearch8 (B : Nat) (p : Nat) (b : Nat) (off : Nat) (rn : Nat) (rc : Nat) (lo : Nat) (xa : Option Addr) (xn : Nat) (xc : Nat) (k : Int) (m : Int) (s : ByteArray) (C : Int) (a0 : Act) (w0 : World) (L : Array Bool) (a : Act) (w : World) : Prop
  | mk (b0 b1 b2 b3 b4 b5 b6 b7 b8 b9 b10 b11 b12 b13 b14 b15 : Bool) (x35 x36 x37 x38 x39 x40 x41 x42 x43 x44 x45 x46 x47 x48 x6 x7 : Value) (hL : L = #[b0, b1, b2, b3, b4, b5, b6, b7, b8, b9, b10, b11, b12, b13, b14, b15]) (ha : a = ⟨((((((((((((((((a0.tmps.setIfInBounds 35 x35).setIfInBounds 36 x36).setIfInBounds 37 x37).setIfInBounds 38 x38).setIfInBounds 39 x39).setIfInBounds 40 x40).setIfInBounds 41 x41).setIfInBounds 42 x42).setIfInBounds 43 x43).setIfInBounds 44 x44).setIfInBounds 45 x45).setIfInBounds 46 x46).setIfInBounds 47 x47).setIfInBounds 48 x48).setIfInBounds 6 x6).setIfInBounds 7 x7), a0.defers⟩) (hb : Below B w0 w) (cd0 : Hid (b0 = true → x35 = .int .i64 (lo : Nat))) (cd1 : Hid (b1 = true → x36 = .int .i64 (lo : Nat))) (cd2 : Hid (b2 = true → x37 = .int .i64 (rn : Nat))) (cd3 : Hid (b3 = true → x38 = .bool true)) (cd4 : Hid (b4 = true → x39 = .bool true)) (cd5 : Hid (b5 = true → x40 = .func (.func 133) #[] #[.pointer (some ⟨p, 0, none⟩)])) (cd6 : Hid (b6 = true → x41 = .slice (some ⟨b, off, none⟩) rn rc)) (cd7 : Hid (b7 = true → x42 = .int .i64 (lo : Nat))) (cd8 : Hid (b8 = true → x43 = .pointer (some ⟨b, off + lo, none⟩))) (cd9 : Hid (b9 = true → x44 = .slice xa xn xc)) (cd10 : Hid (b10 = true → x45 = .agg #[.int .i64 k, .int .i64 m, .string s])) (cd11 : Hid (b11 = true → x46 = .int .i64 C)) (cd12 : Hid (b12 = true → x47 = .bool (C == 0))) (cd13 : Hid (b13 = true → x48 = .bool (C == 0))) (cd14 : Hid (b14 = true → x6 = .int .i64 (lo : Nat))) (cd15 : Hid (b15 = true → x7 = .bool (C == 0))) : BSearch8 B p b off rn rc lo xa xn xc k m s C a0 w0 L a w
set_option maxRecDepth 100000 in
set_option maxHeartbeats 2000000 in
theorem bsearch_any (w : World) (p : Nat) (l : List UInt8) (co : Option Addr) (cn cc : Nat) (ky : Nat) (only : Bool) (ro : Option Addr) (rn rc : Nat) (hp : Bk w p (tbC l co cn cc (ky : Nat) only ro rn rc) 47) (B : Nat) (rs : List (List V)) (h : IsRR EV w B ro rn rc rs) (v : V) (hS : Srt ky rs) (hn : rn ≤ 1000) :
    Calls Try.prog 132 #[.slice ro rn rc, vv v.k v.n v.s, .func (.func 133) #[] #[.pointer (some ⟨p, 0, none⟩)]] w fun e w' => e = .returned (.tuple #[.int .i64 (atN ky v rs : Nat), .bool (hasN ky v rs)]) ∧ Below w.heap.size w w' := by
  have hln := h.len
  have HI := fun (i : Nat) (r : List V) (hr : rs[i]? = some r) => hS.iff (k := v) hr
  have hNl := at_le ky v rs
  obtain ⟨N, hN⟩ : ∃ N, atN ky v rs = N := ⟨_, rfl⟩
  have hH : hasN ky v rs = (match rs[N]? with | some r => decide ((kOf ky r).cmp v = 0) | none => false) := by rw [← hN]; rfl
  simp only [hN] at HI hNl ⊢
  have HH := Lib.hid hH
  have HII := Lib.hid HI
  have HF0 := fun (w' : World) (hb : Below w.heap.size w w') (xa : Option Addr) (xn xc : Nat) (r : List V) (hr : IsR EV w' xa xn xc r) => seekF_any w' p l co cn cc ky only ro rn rc (hp.past hb) xa xn xc r hr v
  have HFF := Lib.hid HF0
  clear hN hH HI HF0
  obtain ⟨k, m, s⟩ := v
  simp only at HFF HH HII ⊢
  have B0 : Below w.heap.size w (w.alloc (.cells #[.int .i64 k, .int .i64 m, .string s] 55)) := (Below.refl _ _).alloc (Nat.le_refl _) _
  have HV := VAt.new w k m s
  go_enter Try.func132, Try.ntmps132
  go_upto_region 1 with fail
  generalize w.alloc (.cells #[.int .i64 k, .int .i64 m, .string s] 55) = W at B0 HV ⊢
  obtain ⟨gv, hgv⟩ : ∃ gv, w.heap.size = gv := ⟨_, rfl⟩
  have HG := Lib.hid hgv
  have h1 := h.past B0
  have hgW : gv ≤ W.heap.size := by rw [← hgv]; exact B0.size
  rw [hgv] at HV B0
  simp only [hgv]
  clear hgv
  go_wp2_with fail
  go_loopw [9, 10] (fun z9 z10 wr => ∃ lo hi : Nat, z9 = .int .i64 (lo : Nat) ∧ z10 = .int .i64 (hi : Nat) ∧ lo ≤ N ∧ N ≤ hi ∧ hi ≤ rn ∧ Below W.heap.size W wr) (fun z9 z10 _ => (intOf z10).toNat - (intOf z9).toNat)
  case atStart => exact ⟨0, rn, rfl, rfl, Nat.zero_le _, by omega, Nat.le_refl _, Below.refl _ _⟩
  case round =>
    obtain ⟨lo, hi, rfl, rfl, hlN, hNh, hhn, B1⟩ := hrel
    obtain ⟨g0, g1, g2, -, -, -, hgB⟩ := HV.past B1
    have h2 := h1.past B1
    by_cases hlt : lo < hi
    · have hlti : (lo : Int) < (hi : Int) := by omega
      obtain ⟨mid, hmid⟩ : ∃ mid, (lo + hi) / 2 = mid := ⟨_, rfl⟩
      have hm1 : lo ≤ mid ∧ mid < hi := by omega
      have hmi : ((lo : Int) + (hi : Int)) / 2 = (mid : Int) := by omega
      obtain ⟨r, hr⟩ : ∃ r, rs[mid]? = some r := ⟨rs[mid]'(by omega), List.getElem?_eq_getElem _⟩
      obtain ⟨b, off, x, rfl, hbW, hc, hx⟩ := h2.at hr
      have HI := Lib.hid (HII.out mid r hr)
      have HF := fun (w' : World) (hb : Below wr.heap.size wr.drew w') => HFF.out w' (by rw [HG.out]; exact (B0.trans (B1.mono hgW)).trans (((Below.refl _ _).drew.trans hb).mono (Nat.le_trans hgW B1.size))) x.a x.n x.c r (hx.drew.past hb)
      obtain ⟨C, hC⟩ : ∃ C, (kOf ky r).cmp ⟨k, m, s⟩ = C := ⟨_, rfl⟩
      rw [hC] at HI
      simp only [hC] at HF
      obtain ⟨xa, xn, xc⟩ := x
      simp only at hc HF
      have hmn : (mid : Int) < (rn : Int) := by omega
      clear hr hC hx h2 hmid
      go_upto_region 5 with fail
      have hB0 : wr.heap.size ≤ wr.heap.size := Nat.le_refl _
      refine region_inv (BSearch5 wr.heap.size p b off rn rc mid xa xn xc k m s C) (by kernel_rfl) (by kernel_rfl) ?_ ?_ ?_
      · exact ⟨false, false, false, false, false, false, false, false, u24, u25, u26, u27, u28, u29, u30, u31, rfl, (by simp only [Act.put, List.setIfInBounds_toArray, List.set_cons_zero, List.set_cons_succ]), Below.refl _ _, (fun h => by cases h), (fun h => by cases h), (fun h => by cases h), (fun h => by cases h), (fun h => by cases h), (fun h => by cases h), (fun h => by cases h), (fun h => by cases h)⟩
      · refine ⟨?_, ?_, ?_, ?_, ?_, ?_, ?_, ?_, trivial⟩
        · rintro L a w ⟨b0, b1, b2, b3, b4, b5, b6, b7, x24, x25, x26, x27, x28, x29, x30, x31, rfl, rfl, hb, cd0, cd1, cd2, cd3, cd4, cd5, cd6, cd7⟩ hf hd
          have hf' : b0 = false := hf
          subst hf'
          clear hf hd
          try simp only [List.setIfInBounds_toArray, List.set_cons_zero, List.set_cons_succ]
          intro K hK
          rw [if_pos (by rfl)]
          go_simp
          exact hK.out _ _ ⟨true, b1, b2, b3, b4, b5, b6, b7, (.func (.func 133) #[] #[.pointer (some ⟨p, 0, none⟩)]), x25, x26, x27, x28, x29, x30, x31, (by simp only [Act.put, List.setIfInBounds_toArray, List.set_cons_zero, List.set_cons_succ]), (by simp only [Act.put, List.setIfInBounds_toArray, List.set_cons_zero, List.set_cons_succ]), hb, (fun _ => rfl), cd1, cd2, cd3, cd4, cd5, cd6, cd7⟩
        · rintro L a w ⟨b0, b1, b2, b3, b4, b5, b6, b7, x24, x25, x26, x27, x28, x29, x30, x31, rfl, rfl, hb, cd0, cd1, cd2, cd3, cd4, cd5, cd6, cd7⟩ hf hd
          have hf' : b1 = false := hf
          subst hf'
          clear hf hd
          try simp only [List.setIfInBounds_toArray, List.set_cons_zero, List.set_cons_succ]
          intro K hK
          rw [if_pos (by rfl)]
          go_simp
          exact hK.out _ _ ⟨b0, true, b2, b3, b4, b5, b6, b7, x24, (.slice (some ⟨b, off, none⟩) rn rc), x26, x27, x28, x29, x30, x31, (by simp only [Act.put, List.setIfInBounds_toArray, List.set_cons_zero, List.set_cons_succ]), (by simp only [Act.put, List.setIfInBounds_toArray, List.set_cons_zero, List.set_cons_succ]), hb, cd0, (fun _ => rfl), cd2, cd3, cd4, cd5, cd6, cd7⟩
        · rintro L a w ⟨b0, b1, b2, b3, b4, b5, b6, b7, x24, x25, x26, x27, x28, x29, x30, x31, rfl, rfl, hb, cd0, cd1, cd2, cd3, cd4, cd5, cd6, cd7⟩ hf hd
          have hf' : b2 = false := hf
          subst hf'
          clear hf hd
          try simp only [List.setIfInBounds_toArray, List.set_cons_zero, List.set_cons_succ]
          intro K hK
          rw [if_pos (by rfl)]
          go_simp
          exact hK.out _ _ ⟨b0, b1, true, b3, b4, b5, b6, b7, x24, x25, (.int .i64 (mid : Nat)), x27, x28, x29, x30, x31, (by simp only [Act.put, List.setIfInBounds_toArray, List.set_cons_zero, List.set_cons_succ]), (by simp only [Act.put, List.setIfInBounds_toArray, List.set_cons_zero, List.set_cons_succ]), hb, cd0, cd1, (fun _ => rfl), cd3, cd4, cd5, cd6, cd7⟩
        · rintro L a w ⟨b0, b1, b2, b3, b4, b5, b6, b7, x24, x25, x26, x27, x28, x29, x30, x31, rfl, rfl, hb, cd0, cd1, cd2, cd3, cd4, cd5, cd6, cd7⟩ hf hd
          have hf' : b3 = false := hf
          subst hf'
          have d1 : b1 = true := hd ⟨1, .data⟩ (by simp) rfl
          subst d1
          have d2 : b2 = true := hd ⟨2, .data⟩ (by simp) rfl
          subst d2
          obtain rfl := cd1.out rfl
          obtain rfl := cd2.out rfl
          clear hf hd
          try simp only [List.setIfInBounds_toArray, List.set_cons_zero, List.set_cons_succ]
          intro K hK
          rw [if_pos (by rfl)]
          go_simp
          exact hK.out _ _ ⟨b0, true, true, true, b4, b5, b6, b7, x24, .slice (some ⟨b, off, none⟩) rn rc, .int .i64 (mid : Nat), (.pointer (some ⟨b, off + mid, none⟩)), x28, x29, x30, x31, (by simp only [Act.put, List.setIfInBounds_toArray, List.set_cons_zero, List.set_cons_succ]), (by simp only [Act.put, List.setIfInBounds_toArray, List.set_cons_zero, List.set_cons_succ]), hb, cd0, (fun _ => rfl), (fun _ => rfl), (fun _ => rfl), cd4, cd5, cd6, cd7⟩
        · rintro L a w ⟨b0, b1, b2, b3, b4, b5, b6, b7, x24, x25, x26, x27, x28, x29, x30, x31, rfl, rfl, hb, cd0, cd1, cd2, cd3, cd4, cd5, cd6, cd7⟩ hf hd
          have hf' : b4 = false := hf
          subst hf'
          have d3 : b3 = true := hd ⟨3, .data⟩ (by simp) rfl
          subst d3
          obtain rfl := cd3.out rfl
          clear hf hd
          try simp only [List.setIfInBounds_toArray, List.set_cons_zero, List.set_cons_succ]
          have z0 := (hb.cell hbW).trans hc
          intro K hK
          rw [if_pos (by rfl)]
          go_simp
          exact hK.out _ _ ⟨b0, b1, b2, true, true, b5, b6, b7, x24, x25, x26, .pointer (some ⟨b, off + mid, none⟩), (.slice xa xn xc), x29, x30, x31, (by simp only [Act.put, List.setIfInBounds_toArray, List.set_cons_zero, List.set_cons_succ]), (by simp only [Act.put, List.setIfInBounds_toArray, List.set_cons_zero, List.set_cons_succ]), hb, cd0, cd1, cd2, (fun _ => rfl), (fun _ => rfl), cd5, cd6, cd7⟩
        · rintro L a w ⟨b0, b1, b2, b3, b4, b5, b6, b7, x24, x25, x26, x27, x28, x29, x30, x31, rfl, rfl, hb, cd0, cd1, cd2, cd3, cd4, cd5, cd6, cd7⟩ hf hd
          have hf' : b5 = false := hf
          subst hf'
          clear hf hd
          try simp only [List.setIfInBounds_toArray, List.set_cons_zero, List.set_cons_succ]
          have z0 := (hb.cell hgB).trans g0
          have z1 := (hb.cell hgB).trans g1
          have z2 := (hb.cell hgB).trans g2
          intro K hK
          rw [if_pos (by rfl)]
          go_simp
          exact hK.out _ _ ⟨b0, b1, b2, b3, b4, true, b6, b7, x24, x25, x26, x27, x28, (.agg #[.int .i64 k, .int .i64 m, .string s]), x30, x31, (by simp only [Act.put, List.setIfInBounds_toArray, List.set_cons_zero, List.set_cons_succ]), (by simp only [Act.put, List.setIfInBounds_toArray, List.set_cons_zero, List.set_cons_succ]), hb, cd0, cd1, cd2, cd3, cd4, (fun _ => rfl), cd6, cd7⟩
        · rintro L a w ⟨b0, b1, b2, b3, b4, b5, b6, b7, x24, x25, x26, x27, x28, x29, x30, x31, rfl, rfl, hb, cd0, cd1, cd2, cd3, cd4, cd5, cd6, cd7⟩ hf hd
          have hf' : b6 = false := hf
          subst hf'
          have d0 : b0 = true := hd ⟨0, .data⟩ (by simp) rfl
          subst d0
          have d4 : b4 = true := hd ⟨4, .data⟩ (by simp) rfl
          subst d4
          have d5 : b5 = true := hd ⟨5, .data⟩ (by simp) rfl
          subst d5
          obtain rfl := cd0.out rfl
          obtain rfl := cd4.out rfl
          obtain rfl := cd5.out rfl
          clear hf hd
          try simp only [List.setIfInBounds_toArray, List.set_cons_zero, List.set_cons_succ]
          intro K hK
          rw [if_pos (by rfl)]
          go_simp
          go_at_call 133
          refine (HF _ hb).mono ?_
          rintro e w' ⟨rfl, bx⟩
          exact hK.out _ _ ⟨true, b1, b2, b3, true, true, true, b7, .func (.func 133) #[] #[.pointer (some ⟨p, 0, none⟩)], x25, x26, x27, .slice xa xn xc, .agg #[.int .i64 k, .int .i64 m, .string s], (.int .i64 C), x31, (by simp only [Act.put, List.setIfInBounds_toArray, List.set_cons_zero, List.set_cons_succ]), (by simp only [Act.put, List.setIfInBounds_toArray, List.set_cons_zero, List.set_cons_succ]), hb.trans (bx.mono (Nat.le_trans hB0 hb.size)), (fun _ => rfl), cd1, cd2, cd3, (fun _ => rfl), (fun _ => rfl), (fun _ => rfl), cd7⟩
        · rintro L a w ⟨b0, b1, b2, b3, b4, b5, b6, b7, x24, x25, x26, x27, x28, x29, x30, x31, rfl, rfl, hb, cd0, cd1, cd2, cd3, cd4, cd5, cd6, cd7⟩ hf hd
          have hf' : b7 = false := hf
          subst hf'
          have d6 : b6 = true := hd ⟨6, .data⟩ (by simp) rfl
          subst d6
          obtain rfl := cd6.out rfl
          clear hf hd
          try simp only [List.setIfInBounds_toArray, List.set_cons_zero, List.set_cons_succ]
          intro K hK
          rw [if_pos (by rfl)]
          go_simp
          exact hK.out _ _ ⟨b0, b1, b2, b3, b4, b5, true, true, x24, x25, x26, x27, x28, x29, .int .i64 C, (.bool (decide (C < 0))), (by simp only [Act.put, List.setIfInBounds_toArray, List.set_cons_zero, List.set_cons_succ]), (by simp only [Act.put, List.setIfInBounds_toArray, List.set_cons_zero, List.set_cons_succ]), hb, cd0, cd1, cd2, cd3, cd4, cd5, (fun _ => rfl), (fun _ => rfl)⟩
      · rintro act V ⟨b0, b1, b2, b3, b4, b5, b6, b7, x24, x25, x26, x27, x28, x29, x30, x31, hL, rfl, hb, cd0, cd1, cd2, cd3, cd4, cd5, cd6, cd7⟩
        have hL' : [true, true, true, true, true, true, true, true] = [b0, b1, b2, b3, b4, b5, b6, b7] := congrArg Array.toList hL
        simp only [List.cons.injEq, and_true] at hL'
        obtain ⟨rfl, rfl, rfl, rfl, rfl, rfl, rfl, rfl⟩ := hL'
        obtain rfl := cd0.out rfl
        obtain rfl := cd1.out rfl
        obtain rfl := cd2.out rfl
        obtain rfl := cd3.out rfl
        obtain rfl := cd4.out rfl
        obtain rfl := cd5.out rfl
        obtain rfl := cd6.out rfl
        obtain rfl := cd7.out rfl
        clear hL cd0 cd1 cd2 cd3 cd4 cd5 cd6 cd7
        simp only [List.setIfInBounds_toArray, List.set_cons_zero, List.set_cons_succ]
        have BV : Below W.heap.size W V := B1.trans (((Below.refl _ _).drew.trans hb).mono B1.size)
        clear hb
        by_cases hC0 : C < 0
        · have hlt2 : mid < N := HI.out.1 hC0
          clear HI
          go_wp2_with fail
          go_roundw
          case rel => exact ⟨mid + 1, hi, by go_num, rfl, by omega, hNh, hhn, BV⟩
          case measure => simp [intOf]; omega
        · have hlt2 : ¬ mid < N := fun h => hC0 (HI.out.2 h)
          clear HI
          go_wp2_with fail
          go_roundw
          case rel => exact ⟨lo, mid, rfl, rfl, hlN, by omega, by omega, BV⟩
          case measure => simp [intOf]; omega
    · have hlti : ¬ ((lo : Int) < (hi : Int)) := by omega
      obtain rfl : N = lo := by omega
      obtain rfl : hi = N := by omega
      by_cases hlr : hi < rn
      · have hlri : (hi : Int) < (rn : Int) := by omega
        obtain ⟨r, hr⟩ : ∃ r, rs[hi]? = some r := ⟨rs[hi]'(by omega), List.getElem?_eq_getElem _⟩
        obtain ⟨b, off, x, rfl, hbW, hc, hx⟩ := h2.at hr
        have HF := fun (w' : World) (hb : Below wr.heap.size wr.drew w') => HFF.out w' (by rw [HG.out]; exact (B0.trans (B1.mono hgW)).trans (((Below.refl _ _).drew.trans hb).mono (Nat.le_trans hgW B1.size))) x.a x.n x.c r (hx.drew.past hb)
        obtain ⟨C, hC⟩ : ∃ C, (kOf ky r).cmp ⟨k, m, s⟩ = C := ⟨_, rfl⟩
        have hR := HH.out
        rw [hr] at hR
        simp only [hC] at HF hR
        have HR : Hid (hasN ky ⟨k, m, s⟩ rs = (C == 0)) := by
          show _ = _
          rw [hR, Bool.eq_iff_iff]
          simp
        obtain ⟨xa, xn, xc⟩ := x
        simp only at hc HF
        clear hr hC hx h2 hR
        have hB0 : wr.heap.size ≤ wr.heap.size := Nat.le_refl _
        go_upto_region 8 with fail
        refine region_inv (BSearch8 wr.heap.size p b off rn rc hi xa xn xc k m s C) (by kernel_rfl) (by kernel_rfl) ?_ ?_ ?_
        · exact ⟨false, false, false, false, false, false, false, false, false, false, false, false, false, false, false, false, undef, undef, undef, undef, undef, undef, undef, undef, undef, undef, undef, undef, undef, undef, .int .i64 0, .bool false, rfl, (by simp only [Act.put, List.setIfInBounds_toArray, List.set_cons_zero, List.set_cons_succ]), Below.refl _ _, (fun h => by cases h), (fun h => by cases h), (fun h => by cases h), (fun h => by cases h), (fun h => by cases h), (fun h => by cases h), (fun h => by cases h), (fun h => by cases h), (fun h => by cases h), (fun h => by cases h), (fun h => by cases h), (fun h => by cases h), (fun h => by cases h), (fun h => by cases h), (fun h => by cases h), (fun h => by cases h)⟩
        · refine ⟨?_, ?_, ?_, ?_, ?_, ?_, ?_, ?_, ?_, ?_, ?_, ?_, ?_, ?_, ?_, ?_, trivial⟩
          · rintro L a w ⟨b0, b1, b2, b3, b4, b5, b6, b7, b8, b9, b10, b11, b12, b13, b14, b15, x35, x36, x37, x38, x39, x40, x41, x42, x43, x44, x45, x46, x47, x48, x6, x7, rfl, rfl, hb, cd0, cd1, cd2, cd3, cd4, cd5, cd6, cd7, cd8, cd9, cd10, cd11, cd12, cd13, cd14, cd15⟩ hf hd
            have hf' : b0 = false := hf
            subst hf'
            clear hf hd
            try simp only [List.setIfInBounds_toArray, List.set_cons_zero, List.set_cons_succ]
            intro K hK
            rw [if_pos (by rfl)]
            go_simp
            exact hK.out _ _ ⟨true, b1, b2, b3, b4, b5, b6, b7, b8, b9, b10, b11, b12, b13, b14, b15, (.int .i64 (hi : Nat)), x36, x37, x38, x39, x40, x41, x42, x43, x44, x45, x46, x47, x48, x6, x7, (by simp only [Act.put, List.setIfInBounds_toArray, List.set_cons_zero, List.set_cons_succ]), (by simp only [Act.put, List.setIfInBounds_toArray, List.set_cons_zero, List.set_cons_succ]), hb, (fun _ => rfl), cd1, cd2, cd3, cd4, cd5, cd6, cd7, cd8, cd9, cd10, cd11, cd12, cd13, cd14, cd15⟩
          · rintro L a w ⟨b0, b1, b2, b3, b4, b5, b6, b7, b8, b9, b10, b11, b12, b13, b14, b15, x35, x36, x37, x38, x39, x40, x41, x42, x43, x44, x45, x46, x47, x48, x6, x7, rfl, rfl, hb, cd0, cd1, cd2, cd3, cd4, cd5, cd6, cd7, cd8, cd9, cd10, cd11, cd12, cd13, cd14, cd15⟩ hf hd
            have hf' : b1 = false := hf
            subst hf'
            clear hf hd
            try simp only [List.setIfInBounds_toArray, List.set_cons_zero, List.set_cons_succ]
            intro K hK
            rw [if_pos (by rfl)]
            go_simp
            exact hK.out _ _ ⟨b0, true, b2, b3, b4, b5, b6, b7, b8, b9, b10, b11, b12, b13, b14, b15, x35, (.int .i64 (hi : Nat)), x37, x38, x39, x40, x41, x42, x43, x44, x45, x46, x47, x48, x6, x7, (by simp only [Act.put, List.setIfInBounds_toArray, List.set_cons_zero, List.set_cons_succ]), (by simp only [Act.put, List.setIfInBounds_toArray, List.set_cons_zero, List.set_cons_succ]), hb, cd0, (fun _ => rfl), cd2, cd3, cd4, cd5, cd6, cd7, cd8, cd9, cd10, cd11, cd12, cd13, cd14, cd15⟩
          · rintro L a w ⟨b0, b1, b2, b3, b4, b5, b6, b7, b8, b9, b10, b11, b12, b13, b14, b15, x35, x36, x37, x38, x39, x40, x41, x42, x43, x44, x45, x46, x47, x48, x6, x7, rfl, rfl, hb, cd0, cd1, cd2, cd3, cd4, cd5, cd6, cd7, cd8, cd9, cd10, cd11, cd12, cd13, cd14, cd15⟩ hf hd
            have hf' : b2 = false := hf
            subst hf'
            clear hf hd
            try simp only [List.setIfInBounds_toArray, List.set_cons_zero, List.set_cons_succ]
            intro K hK
            rw [if_pos (by rfl)]
            go_simp
            exact hK.out _ _ ⟨b0, b1, true, b3, b4, b5, b6, b7, b8, b9, b10, b11, b12, b13, b14, b15, x35, x36, (.int .i64 (rn : Nat)), x38, x39, x40, x41, x42, x43, x44, x45, x46, x47, x48, x6, x7, (by simp only [Act.put, List.setIfInBounds_toArray, List.set_cons_zero, List.set_cons_succ]), (by simp only [Act.put, List.setIfInBounds_toArray, List.set_cons_zero, List.set_cons_succ]), hb, cd0, cd1, (fun _ => rfl), cd3, cd4, cd5, cd6, cd7, cd8, cd9, cd10, cd11, cd12, cd13, cd14, cd15⟩
          · rintro L a w ⟨b0, b1, b2, b3, b4, b5, b6, b7, b8, b9, b10, b11, b12, b13, b14, b15, x35, x36, x37, x38, x39, x40, x41, x42, x43, x44, x45, x46, x47, x48, x6, x7, rfl, rfl, hb, cd0, cd1, cd2, cd3, cd4, cd5, cd6, cd7, cd8, cd9, cd10, cd11, cd12, cd13, cd14, cd15⟩ hf hd
            have hf' : b3 = false := hf
            subst hf'
            have d1 : b1 = true := hd ⟨1, .data⟩ (by simp) rfl
            subst d1
            have d2 : b2 = true := hd ⟨2, .data⟩ (by simp) rfl
            subst d2
            obtain rfl := cd1.out rfl
            obtain rfl := cd2.out rfl
            clear hf hd
            try simp only [List.setIfInBounds_toArray, List.set_cons_zero, List.set_cons_succ]
            intro K hK
            rw [if_pos (by rfl)]
            go_simp
            exact hK.out _ _ ⟨b0, true, true, true, b4, b5, b6, b7, b8, b9, b10, b11, b12, b13, b14, b15, x35, .int .i64 (hi : Nat), .int .i64 (rn : Nat), (.bool true), x39, x40, x41, x42, x43, x44, x45, x46, x47, x48, x6, x7, (by simp only [Act.put, List.setIfInBounds_toArray, List.set_cons_zero, List.set_cons_succ]), (by simp only [Act.put, List.setIfInBounds_toArray, List.set_cons_zero, List.set_cons_succ]), hb, cd0, (fun _ => rfl), (fun _ => rfl), (fun _ => rfl), cd4, cd5, cd6, cd7, cd8, cd9, cd10, cd11, cd12, cd13, cd14, cd15⟩
          · rintro L a w ⟨b0, b1, b2, b3, b4, b5, b6, b7, b8, b9, b10, b11, b12, b13, b14, b15, x35, x36, x37, x38, x39, x40, x41, x42, x43, x44, x45, x46, x47, x48, x6, x7, rfl, rfl, hb, cd0, cd1, cd2, cd3, cd4, cd5, cd6, cd7, cd8, cd9, cd10, cd11, cd12, cd13, cd14, cd15⟩ hf hd
            have hf' : b4 = false := hf
            subst hf'
            have d3 : b3 = true := hd ⟨3, .data⟩ (by simp) rfl
            subst d3
            obtain rfl := cd3.out rfl
            clear hf hd
            try simp only [List.setIfInBounds_toArray, List.set_cons_zero, List.set_cons_succ]
            intro K hK
            rw [if_pos (by rfl)]
            go_simp
            exact hK.out _ _ ⟨b0, b1, b2, true, true, b5, b6, b7, b8, b9, b10, b11, b12, b13, b14, b15, x35, x36, x37, .bool true, (.bool true), x40, x41, x42, x43, x44, x45, x46, x47, x48, x6, x7, (by simp only [Act.put, List.setIfInBounds_toArray, List.set_cons_zero, List.set_cons_succ]), (by simp only [Act.put, List.setIfInBounds_toArray, List.set_cons_zero, List.set_cons_succ]), hb, cd0, cd1, cd2, (fun _ => rfl), (fun _ => rfl), cd5, cd6, cd7, cd8, cd9, cd10, cd11, cd12, cd13, cd14, cd15⟩
          · rintro L a w ⟨b0, b1, b2, b3, b4, b5, b6, b7, b8, b9, b10, b11, b12, b13, b14, b15, x35, x36, x37, x38, x39, x40, x41, x42, x43, x44, x45, x46, x47, x48, x6, x7, rfl, rfl, hb, cd0, cd1, cd2, cd3, cd4, cd5, cd6, cd7, cd8, cd9, cd10, cd11, cd12, cd13, cd14, cd15⟩ hf hd
            have hf' : b5 = false := hf
            subst hf'
            have d4 : b4 = true := hd ⟨4, .guard⟩ (by simp) rfl
            subst d4
            obtain rfl := cd4.out rfl
            clear hf hd
            try simp only [List.setIfInBounds_toArray, List.set_cons_zero, List.set_cons_succ]
            intro K hK
            rw [if_pos (by rfl)]
            go_simp
            exact hK.out _ _ ⟨b0, b1, b2, b3, true, true, b6, b7, b8, b9, b10, b11, b12, b13, b14, b15, x35, x36, x37, x38, .bool true, (.func (.func 133) #[] #[.pointer (some ⟨p, 0, none⟩)]), x41, x42, x43, x44, x45, x46, x47, x48, x6, x7, (by simp only [Act.put, List.setIfInBounds_toArray, List.set_cons_zero, List.set_cons_succ]), (by simp only [Act.put, List.setIfInBounds_toArray, List.set_cons_zero, List.set_cons_succ]), hb, cd0, cd1, cd2, cd3, (fun _ => rfl), (fun _ => rfl), cd6, cd7, cd8, cd9, cd10, cd11, cd12, cd13, cd14, cd15⟩
          · rintro L a w ⟨b0, b1, b2, b3, b4, b5, b6, b7, b8, b9, b10, b11, b12, b13, b14, b15, x35, x36, x37, x38, x39, x40, x41, x42, x43, x44, x45, x46, x47, x48, x6, x7, rfl, rfl, hb, cd0, cd1, cd2, cd3, cd4, cd5, cd6, cd7, cd8, cd9, cd10, cd11, cd12, cd13, cd14, cd15⟩ hf hd
            have hf' : b6 = false := hf
            subst hf'
            have d4 : b4 = true := hd ⟨4, .guard⟩ (by simp) rfl
            subst d4
            obtain rfl := cd4.out rfl
            clear hf hd
            try simp only [List.setIfInBounds_toArray, List.set_cons_zero, List.set_cons_succ]
            intro K hK
            rw [if_pos (by rfl)]
            go_simp
            exact hK.out _ _ ⟨b0, b1, b2, b3, true, b5, true, b7, b8, b9, b10, b11, b12, b13, b14, b15, x35, x36, x37, x38, .bool true, x40, (.slice (some ⟨b, off, none⟩) rn rc), x42, x43, x44, x45, x46, x47, x48, x6, x7, (by simp only [Act.put, List.setIfInBounds_toArray, List.set_cons_zero, List.set_cons_succ]), (by simp only [Act.put, List.setIfInBounds_toArray, List.set_cons_zero, List.set_cons_succ]), hb, cd0, cd1, cd2, cd3, (fun _ => rfl), cd5, (fun _ => rfl), cd7, cd8, cd9, cd10, cd11, cd12, cd13, cd14, cd15⟩
          · rintro L a w ⟨b0, b1, b2, b3, b4, b5, b6, b7, b8, b9, b10, b11, b12, b13, b14, b15, x35, x36, x37, x38, x39, x40, x41, x42, x43, x44, x45, x46, x47, x48, x6, x7, rfl, rfl, hb, cd0, cd1, cd2, cd3, cd4, cd5, cd6, cd7, cd8, cd9, cd10, cd11, cd12, cd13, cd14, cd15⟩ hf hd
            have hf' : b7 = false := hf
            subst hf'
            have d4 : b4 = true := hd ⟨4, .guard⟩ (by simp) rfl
            subst d4
            obtain rfl := cd4.out rfl
            clear hf hd
            try simp only [List.setIfInBounds_toArray, List.set_cons_zero, List.set_cons_succ]
            intro K hK
            rw [if_pos (by rfl)]
            go_simp
            exact hK.out _ _ ⟨b0, b1, b2, b3, true, b5, b6, true, b8, b9, b10, b11, b12, b13, b14, b15, x35, x36, x37, x38, .bool true, x40, x41, (.int .i64 (hi : Nat)), x43, x44, x45, x46, x47, x48, x6, x7, (by simp only [Act.put, List.setIfInBounds_toArray, List.set_cons_zero, List.set_cons_succ]), (by simp only [Act.put, List.setIfInBounds_toArray, List.set_cons_zero, List.set_cons_succ]), hb, cd0, cd1, cd2, cd3, (fun _ => rfl), cd5, cd6, (fun _ => rfl), cd8, cd9, cd10, cd11, cd12, cd13, cd14, cd15⟩
          · rintro L a w ⟨b0, b1, b2, b3, b4, b5, b6, b7, b8, b9, b10, b11, b12, b13, b14, b15, x35, x36, x37, x38, x39, x40, x41, x42, x43, x44, x45, x46, x47, x48, x6, x7, rfl, rfl, hb, cd0, cd1, cd2, cd3, cd4, cd5, cd6, cd7, cd8, cd9, cd10, cd11, cd12, cd13, cd14, cd15⟩ hf hd
            have hf' : b8 = false := hf
            subst hf'
            have d6 : b6 = true := hd ⟨6, .data⟩ (by simp) rfl
            subst d6
            have d7 : b7 = true := hd ⟨7, .data⟩ (by simp) rfl
            subst d7
            have d4 : b4 = true := hd ⟨4, .guard⟩ (by simp) rfl
            subst d4
            obtain rfl := cd6.out rfl
            obtain rfl := cd7.out rfl
            obtain rfl := cd4.out rfl
            clear hf hd
            try simp only [List.setIfInBounds_toArray, List.set_cons_zero, List.set_cons_succ]
            intro K hK
            rw [if_pos (by rfl)]
            go_simp
            exact hK.out _ _ ⟨b0, b1, b2, b3, true, b5, true, true, true, b9, b10, b11, b12, b13, b14, b15, x35, x36, x37, x38, .bool true, x40, .slice (some ⟨b, off, none⟩) rn rc, .int .i64 (hi : Nat), (.pointer (some ⟨b, off + hi, none⟩)), x44, x45, x46, x47, x48, x6, x7, (by simp only [Act.put, List.setIfInBounds_toArray, List.set_cons_zero, List.set_cons_succ]), (by simp only [Act.put, List.setIfInBounds_toArray, List.set_cons_zero, List.set_cons_succ]), hb, cd0, cd1, cd2, cd3, (fun _ => rfl), cd5, (fun _ => rfl), (fun _ => rfl), (fun _ => rfl), cd9, cd10, cd11, cd12, cd13, cd14, cd15⟩
          · rintro L a w ⟨b0, b1, b2, b3, b4, b5, b6, b7, b8, b9, b10, b11, b12, b13, b14, b15, x35, x36, x37, x38, x39, x40, x41, x42, x43, x44, x45, x46, x47, x48, x6, x7, rfl, rfl, hb, cd0, cd1, cd2, cd3, cd4, cd5, cd6, cd7, cd8, cd9, cd10, cd11, cd12, cd13, cd14, cd15⟩ hf hd
            have hf' : b9 = false := hf
            subst hf'
            have d8 : b8 = true := hd ⟨8, .data⟩ (by simp) rfl
            subst d8
            have d4 : b4 = true := hd ⟨4, .guard⟩ (by simp) rfl
            subst d4
            obtain rfl := cd8.out rfl
            obtain rfl := cd4.out rfl
            clear hf hd
            try simp only [List.setIfInBounds_toArray, List.set_cons_zero, List.set_cons_succ]
            have z0 := (hb.cell hbW).trans hc
            intro K hK
            rw [if_pos (by rfl)]
            go_simp
            exact hK.out _ _ ⟨b0, b1, b2, b3, true, b5, b6, b7, true, true, b10, b11, b12, b13, b14, b15, x35, x36, x37, x38, .bool true, x40, x41, x42, .pointer (some ⟨b, off + hi, none⟩), (.slice xa xn xc), x45, x46, x47, x48, x6, x7, (by simp only [Act.put, List.setIfInBounds_toArray, List.set_cons_zero, List.set_cons_succ]), (by simp only [Act.put, List.setIfInBounds_toArray, List.set_cons_zero, List.set_cons_succ]), hb, cd0, cd1, cd2, cd3, (fun _ => rfl), cd5, cd6, cd7, (fun _ => rfl), (fun _ => rfl), cd10, cd11, cd12, cd13, cd14, cd15⟩
          · rintro L a w ⟨b0, b1, b2, b3, b4, b5, b6, b7, b8, b9, b10, b11, b12, b13, b14, b15, x35, x36, x37, x38, x39, x40, x41, x42, x43, x44, x45, x46, x47, x48, x6, x7, rfl, rfl, hb, cd0, cd1, cd2, cd3, cd4, cd5, cd6, cd7, cd8, cd9, cd10, cd11, cd12, cd13, cd14, cd15⟩ hf hd
            have hf' : b10 = false := hf
            subst hf'
            have d4 : b4 = true := hd ⟨4, .guard⟩ (by simp) rfl
            subst d4
            obtain rfl := cd4.out rfl
            clear hf hd
            try simp only [List.setIfInBounds_toArray, List.set_cons_zero, List.set_cons_succ]
            have z0 := (hb.cell hgB).trans g0
            have z1 := (hb.cell hgB).trans g1
            have z2 := (hb.cell hgB).trans g2
            intro K hK
            rw [if_pos (by rfl)]
            go_simp
            exact hK.out _ _ ⟨b0, b1, b2, b3, true, b5, b6, b7, b8, b9, true, b11, b12, b13, b14, b15, x35, x36, x37, x38, .bool true, x40, x41, x42, x43, x44, (.agg #[.int .i64 k, .int .i64 m, .string s]), x46, x47, x48, x6, x7, (by simp only [Act.put, List.setIfInBounds_toArray, List.set_cons_zero, List.set_cons_succ]), (by simp only [Act.put, List.setIfInBounds_toArray, List.set_cons_zero, List.set_cons_succ]), hb, cd0, cd1, cd2, cd3, (fun _ => rfl), cd5, cd6, cd7, cd8, cd9, (fun _ => rfl), cd11, cd12, cd13, cd14, cd15⟩
          · rintro L a w ⟨b0, b1, b2, b3, b4, b5, b6, b7, b8, b9, b10, b11, b12, b13, b14, b15, x35, x36, x37, x38, x39, x40, x41, x42, x43, x44, x45, x46, x47, x48, x6, x7, rfl, rfl, hb, cd0, cd1, cd2, cd3, cd4, cd5, cd6, cd7, cd8, cd9, cd10, cd11, cd12, cd13, cd14, cd15⟩ hf hd
            have hf' : b11 = false := hf
            subst hf'
            have d5 : b5 = true := hd ⟨5, .data⟩ (by simp) rfl
            subst d5
            have d9 : b9 = true := hd ⟨9, .data⟩ (by simp) rfl
            subst d9
            have d10 : b10 = true := hd ⟨10, .data⟩ (by simp) rfl
            subst d10
            have d4 : b4 = true := hd ⟨4, .chain⟩ (by simp) rfl
            subst d4
            obtain rfl := cd5.out rfl
            obtain rfl := cd9.out rfl
            obtain rfl := cd10.out rfl
            obtain rfl := cd4.out rfl
            clear hf hd
            try simp only [List.setIfInBounds_toArray, List.set_cons_zero, List.set_cons_succ]
            intro K hK
            rw [if_pos (by rfl)]
            go_simp
            go_at_call 133
            refine (HF _ hb).mono ?_
            rintro e w' ⟨rfl, bx⟩
            exact hK.out _ _ ⟨b0, b1, b2, b3, true, true, b6, b7, b8, true, true, true, b12, b13, b14, b15, x35, x36, x37, x38, .bool true, .func (.func 133) #[] #[.pointer (some ⟨p, 0, none⟩)], x41, x42, x43, .slice xa xn xc, .agg #[.int .i64 k, .int .i64 m, .string s], (.int .i64 C), x47, x48, x6, x7, (by simp only [Act.put, List.setIfInBounds_toArray, List.set_cons_zero, List.set_cons_succ]), (by simp only [Act.put, List.setIfInBounds_toArray, List.set_cons_zero, List.set_cons_succ]), hb.trans (bx.mono (Nat.le_trans hB0 hb.size)), cd0, cd1, cd2, cd3, (fun _ => rfl), (fun _ => rfl), cd6, cd7, cd8, (fun _ => rfl), (fun _ => rfl), (fun _ => rfl), cd12, cd13, cd14, cd15⟩
          · rintro L a w ⟨b0, b1, b2, b3, b4, b5, b6, b7, b8, b9, b10, b11, b12, b13, b14, b15, x35, x36, x37, x38, x39, x40, x41, x42, x43, x44, x45, x46, x47, x48, x6, x7, rfl, rfl, hb, cd0, cd1, cd2, cd3, cd4, cd5, cd6, cd7, cd8, cd9, cd10, cd11, cd12, cd13, cd14, cd15⟩ hf hd
            have hf' : b12 = false := hf
            subst hf'
            have d11 : b11 = true := hd ⟨11, .data⟩ (by simp) rfl
            subst d11
            have d4 : b4 = true := hd ⟨4, .guard⟩ (by simp) rfl
            subst d4
            obtain rfl := cd11.out rfl
            obtain rfl := cd4.out rfl
            clear hf hd
            try simp only [List.setIfInBounds_toArray, List.set_cons_zero, List.set_cons_succ]
            intro K hK
            rw [if_pos (by rfl)]
            go_simp
            exact hK.out _ _ ⟨b0, b1, b2, b3, true, b5, b6, b7, b8, b9, b10, true, true, b13, b14, b15, x35, x36, x37, x38, .bool true, x40, x41, x42, x43, x44, x45, .int .i64 C, (.bool (C == 0)), x48, x6, x7, (by simp only [Act.put, List.setIfInBounds_toArray, List.set_cons_zero, List.set_cons_succ]), (by simp only [Act.put, List.setIfInBounds_toArray, List.set_cons_zero, List.set_cons_succ]), hb, cd0, cd1, cd2, cd3, (fun _ => rfl), cd5, cd6, cd7, cd8, cd9, cd10, (fun _ => rfl), (fun _ => rfl), cd13, cd14, cd15⟩
          · rintro L a w ⟨b0, b1, b2, b3, b4, b5, b6, b7, b8, b9, b10, b11, b12, b13, b14, b15, x35, x36, x37, x38, x39, x40, x41, x42, x43, x44, x45, x46, x47, x48, x6, x7, rfl, rfl, hb, cd0, cd1, cd2, cd3, cd4, cd5, cd6, cd7, cd8, cd9, cd10, cd11, cd12, cd13, cd14, cd15⟩ hf hd
            have hf' : b13 = false := hf
            subst hf'
            have d4 : b4 = true := hd ⟨4, .data⟩ (by simp) rfl
            subst d4
            have d12 : b12 = true := hd ⟨12, .data⟩ (by simp) rfl
            subst d12
            obtain rfl := cd4.out rfl
            obtain rfl := cd12.out rfl
            clear hf hd
            try simp only [List.setIfInBounds_toArray, List.set_cons_zero, List.set_cons_succ]
            intro K hK
            rw [if_pos (by rfl)]
            go_simp
            exact hK.out _ _ ⟨b0, b1, b2, b3, true, b5, b6, b7, b8, b9, b10, b11, true, true, b14, b15, x35, x36, x37, x38, .bool true, x40, x41, x42, x43, x44, x45, x46, .bool (C == 0), (.bool (C == 0)), x6, x7, (by simp only [Act.put, List.setIfInBounds_toArray, List.set_cons_zero, List.set_cons_succ]), (by simp only [Act.put, List.setIfInBounds_toArray, List.set_cons_zero, List.set_cons_succ]), hb, cd0, cd1, cd2, cd3, (fun _ => rfl), cd5, cd6, cd7, cd8, cd9, cd10, cd11, (fun _ => rfl), (fun _ => rfl), cd14, cd15⟩
          · rintro L a w ⟨b0, b1, b2, b3, b4, b5, b6, b7, b8, b9, b10, b11, b12, b13, b14, b15, x35, x36, x37, x38, x39, x40, x41, x42, x43, x44, x45, x46, x47, x48, x6, x7, rfl, rfl, hb, cd0, cd1, cd2, cd3, cd4, cd5, cd6, cd7, cd8, cd9, cd10, cd11, cd12, cd13, cd14, cd15⟩ hf hd
            have hf' : b14 = false := hf
            subst hf'
            have d0 : b0 = true := hd ⟨0, .data⟩ (by simp) rfl
            subst d0
            have d11 : b11 = true := hd ⟨11, .chain⟩ (by simp) rfl
            subst d11
            obtain rfl := cd0.out rfl
            obtain rfl := cd11.out rfl
            clear hf hd
            try simp only [List.setIfInBounds_toArray, List.set_cons_zero, List.set_cons_succ]
            intro K hK
            rw [if_pos (by rfl)]
            go_simp
            exact hK.out _ _ ⟨true, b1, b2, b3, b4, b5, b6, b7, b8, b9, b10, true, b12, b13, true, b15, .int .i64 (hi : Nat), x36, x37, x38, x39, x40, x41, x42, x43, x44, x45, .int .i64 C, x47, x48, (.int .i64 (hi : Nat)), x7, (by simp only [Act.put, List.setIfInBounds_toArray, List.set_cons_zero, List.set_cons_succ]), (by simp only [Act.put, List.setIfInBounds_toArray, List.set_cons_zero, List.set_cons_succ]), hb, (fun _ => rfl), cd1, cd2, cd3, cd4, cd5, cd6, cd7, cd8, cd9, cd10, (fun _ => rfl), cd12, cd13, (fun _ => rfl), cd15⟩
          · rintro L a w ⟨b0, b1, b2, b3, b4, b5, b6, b7, b8, b9, b10, b11, b12, b13, b14, b15, x35, x36, x37, x38, x39, x40, x41, x42, x43, x44, x45, x46, x47, x48, x6, x7, rfl, rfl, hb, cd0, cd1, cd2, cd3, cd4, cd5, cd6, cd7, cd8, cd9, cd10, cd11, cd12, cd13, cd14, cd15⟩ hf hd
            have hf' : b15 = false := hf
            subst hf'
            have d13 : b13 = true := hd ⟨13, .data⟩ (by simp) rfl
            subst d13
            have d14 : b14 = true := hd ⟨14, .chain⟩ (by simp) rfl
            subst d14
            have d0 : b0 = true := hd ⟨0, .phase⟩ (by simp) rfl
            subst d0
            have d1 : b1 = true := hd ⟨1, .phase⟩ (by simp) rfl
            subst d1
            have d2 : b2 = true := hd ⟨2, .phase⟩ (by simp) rfl
            subst d2
            have d3 : b3 = true := hd ⟨3, .phase⟩ (by simp) rfl
            subst d3
            have d4 : b4 = true := hd ⟨4, .phase⟩ (by simp) rfl
            subst d4
            have d5 : b5 = true := hd ⟨5, .phase⟩ (by simp) rfl
            subst d5
            have d6 : b6 = true := hd ⟨6, .phase⟩ (by simp) rfl
            subst d6
            have d7 : b7 = true := hd ⟨7, .phase⟩ (by simp) rfl
            subst d7
            have d8 : b8 = true := hd ⟨8, .phase⟩ (by simp) rfl
            subst d8
            have d9 : b9 = true := hd ⟨9, .phase⟩ (by simp) rfl
            subst d9
            have d10 : b10 = true := hd ⟨10, .phase⟩ (by simp) rfl
            subst d10
            have d11 : b11 = true := hd ⟨11, .phase⟩ (by simp) rfl
            subst d11
            have d12 : b12 = true := hd ⟨12, .phase⟩ (by simp) rfl
            subst d12
            obtain rfl := cd13.out rfl
            obtain rfl := cd14.out rfl
            obtain rfl := cd0.out rfl
            obtain rfl := cd1.out rfl
            obtain rfl := cd2.out rfl
            obtain rfl := cd3.out rfl
            obtain rfl := cd4.out rfl
            obtain rfl := cd5.out rfl
            obtain rfl := cd6.out rfl
            obtain rfl := cd7.out rfl
            obtain rfl := cd8.out rfl
            obtain rfl := cd9.out rfl
            obtain rfl := cd10.out rfl
            obtain rfl := cd11.out rfl
            obtain rfl := cd12.out rfl
            clear hf hd
            try simp only [List.setIfInBounds_toArray, List.set_cons_zero, List.set_cons_succ]
            intro K hK
            rw [if_pos (by rfl)]
            go_simp
            exact hK.out _ _ ⟨true, true, true, true, true, true, true, true, true, true, true, true, true, true, true, true, .int .i64 (hi : Nat), .int .i64 (hi : Nat), .int .i64 (rn : Nat), .bool true, .bool true, .func (.func 133) #[] #[.pointer (some ⟨p, 0, none⟩)], .slice (some ⟨b, off, none⟩) rn rc, .int .i64 (hi : Nat), .pointer (some ⟨b, off + hi, none⟩), .slice xa xn xc, .agg #[.int .i64 k, .int .i64 m, .string s], .int .i64 C, .bool (C == 0), .bool (C == 0), .int .i64 (hi : Nat), (.bool (C == 0)), (by simp only [Act.put, List.setIfInBounds_toArray, List.set_cons_zero, List.set_cons_succ]), (by simp only [Act.put, List.setIfInBounds_toArray, List.set_cons_zero, List.set_cons_succ]), hb, (fun _ => rfl), (fun _ => rfl), (fun _ => rfl), (fun _ => rfl), (fun _ => rfl), (fun _ => rfl), (fun _ => rfl), (fun _ => rfl), (fun _ => rfl), (fun _ => rfl), (fun _ => rfl), (fun _ => rfl), (fun _ => rfl), (fun _ => rfl), (fun _ => rfl), (fun _ => rfl)⟩
        · rintro act V ⟨b0, b1, b2, b3, b4, b5, b6, b7, b8, b9, b10, b11, b12, b13, b14, b15, x35, x36, x37, x38, x39, x40, x41, x42, x43, x44, x45, x46, x47, x48, x6, x7, hL, rfl, hb, cd0, cd1, cd2, cd3, cd4, cd5, cd6, cd7, cd8, cd9, cd10, cd11, cd12, cd13, cd14, cd15⟩
          have hL' : [true, true, true, true, true, true, true, true, true, true, true, true, true, true, true, true] = [b0, b1, b2, b3, b4, b5, b6, b7, b8, b9, b10, b11, b12, b13, b14, b15] := congrArg Array.toList hL
          simp only [List.cons.injEq, and_true] at hL'
          obtain ⟨rfl, rfl, rfl, rfl, rfl, rfl, rfl, rfl, rfl, rfl, rfl, rfl, rfl, rfl, rfl, rfl⟩ := hL'
          obtain rfl := cd0.out rfl
          obtain rfl := cd1.out rfl
          obtain rfl := cd2.out rfl
          obtain rfl := cd3.out rfl
          obtain rfl := cd4.out rfl
          obtain rfl := cd5.out rfl
          obtain rfl := cd6.out rfl
          obtain rfl := cd7.out rfl
          obtain rfl := cd8.out rfl
          obtain rfl := cd9.out rfl
          obtain rfl := cd10.out rfl
          obtain rfl := cd11.out rfl
          obtain rfl := cd12.out rfl
          obtain rfl := cd13.out rfl
          obtain rfl := cd14.out rfl
          obtain rfl := cd15.out rfl
          clear hL cd0 cd1 cd2 cd3 cd4 cd5 cd6 cd7 cd8 cd9 cd10 cd11 cd12 cd13 cd14 cd15
          simp only [List.setIfInBounds_toArray, List.set_cons_zero, List.set_cons_succ]
          have BV : Below W.heap.size W V := B1.trans (((Below.refl _ _).drew.trans hb).mono B1.size)
          clear hb
          go_wp2_with fail
          go_ret2
          exact ⟨by rw [HR.out]; rfl, by rw [HG.out]; exact B0.trans (BV.mono hgW)⟩
      · obtain rfl : hi = rn := by omega
        have hR := HH.out
        rw [List.getElem?_eq_none (by omega)] at hR
        have HR := Lib.hid hR
        clear hR h2 hlti hlr
        go_wp2_with fail
        go_quiet (fail)
        go_wp2_with fail
        go_ret2
        exact ⟨by rw [HR.out]; rfl, by rw [HG.out]; exact B0.trans ((below_drewN B1 _).mono hgW)⟩
end Go.Proofs.Ytllijeciodmckaa
