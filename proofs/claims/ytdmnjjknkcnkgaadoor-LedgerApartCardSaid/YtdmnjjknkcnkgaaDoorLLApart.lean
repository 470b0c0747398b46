/-
  LedgerApart (by gen_lapart14.py).
-/
import Derived.Test.YtdmnjjknkcnkgaaDoorMg17
import Derived.Test.YtdmnjjknkcnkgaaDoorMg22
namespace Go.Proofs.YtdmnjjknkcnkgaaDoor
open Go.RowKit
set_option linter.unusedSimpArgs false
/-- What stands while the region's operations come up. -/
inductive LAp20 (B : Nat) (pa : Nat) (pb : Nat) (tx : Int) (sq : Int) (I : Int) (K9 : Int) (TA : ByteArray) (gv : Nat) (cb : ByteArray) (co : Int) (va : Option Addr) (vn : Nat) (vc : Nat) (n3 : Nat) (n7 : Nat) (P9 : List UInt8) (Q9 : List UInt8) (a0 : Act) (w0 : World) (L : Array Bool) (a : Act) (w : World) : Prop
  | mk (b0 b1 b2 b3 b4 b5 b6 b7 b8 b9 : Bool) (x59 x60 x61 x62 x63 x64 x65 x66 x15 x16 : Value) (g3 : Nat) (c3 : Nat) (g7 : Nat) (c7 : Nat) (hL : L = #[b0, b1, b2, b3, b4, b5, b6, b7, b8, b9]) (ha : a = ⟨((((((((((a0.tmps.setIfInBounds 59 x59).setIfInBounds 60 x60).setIfInBounds 61 x61).setIfInBounds 62 x62).setIfInBounds 63 x63).setIfInBounds 64 x64).setIfInBounds 65 x65).setIfInBounds 66 x66).setIfInBounds 15 x15).setIfInBounds 16 x16), a0.defers⟩) (hb : Below B w0 w) (cd0 : Hid (b0 = true → x59 = .int .i64 tx)) (cd1 : Hid (b1 = true → x60 = .int .i64 sq)) (cd2 : Hid (b2 = true → x61 = .agg #[.string TA, .int .i64 1, .slice (some ⟨gv, 0, none⟩) 1 1])) (cd3 : Hid (b3 = true → x62 = .slice (some ⟨g3, 0, none⟩) n3 c3)) (cd4 : Hid (b4 = true → x63 = .int .i64 I)) (cd5 : Hid (b5 = true → x64 = .int .i64 K9)) (cd6 : Hid (b6 = true → x65 = .agg #[.string cb, .int .i64 co, .slice va vn vc])) (cd7 : Hid (b7 = true → x66 = .slice (some ⟨g7, 0, none⟩) n7 c7)) (cd8 : Hid (b8 = true → x15 = .slice (some ⟨g3, 0, none⟩) n3 c3)) (cd9 : Hid (b9 = true → x16 = .slice (some ⟨g7, 0, none⟩) n7 c7)) (f_p : Hid (b3 = true → IsB w (some ⟨g3, 0, none⟩) n3 c3 P9)) (f_q : Hid (b7 = true → IsB w (some ⟨g7, 0, none⟩) n7 c7 Q9)) (w_8_3 : Hid (b8 = true → b3 = true)) (w_9_7 : Hid (b9 = true → b7 = true)) : LAp20 B pa pb tx sq I K9 TA gv cb co va vn vc n3 n7 P9 Q9 a0 w0 L a w
/-- What stands while the region's operations come up. -/
inductive LAp23y (B : Nat) (pa : Nat) (pb : Nat) (tx : Int) (sq : Int) (I : Int) (K9 : Int) (TA : ByteArray) (gv : Nat) (cb : ByteArray) (co : Int) (va : Option Addr) (vn : Nat) (vc : Nat) (HA : Array Value) (HB : Array Value) (a0 : Act) (w0 : World) (L : Array Bool) (a : Act) (w : World) : Prop
  | mk (b0 b1 b2 b3 b4 b5 b6 b7 b8 b9 b10 b11 b12 b13 b14 b15 b16 b17 b18 b19 b20 : Bool) (x72 x73 x74 x75 x76 x77 x78 x79 x80 x81 x82 x83 x84 x85 x86 x87 x88 x89 x90 x91 x10 : Value) (hL : L = #[b0, b1, b2, b3, b4, b5, b6, b7, b8, b9, b10, b11, b12, b13, b14, b15, b16, b17, b18, b19, b20]) (ha : a = ⟨(((((((((((((((((((((a0.tmps.setIfInBounds 72 x72).setIfInBounds 73 x73).setIfInBounds 74 x74).setIfInBounds 75 x75).setIfInBounds 76 x76).setIfInBounds 77 x77).setIfInBounds 78 x78).setIfInBounds 79 x79).setIfInBounds 80 x80).setIfInBounds 81 x81).setIfInBounds 82 x82).setIfInBounds 83 x83).setIfInBounds 84 x84).setIfInBounds 85 x85).setIfInBounds 86 x86).setIfInBounds 87 x87).setIfInBounds 88 x88).setIfInBounds 89 x89).setIfInBounds 90 x90).setIfInBounds 91 x91).setIfInBounds 10 x10), a0.defers⟩) (hb : Below B w0 w) (cd0 : Hid (b0 = true → x72 = .int .i64 tx)) (cd1 : Hid (b1 = true → x73 = .int .i64 sq)) (cd2 : Hid (b2 = true → x74 = .agg #[.string TA, .int .i64 1, .slice (some ⟨gv, 0, none⟩) 1 1])) (cd3 : Hid (b3 = true → x75 = .agg HA)) (cd4 : Hid (b4 = true → x76 = .int .i64 I)) (cd5 : Hid (b5 = true → x77 = .int .i64 K9)) (cd6 : Hid (b6 = true → x78 = .agg #[.string cb, .int .i64 co, .slice va vn vc])) (cd7 : Hid (b7 = true → x79 = .agg HB)) (cd8 : Hid (b8 = true → x80 = .bool false)) (cd9 : Hid (b9 = true → x81 = .bool false)) (cd10 : Hid (b10 = true → x82 = .int .i64 tx)) (cd11 : Hid (b11 = true → x83 = .int .i64 sq)) (cd12 : Hid (b12 = true → x84 = .agg #[.string TA, .int .i64 1, .slice (some ⟨gv, 0, none⟩) 1 1])) (cd13 : Hid (b13 = true → x85 = .agg HA)) (cd14 : Hid (b14 = true → x86 = .int .i64 I)) (cd15 : Hid (b15 = true → x87 = .int .i64 K9)) (cd16 : Hid (b16 = true → x88 = .agg #[.string cb, .int .i64 co, .slice va vn vc])) (cd17 : Hid (b17 = true → x89 = .agg HB)) (cd18 : Hid (b18 = true → x90 = .bool true)) (cd19 : Hid (b19 = true → x91 = .bool true)) (cd20 : Hid (b20 = true → x10 = .bool true)) : LAp23y B pa pb tx sq I K9 TA gv cb co va vn vc HA HB a0 w0 L a w
/-- What stands while the region's operations come up. -/
inductive LAp23n (B : Nat) (pa : Nat) (pb : Nat) (tx : Int) (sq : Int) (I : Int) (K9 : Int) (TA : ByteArray) (gv : Nat) (cb : ByteArray) (co : Int) (va : Option Addr) (vn : Nat) (vc : Nat) (HA : Array Value) (HB : Array Value) (a0 : Act) (w0 : World) (L : Array Bool) (a : Act) (w : World) : Prop
  | mk (b0 b1 b2 b3 b4 b5 b6 b7 b8 b9 b10 b11 b12 b13 b14 b15 b16 b17 b18 b19 b20 : Bool) (x72 x73 x74 x75 x76 x77 x78 x79 x80 x81 x82 x83 x84 x85 x86 x87 x88 x89 x90 x91 x10 : Value) (hL : L = #[b0, b1, b2, b3, b4, b5, b6, b7, b8, b9, b10, b11, b12, b13, b14, b15, b16, b17, b18, b19, b20]) (ha : a = ⟨(((((((((((((((((((((a0.tmps.setIfInBounds 72 x72).setIfInBounds 73 x73).setIfInBounds 74 x74).setIfInBounds 75 x75).setIfInBounds 76 x76).setIfInBounds 77 x77).setIfInBounds 78 x78).setIfInBounds 79 x79).setIfInBounds 80 x80).setIfInBounds 81 x81).setIfInBounds 82 x82).setIfInBounds 83 x83).setIfInBounds 84 x84).setIfInBounds 85 x85).setIfInBounds 86 x86).setIfInBounds 87 x87).setIfInBounds 88 x88).setIfInBounds 89 x89).setIfInBounds 90 x90).setIfInBounds 91 x91).setIfInBounds 10 x10), a0.defers⟩) (hb : Below B w0 w) (cd0 : Hid (b0 = true → x72 = .int .i64 tx)) (cd1 : Hid (b1 = true → x73 = .int .i64 sq)) (cd2 : Hid (b2 = true → x74 = .agg #[.string TA, .int .i64 1, .slice (some ⟨gv, 0, none⟩) 1 1])) (cd3 : Hid (b3 = true → x75 = .agg HA)) (cd4 : Hid (b4 = true → x76 = .int .i64 I)) (cd5 : Hid (b5 = true → x77 = .int .i64 K9)) (cd6 : Hid (b6 = true → x78 = .agg #[.string cb, .int .i64 co, .slice va vn vc])) (cd7 : Hid (b7 = true → x79 = .agg HB)) (cd8 : Hid (b8 = true → x80 = .bool true)) (cd9 : Hid (b9 = true → x81 = .bool true)) (cd10 : Hid (b10 = true → x82 = undef)) (cd11 : Hid (b11 = true → x83 = undef)) (cd12 : Hid (b12 = true → x84 = undef)) (cd13 : Hid (b13 = true → x85 = undef)) (cd14 : Hid (b14 = true → x86 = undef)) (cd15 : Hid (b15 = true → x87 = undef)) (cd16 : Hid (b16 = true → x88 = undef)) (cd17 : Hid (b17 = true → x89 = undef)) (cd18 : Hid (b18 = true → x90 = undef)) (cd19 : Hid (b19 = true → x91 = .bool true)) (cd20 : Hid (b20 = true → x10 = .bool true)) : LAp23n B pa pb tx sq I K9 TA gv cb co va vn vc HA HB a0 w0 L a w
theorem le_mod : ∀ k x y, le k x = le k y → x % 256 ^ k = y % 256 ^ k
  | 0, x, y, _ => by simp [Nat.mod_one]
  | k + 1, x, y, h => by
    simp only [le, List.cons.injEq] at h
    have h1 : x % 256 = y % 256 := by
      have := congrArg UInt8.toNat h.1
      simpa using this
    have h2 := le_mod k _ _ h.2
    rw [Nat.pow_succ, Nat.mul_comm, Nat.mod_mul, Nat.mod_mul, h1, h2]
theorem le8_ne {x y : Int} (h : XU x ≠ XU y) : le 8 (XU x) ≠ le 8 (XU y) := fun e => h (by
  have := le_mod 8 _ _ e
  rwa [Nat.mod_eq_of_lt (XU_lt x), Nat.mod_eq_of_lt (XU_lt y)] at this)
theorem rowT_len (t s : Int) (c : Chg) : (rowT t s c).length = 17 + ((tx c.1.1.data.toList).length + (tx (encR c.2)).length) := by
  simp only [rowT, List.length_append, le_length]; omega
theorem rowT_t {t t' s s' : Int} {c c' : Chg} (h : XU t ≠ XU t') : rowT t s c ≠ rowT t' s' c' := fun e => le8_ne h (List.append_inj e (by rw [le_length, le_length])).1
theorem rowT_s {t t' s s' : Int} {c c' : Chg} (h : XU s ≠ XU s') : rowT t s c ≠ rowT t' s' c' := fun e => le8_ne h (List.append_inj (List.append_inj e (by rw [le_length, le_length])).2 (by rw [le_length, le_length])).1
theorem rowT_op {t t' s s' : Int} {c c' : Chg} (h : XU c.1.2 % 256 ≠ XU c'.1.2 % 256) : rowT t s c ≠ rowT t' s' c' := fun e => h (by
  have h1 := (List.append_inj (List.append_inj (List.append_inj e (by rw [le_length, le_length])).2 (by rw [le_length, le_length])).2 (by rw [le_length, le_length])).1
  simpa using le_mod 1 _ _ h1)
theorem rowT_row {t t' s s' : Int} {b : ByteArray} {o o' : Int} {l l' : List V} (h : tx (encR l) ≠ tx (encR l')) : rowT t s ((b, o), l) ≠ rowT t' s' ((b, o'), l') := fun e => h (by
  have h1 := (List.append_inj (List.append_inj (List.append_inj e (by rw [le_length, le_length])).2 (by rw [le_length, le_length])).2 (by rw [le_length, le_length])).2
  exact (List.append_inj h1 rfl).2)
theorem tx_ne {x y : Int} (h : XU x ≠ XU y) : tx (encR [⟨2, x, ⟨#[]⟩⟩]) ≠ tx (encR [⟨2, y, ⟨#[]⟩⟩]) := by
  intro e
  have e2 : ∀ z : Int, encR [⟨2, z, ⟨#[]⟩⟩] = le 1 1 ++ (le 1 2 ++ le 8 (XU z)) := fun z => by
    simp [encR, encVs, encV]
    rfl
  have e3 : ∀ z : Int, tx (encR [⟨2, z, ⟨#[]⟩⟩]) = le 2 10 ++ (le 1 1 ++ (le 1 2 ++ le 8 (XU z))) := fun z => by
    unfold tx
    rw [e2, List.take_of_length_le (by simp [le_length])]
    simp [le_length]
  rw [e3, e3] at e
  exact le8_ne h (List.append_inj (List.append_inj (List.append_inj e rfl).2 rfl).2 rfl).2
theorem XU_wrap (m : Nat) (h : m < 18446744073709551616) : XU (IntKind.i64.wrap (m : Int)) = m := by
  unfold XU
  have e : IntKind.i64.wrap (m : Int) = (if 9223372036854775808 ≤ (m : Int) % 18446744073709551616 then (m : Int) % 18446744073709551616 - 18446744073709551616 else (m : Int) % 18446744073709551616) := by simp [IntKind.wrap, IntKind.bits, IntKind.signed]
  rw [e]
  split <;> omega
theorem xor_ne (n : Int) (_h : (Lit.int .i64 n).wf = true) : XU n ≠ XU (bits .xor .i64 n 1) := by
  intro e
  have h1 : XU n = (BitVec.ofInt 64 n).toNat := by unfold XU; simp
  have h2 : XU (bits .xor .i64 n 1) = (BitVec.ofInt 64 n ^^^ BitVec.ofInt 64 1).toNat := by
    show XU (IntKind.i64.wrap ((BitVec.ofInt 64 n ^^^ BitVec.ofInt 64 1).toNat : Int)) = _
    exact XU_wrap _ (BitVec.isLt _)
  rw [h1, h2] at e
  have h3 := BitVec.eq_of_toNat_eq e
  have h4 : BitVec.ofInt 64 n ^^^ BitVec.ofInt 64 n = BitVec.ofInt 64 n ^^^ (BitVec.ofInt 64 n ^^^ BitVec.ofInt 64 1) := congrArg (BitVec.ofInt 64 n ^^^ ·) h3
  rw [← BitVec.xor_assoc, BitVec.xor_self, BitVec.zero_xor] at h4
  exact absurd h4 (by decide)
theorem tx_len9 {l : List UInt8} (h : l.length ≤ 65535) : (tx l).length = 2 + l.length := by simp [tx, le_length]; omega
set_option maxRecDepth 100000 in
set_option maxHeartbeats 4000000 in
theorem ledgerApart_walk (a0 a1 a2 n : Int) (s : ByteArray) (w : World) (hC : RC w) (_w0 : (Lit.int .i64 a0).wf = true) (_w1 : (Lit.int .i64 a1).wf = true) (_w2 : (Lit.int .i64 a2).wf = true) (hwn : (Lit.int .i64 n).wf = true) (_hws : s.size ≤ maxLen) :
    Calls Tryd.prog 4 #[.int .i64 a0, .int .i64 a1, .int .i64 a2, .int .i64 n, .string s] w fun e w' => e = .returned (.bool true) ∧ Below w.heap.size w w' := by
  go_enter Tryd.func4, Tryd.ntmps4
  go_upto_region 3 with (go_at_call 6; refine (known14 w hC).mono ?_; rintro e w1 ⟨rfl, b1⟩)
  by_cases h40 : s.size ≤ 40
  · have h40i : ¬ ((40 : Int) < (s.size : Int)) := by omega
    have hTx := wth14_lt a0 1000 (by omega)
    have hSq := wth14_lt a1 60 (by omega)
    have hZ := wth14_lt a2 5 (by omega)
    have HK1 := fun w' => within14_any a0 1000 w' (by omega) (by omega)
    have HK2 := fun w' => within14_any a1 60 w' (by omega) (by omega)
    have HK3 := fun w' => within14_any a2 5 w' (by omega) (by omega)
    obtain ⟨tx, htx⟩ : ∃ x, wth14 a0 1000 = x := ⟨_, rfl⟩
    obtain ⟨sq, hsq⟩ : ∃ x, wth14 a1 60 = x := ⟨_, rfl⟩
    obtain ⟨z, hz⟩ : ∃ x, wth14 a2 5 = x := ⟨_, rfl⟩
    simp only [htx] at hTx HK1
    simp only [hsq] at hSq HK2
    simp only [hz] at hZ HK3
    clear htx hsq hz
    have HTx := Lib.hid hTx
    have HSq := Lib.hid hSq
    have HZ := Lib.hid hZ
    clear hTx hSq hZ
    go_upto_region 6 with (first
      | ((go_at_call 7); (with_reducible refine (HK1 _).mono ?_); (rintro e w9 ⟨rfl, rfl⟩))
      | ((go_at_call 7); (with_reducible refine (HK2 _).mono ?_); (rintro e w9 ⟨rfl, rfl⟩)))
    go_upto_region 8 with fail
    have hTA0 : (({ data := #[120] } : ByteArray) ++ s).data.size = s.data.size + 1 := by
      have := ByteArray.size_append (a := { data := #[120] }) (b := s)
      have h1 : ({ data := #[120] } : ByteArray).size = 1 := rfl
      rw [h1] at this
      show (({ data := #[120] } : ByteArray) ++ s).size = s.size + 1
      omega
    generalize (({ data := #[120] } : ByteArray) ++ s) = TA at hTA0 ⊢
    have HTA := Lib.hid hTA0
    clear hTA0
    have GV : Bk (((w1.alloc (.cells #[.int .i64 2, .int .i64 n, .string ⟨#[]⟩] 36)).alloc (.cells #[.string TA, .int .i64 1, .slice (some ⟨w1.heap.size, 0, none⟩) 1 1] 39)).alloc (.cells #[.string TA, .int .i64 1, .slice (some ⟨w1.heap.size, 0, none⟩) 1 1] 39)) w1.heap.size #[.int .i64 2, .int .i64 n, .string ⟨#[]⟩] 36 := ((Bk.new w1 _ _).alloc _).alloc _
    have PA : Bk (((w1.alloc (.cells #[.int .i64 2, .int .i64 n, .string ⟨#[]⟩] 36)).alloc (.cells #[.string TA, .int .i64 1, .slice (some ⟨w1.heap.size, 0, none⟩) 1 1] 39)).alloc (.cells #[.string TA, .int .i64 1, .slice (some ⟨w1.heap.size, 0, none⟩) 1 1] 39)) (w1.heap.size + 1) #[.string TA, .int .i64 1, .slice (some ⟨w1.heap.size, 0, none⟩) 1 1] 39 := by
      have := Bk.new (w1.alloc (.cells #[.int .i64 2, .int .i64 n, .string ⟨#[]⟩] 36)) #[.string TA, .int .i64 1, .slice (some ⟨w1.heap.size, 0, none⟩) 1 1] 39
      rw [World.size_alloc] at this
      exact this.alloc _
    have PB : Bk (((w1.alloc (.cells #[.int .i64 2, .int .i64 n, .string ⟨#[]⟩] 36)).alloc (.cells #[.string TA, .int .i64 1, .slice (some ⟨w1.heap.size, 0, none⟩) 1 1] 39)).alloc (.cells #[.string TA, .int .i64 1, .slice (some ⟨w1.heap.size, 0, none⟩) 1 1] 39)) (w1.heap.size + 1 + 1) #[.string TA, .int .i64 1, .slice (some ⟨w1.heap.size, 0, none⟩) 1 1] 39 := by
      have := Bk.new ((w1.alloc (.cells #[.int .i64 2, .int .i64 n, .string ⟨#[]⟩] 36)).alloc (.cells #[.string TA, .int .i64 1, .slice (some ⟨w1.heap.size, 0, none⟩) 1 1] 39)) #[.string TA, .int .i64 1, .slice (some ⟨w1.heap.size, 0, none⟩) 1 1] 39
      rwa [World.size_alloc, World.size_alloc] at this
    have BW : Below w.heap.size w (((w1.alloc (.cells #[.int .i64 2, .int .i64 n, .string ⟨#[]⟩] 36)).alloc (.cells #[.string TA, .int .i64 1, .slice (some ⟨w1.heap.size, 0, none⟩) 1 1] 39)).alloc (.cells #[.string TA, .int .i64 1, .slice (some ⟨w1.heap.size, 0, none⟩) 1 1] 39)) := ((b1.alloc b1.size _).alloc (by have := b1.size; simp only [World.size_alloc]; omega) _).alloc (by have := b1.size; simp only [World.size_alloc]; omega) _
    have hs1 := b1.size
    obtain ⟨gv, hgv⟩ : ∃ x, w1.heap.size = x := ⟨_, rfl⟩
    obtain ⟨pa, hpa0⟩ : ∃ x, gv + 1 = x := ⟨_, rfl⟩
    obtain ⟨pb, hpb0⟩ : ∃ x, pa + 1 = x := ⟨_, rfl⟩
    simp only [hgv, hpa0, hpb0] at GV PA PB BW hs1 ⊢
    generalize (((w1.alloc (.cells #[.int .i64 2, .int .i64 n, .string ⟨#[]⟩] 36)).alloc (.cells #[.string TA, .int .i64 1, .slice (some ⟨gv, 0, none⟩) 1 1] 39)).alloc (.cells #[.string TA, .int .i64 1, .slice (some ⟨gv, 0, none⟩) 1 1] 39)) = W at GV PA PB BW ⊢
    have hab : pa ≠ pb := by omega
    have hvb : gv ≠ pb := by omega
    have hwb : w.heap.size ≤ pb := by omega
    have RV : IsR EV W (some ⟨gv, 0, none⟩) 1 1 [⟨2, n, ⟨#[]⟩⟩] := (OwnR.ofBlk (E := EV) (l := [⟨2, n, ⟨#[]⟩⟩]) (n := 1) GV rfl rfl (by omega)).isR
    have hokA : ChOk ((TA, 1), [⟨2, n, ⟨#[]⟩⟩]) := ⟨by have h9 : TA.size = s.size + 1 := HTA.out; show TA.size ≤ 60; omega, by simp, fun v hv => by rw [List.mem_singleton.1 hv]; exact Nat.zero_le _⟩
    clear hgv hpa0 hpb0 b1 GV hs1 HK1 HK2
    go_upto_block 0 with (go_at_call 7; refine (HK3 _).mono ?_; rintro e w9 ⟨rfl, rfl⟩)
    go_cut [13, 14] from 37 to 58 (fun s13 s14 wx => ∃ (I K9 : Int) (cb : ByteArray) (co : Int) (va : Option Addr) (vn vc : Nat) (vB : List V), s13 = .int .i64 I ∧ s14 = .int .i64 K9 ∧ Bk wx pb #[.string cb, .int .i64 co, .slice va vn vc] 39 ∧ IsR EV wx va vn vc vB ∧ ChOk ((cb, co), vB) ∧ rowT tx sq ((TA, 1), [⟨2, n, ⟨#[]⟩⟩]) ≠ rowT I K9 ((cb, co), vB) ∧ Bk wx pa #[.string TA, .int .i64 1, .slice (some ⟨gv, 0, none⟩) 1 1] 39 ∧ IsR EV wx (some ⟨gv, 0, none⟩) 1 1 [⟨2, n, ⟨#[]⟩⟩] ∧ Below w.heap.size w wx)
    case first =>
      have hTx := HTx.out
      have hSq := HSq.out
      have hZ := HZ.out
      have hTA := HTA.out
      by_cases q0 : z = 0
      · have HQ0 := Lib.hid q0
        have hz0 : (z == 0) = true := by simp [q0]
        clear q0
        go_wp2_with fail
        go_meet
        exact ⟨tx + 1, sq, TA, 1, some ⟨gv, 0, none⟩, 1, 1, [⟨2, n, ⟨#[]⟩⟩], rfl, rfl, PB, RV, hokA, rowT_t (by unfold XU; omega), PA, RV, BW⟩
      · have hz0 : (z == 0) = false := by simpa using q0
        by_cases q1 : z = 1
        · have hz1 : (z == 1) = true := by simp [q1]
          clear q0 q1
          go_wp2_with fail
          go_meet
          exact ⟨tx, sq + 1, TA, 1, some ⟨gv, 0, none⟩, 1, 1, [⟨2, n, ⟨#[]⟩⟩], rfl, rfl, PB, RV, hokA, rowT_s (by unfold XU; omega), PA, RV, BW⟩
        · have hz1 : (z == 1) = false := by simpa using q1
          by_cases q2 : z = 2
          · have hz2 : (z == 2) = true := by simp [q2]
            clear q0 q1 q2
            have f0 := free_blk (i := 0) PB
            have c0 : W.cell? ⟨pb, 0, none⟩ = some (.string TA) := PB.c rfl
            go_wp2_with fail
            have G9 := grown_cell (grown_self W pb) 0 (.string s)
            have PB9 : Bk (W.setCell ⟨pb, 0, none⟩ (.string s)) pb #[.string s, .int .i64 1, .slice (some ⟨gv, 0, none⟩) 1 1] 39 := heap_setCell_same PB
            have PA9 := PA.grown G9 (fun e => hab (Option.some.inj e))
            have RV9 := RV.grown G9 (fun a ha e => by cases ha; exact hvb (Option.some.inj e))
            have BW9 := BW.grown G9 BW.size (fun z hz => by cases hz; exact hwb)
            go_meet
            exact ⟨tx, sq, s, 1, some ⟨gv, 0, none⟩, 1, 1, [⟨2, n, ⟨#[]⟩⟩], rfl, rfl, PB9, RV9, ⟨by show s.size ≤ 60; omega, hokA.2.1, hokA.2.2⟩, (fun e => by
              have := congrArg List.length e
              rw [rowT_len, rowT_len, tx_len9 (by rw [Array.length_toList]; exact Nat.le_trans hokA.1 (by omega)), tx_len9 (l := s.data.toList) (by rw [Array.length_toList]; exact Nat.le_trans h40 (by omega))] at this
              simp only [Array.length_toList] at this
              have h9 : TA.data.size = s.data.size + 1 := hTA
              omega), PA9, RV9, BW9⟩
          · have hz2 : (z == 2) = false := by simpa using q2
            by_cases q3 : z = 3
            · have hz3 : (z == 3) = true := by simp [q3]
              clear q0 q1 q2 q3
              have f1 := free_blk (i := 1) PB
              have c1 : W.cell? ⟨pb, 1, none⟩ = some (.int .i64 1) := PB.c rfl
              go_wp2_with fail
              have G9 := grown_cell (grown_self W pb) 1 (.int .i64 2)
              have PB9 : Bk (W.setCell ⟨pb, 1, none⟩ (.int .i64 2)) pb #[.string TA, .int .i64 2, .slice (some ⟨gv, 0, none⟩) 1 1] 39 := heap_setCell_same PB
              have PA9 := PA.grown G9 (fun e => hab (Option.some.inj e))
              have RV9 := RV.grown G9 (fun a ha e => by cases ha; exact hvb (Option.some.inj e))
              have BW9 := BW.grown G9 BW.size (fun z hz => by cases hz; exact hwb)
              go_meet
              exact ⟨tx, sq, TA, 2, some ⟨gv, 0, none⟩, 1, 1, [⟨2, n, ⟨#[]⟩⟩], rfl, rfl, PB9, RV9, hokA, rowT_op (show XU 1 % 256 ≠ XU 2 % 256 by decide), PA9, RV9, BW9⟩
            · have hz3 : (z == 3) = false := by simpa using q3
              have hz4 : (z == 4) = true := by simp; omega
              clear q0 q1 q2 q3
              have f2 := free_blk (i := 2) PB
              have c2 : W.cell? ⟨pb, 2, none⟩ = some (.slice (some ⟨gv, 0, none⟩) 1 1) := PB.c rfl
              have hpbl := PB.lt
              have hne := tx_ne (xor_ne n hwn)
              go_wp2_with fail
              have hsz : (W.setCell ⟨pb, 2, none⟩ (.slice (some ⟨W.heap.size, 0, none⟩) 1 1)).heap.size = W.heap.size := by simp
              have G9 := grown_cell (grown_self W pb) 2 (.slice (some ⟨W.heap.size, 0, none⟩) 1 1)
              have PB8 : Bk (W.setCell ⟨pb, 2, none⟩ (.slice (some ⟨W.heap.size, 0, none⟩) 1 1)) pb #[.string TA, .int .i64 1, .slice (some ⟨W.heap.size, 0, none⟩) 1 1] 39 := heap_setCell_same PB
              have PA8 := PA.grown G9 (fun e => hab (Option.some.inj e))
              have RV8 := RV.grown G9 (fun a ha e => by cases ha; exact hvb (Option.some.inj e))
              have BW8 := BW.grown G9 BW.size (fun z hz => by cases hz; exact hwb)
              have BX : Below (W.setCell ⟨pb, 2, none⟩ (.slice (some ⟨W.heap.size, 0, none⟩) 1 1)).heap.size (W.setCell ⟨pb, 2, none⟩ (.slice (some ⟨W.heap.size, 0, none⟩) 1 1)) ((W.setCell ⟨pb, 2, none⟩ (.slice (some ⟨W.heap.size, 0, none⟩) 1 1)).alloc (.cells #[.int .i64 2, .int .i64 (bits .xor .i64 n 1), .string ⟨#[]⟩] 36)) := (Below.refl _ _).alloc (Nat.le_refl _) _
              have GX : Bk ((W.setCell ⟨pb, 2, none⟩ (.slice (some ⟨W.heap.size, 0, none⟩) 1 1)).alloc (.cells #[.int .i64 2, .int .i64 (bits .xor .i64 n 1), .string ⟨#[]⟩] 36)) W.heap.size #[.int .i64 2, .int .i64 (bits .xor .i64 n 1), .string ⟨#[]⟩] 36 := by
                have := Bk.new (W.setCell ⟨pb, 2, none⟩ (.slice (some ⟨W.heap.size, 0, none⟩) 1 1)) #[.int .i64 2, .int .i64 (bits .xor .i64 n 1), .string ⟨#[]⟩] 36
                rwa [hsz] at this
              have RX9 : IsR EV ((W.setCell ⟨pb, 2, none⟩ (.slice (some ⟨W.heap.size, 0, none⟩) 1 1)).alloc (.cells #[.int .i64 2, .int .i64 (bits .xor .i64 n 1), .string ⟨#[]⟩] 36)) (some ⟨W.heap.size, 0, none⟩) 1 1 [⟨2, (bits .xor .i64 n 1), ⟨#[]⟩⟩] := (OwnR.ofBlk (E := EV) (l := [⟨2, (bits .xor .i64 n 1), ⟨#[]⟩⟩]) (n := 1) GX rfl rfl (by omega)).isR
              have PB9 := PB8.past BX
              have PA9 := PA8.past BX
              have RV9 := RV8.past BX
              have BW9 := BW8.trans (BX.mono BW8.size)
              go_meet
              exact ⟨tx, sq, TA, 1, some ⟨W.heap.size, 0, none⟩, 1, 1, [⟨2, (bits .xor .i64 n 1), ⟨#[]⟩⟩], rfl, rfl, PB9, RX9, ⟨hokA.1, by simp, fun v hv => by rw [List.mem_singleton.1 hv]; exact Nat.zero_le _⟩, rowT_row hne, PA9, RV9, BW9⟩
    case rest =>
      obtain ⟨I, K9, cb, co, va, vn, vc, vB, rfl, rfl, hBb, hBv, hokB, hne, hA, hAv, BW9⟩ := hcut
      clear PA PB RV BW HK3 HZ
      obtain ⟨W, rfl⟩ : ∃ z, z = wc := ⟨wc, rfl⟩
      have BW := BW9
      obtain ⟨vA, hvA⟩ : ∃ x : List V, x = [⟨2, n, ⟨#[]⟩⟩] := ⟨_, rfl⟩
      rw [← hvA] at hAv hokA hne
      clear hvA BW9
      obtain ⟨ea0, ea1, ea2⟩ : W.drew.cell? ⟨pa, 0, none⟩ = some (.string TA) ∧ W.drew.cell? ⟨pa, 1, none⟩ = some (.int .i64 1) ∧ W.drew.cell? ⟨pa, 2, none⟩ = some (.slice (some ⟨gv, 0, none⟩) 1 1) := ⟨hA.c rfl, hA.c rfl, hA.c rfl⟩
      obtain ⟨eb0, eb1, eb2⟩ : W.drew.cell? ⟨pb, 0, none⟩ = some (.string cb) ∧ W.drew.cell? ⟨pb, 1, none⟩ = some (.int .i64 co) ∧ W.drew.cell? ⟨pb, 2, none⟩ = some (.slice va vn vc) := ⟨hBb.c rfl, hBb.c rfl, hBb.c rfl⟩
      have hpa := hA.lt
      have hpb := hBb.lt
      obtain ⟨r, hr⟩ : ∃ r, W.heap.size = r := ⟨_, rfl⟩
      have HR := Lib.hid hr
      have hB0 : r ≤ W.heap.size := Nat.le_of_eq hr.symm
      rw [hr] at hpa hpb
      have HW := fun (w' : World) (hb : Below r W.drew w') => (show Below W.heap.size W w' by rw [HR.out]; exact (Below.refl _ _).drew.trans hb)
      have HT10 := fun (w' : World) (hb : Below r W.drew w') => rowText_any w' tx sq ((TA, 1), vA) (some ⟨gv, 0, none⟩) 1 1 (hAv.past (HW w' hb)) hokA
      have HT20 := fun (w' : World) (hb : Below r W.drew w') => rowText_any w' I K9 ((cb, co), vB) va vn vc (hBv.past (HW w' hb)) hokB
      obtain ⟨P9, hP9⟩ : ∃ x, rowT tx sq ((TA, 1), vA) = x := ⟨_, rfl⟩
      obtain ⟨Q9, hQ9⟩ : ∃ x, rowT I K9 ((cb, co), vB) = x := ⟨_, rfl⟩
      have HNE : Hid (P9 ≠ Q9) := Lib.hid (by rw [← hP9, ← hQ9]; exact hne)
      simp only [hP9] at HT10
      simp only [hQ9] at HT20
      obtain ⟨n3, hn3⟩ : ∃ x, P9.length = x := ⟨_, rfl⟩
      obtain ⟨n7, hn7⟩ : ∃ x, Q9.length = x := ⟨_, rfl⟩
      simp only [hn3] at HT10
      simp only [hn7] at HT20
      have HT1 : ∀ (w' : World) (hb : Below r W.drew w'), Calls Tryd.prog 10 #[.int .i64 tx, .int .i64 sq, .agg #[.string TA, .int .i64 1, .slice (some ⟨gv, 0, none⟩) 1 1]] w' (Fresh w' n3 P9) := HT10
      have HT2 : ∀ (w' : World) (hb : Below r W.drew w'), Calls Tryd.prog 10 #[.int .i64 I, .int .i64 K9, .agg #[.string cb, .int .i64 co, .slice va vn vc]] w' (Fresh w' n7 Q9) := HT20
      clear HT10 HT20 hP9 hQ9 hn3 hn7 hne HW hr HTx HSq
      go_upto_region 20 with fail
      refine region_inv (LAp20 r pa pb tx sq I K9 TA gv cb co va vn vc n3 n7 P9 Q9) (by kernel_rfl) (by kernel_rfl) ?_ ?_ ?_
      · exact ⟨false, false, false, false, false, false, false, false, false, false, undef, undef, undef, undef, undef, undef, undef, undef, undef, undef, 0, 0, 0, 0, rfl, (by simp only [Act.put, List.setIfInBounds_toArray, List.set_cons_zero, List.set_cons_succ]), Below.refl _ _, (fun h => by cases h), (fun h => by cases h), (fun h => by cases h), (fun h => by cases h), (fun h => by cases h), (fun h => by cases h), (fun h => by cases h), (fun h => by cases h), (fun h => by cases h), (fun h => by cases h), (fun h => by cases h), (fun h => by cases h), (fun h => by cases h), (fun h => by cases h)⟩
      · refine ⟨?_, ?_, ?_, ?_, ?_, ?_, ?_, ?_, ?_, ?_, trivial⟩
        · rintro L a w ⟨b0, b1, b2, b3, b4, b5, b6, b7, b8, b9, x59, x60, x61, x62, x63, x64, x65, x66, x15, x16, g3, c3, g7, c7, rfl, rfl, hb, cd0, cd1, cd2, cd3, cd4, cd5, cd6, cd7, cd8, cd9, f_p, f_q, w_8_3, w_9_7⟩ hf hd
          have hf' : b0 = false := hf
          subst hf'
          clear hf hd
          try simp only [List.setIfInBounds_toArray, List.set_cons_zero, List.set_cons_succ]
          intro K hK
          rw [if_pos (by rfl)]
          go_simp
          exact hK.out _ _ ⟨true, b1, b2, b3, b4, b5, b6, b7, b8, b9, (.int .i64 tx), x60, x61, x62, x63, x64, x65, x66, x15, x16, g3, c3, g7, c7, (by simp only [Act.put, List.setIfInBounds_toArray, List.set_cons_zero, List.set_cons_succ]), (by simp only [Act.put, List.setIfInBounds_toArray, List.set_cons_zero, List.set_cons_succ]), hb, (fun _ => rfl), cd1, cd2, cd3, cd4, cd5, cd6, cd7, cd8, cd9, f_p, f_q, w_8_3, w_9_7⟩
        · rintro L a w ⟨b0, b1, b2, b3, b4, b5, b6, b7, b8, b9, x59, x60, x61, x62, x63, x64, x65, x66, x15, x16, g3, c3, g7, c7, rfl, rfl, hb, cd0, cd1, cd2, cd3, cd4, cd5, cd6, cd7, cd8, cd9, f_p, f_q, w_8_3, w_9_7⟩ hf hd
          have hf' : b1 = false := hf
          subst hf'
          clear hf hd
          try simp only [List.setIfInBounds_toArray, List.set_cons_zero, List.set_cons_succ]
          intro K hK
          rw [if_pos (by rfl)]
          go_simp
          exact hK.out _ _ ⟨b0, true, b2, b3, b4, b5, b6, b7, b8, b9, x59, (.int .i64 sq), x61, x62, x63, x64, x65, x66, x15, x16, g3, c3, g7, c7, (by simp only [Act.put, List.setIfInBounds_toArray, List.set_cons_zero, List.set_cons_succ]), (by simp only [Act.put, List.setIfInBounds_toArray, List.set_cons_zero, List.set_cons_succ]), hb, cd0, (fun _ => rfl), cd2, cd3, cd4, cd5, cd6, cd7, cd8, cd9, f_p, f_q, w_8_3, w_9_7⟩
        · rintro L a w ⟨b0, b1, b2, b3, b4, b5, b6, b7, b8, b9, x59, x60, x61, x62, x63, x64, x65, x66, x15, x16, g3, c3, g7, c7, rfl, rfl, hb, cd0, cd1, cd2, cd3, cd4, cd5, cd6, cd7, cd8, cd9, f_p, f_q, w_8_3, w_9_7⟩ hf hd
          have hf' : b2 = false := hf
          subst hf'
          clear hf hd
          try simp only [List.setIfInBounds_toArray, List.set_cons_zero, List.set_cons_succ]
          have z0 := (hb.cell hpa).trans ea0
          have z1 := (hb.cell hpa).trans ea1
          have z2 := (hb.cell hpa).trans ea2
          intro K hK
          rw [if_pos (by rfl)]
          go_simp
          exact hK.out _ _ ⟨b0, b1, true, b3, b4, b5, b6, b7, b8, b9, x59, x60, (.agg #[.string TA, .int .i64 1, .slice (some ⟨gv, 0, none⟩) 1 1]), x62, x63, x64, x65, x66, x15, x16, g3, c3, g7, c7, (by simp only [Act.put, List.setIfInBounds_toArray, List.set_cons_zero, List.set_cons_succ]), (by simp only [Act.put, List.setIfInBounds_toArray, List.set_cons_zero, List.set_cons_succ]), hb, cd0, cd1, (fun _ => rfl), cd3, cd4, cd5, cd6, cd7, cd8, cd9, f_p, f_q, w_8_3, w_9_7⟩
        · rintro L a w ⟨b0, b1, b2, b3, b4, b5, b6, b7, b8, b9, x59, x60, x61, x62, x63, x64, x65, x66, x15, x16, g3, c3, g7, c7, rfl, rfl, hb, cd0, cd1, cd2, cd3, cd4, cd5, cd6, cd7, cd8, cd9, f_p, f_q, w_8_3, w_9_7⟩ hf hd
          have hf' : b3 = false := hf
          subst hf'
          have d0 : b0 = true := hd ⟨0, .data⟩ (by simp) rfl
          subst d0
          have d1 : b1 = true := hd ⟨1, .data⟩ (by simp) rfl
          subst d1
          have d2 : b2 = true := hd ⟨2, .data⟩ (by simp) rfl
          subst d2
          obtain rfl := cd0.out rfl
          obtain rfl := cd1.out rfl
          obtain rfl := cd2.out rfl
          clear hf hd
          try simp only [List.setIfInBounds_toArray, List.set_cons_zero, List.set_cons_succ]
          intro K hK
          rw [if_pos (by rfl)]
          go_simp
          go_at_call 10
          refine (HT1 _ hb).mono ?_
          rintro e w' ⟨g, c, rfl, o9, bx, _⟩
          have e_8 : b8 = false := by cases hq : b8 with | false => rfl | true => exact absurd (w_8_3.out hq) (by simp)
          subst e_8
          exact hK.out _ _ ⟨true, true, true, true, b4, b5, b6, b7, false, b9, .int .i64 tx, .int .i64 sq, .agg #[.string TA, .int .i64 1, .slice (some ⟨gv, 0, none⟩) 1 1], (.slice (some ⟨g, 0, none⟩) n3 c), x63, x64, x65, x66, x15, x16, g, c, g7, c7, (by simp only [Act.put, List.setIfInBounds_toArray, List.set_cons_zero, List.set_cons_succ]), (by simp only [Act.put, List.setIfInBounds_toArray, List.set_cons_zero, List.set_cons_succ]), hb.trans (bx.mono (Nat.le_trans hB0 hb.size)), (fun _ => rfl), (fun _ => rfl), (fun _ => rfl), (fun _ => rfl), cd4, cd5, cd6, cd7, (fun h => by cases h), cd9, (fun _ => o9.isB), (fun h0 => (f_q.out h0).past bx), (fun _ => rfl), w_9_7⟩
        · rintro L a w ⟨b0, b1, b2, b3, b4, b5, b6, b7, b8, b9, x59, x60, x61, x62, x63, x64, x65, x66, x15, x16, g3, c3, g7, c7, rfl, rfl, hb, cd0, cd1, cd2, cd3, cd4, cd5, cd6, cd7, cd8, cd9, f_p, f_q, w_8_3, w_9_7⟩ hf hd
          have hf' : b4 = false := hf
          subst hf'
          clear hf hd
          try simp only [List.setIfInBounds_toArray, List.set_cons_zero, List.set_cons_succ]
          intro K hK
          rw [if_pos (by rfl)]
          go_simp
          exact hK.out _ _ ⟨b0, b1, b2, b3, true, b5, b6, b7, b8, b9, x59, x60, x61, x62, (.int .i64 I), x64, x65, x66, x15, x16, g3, c3, g7, c7, (by simp only [Act.put, List.setIfInBounds_toArray, List.set_cons_zero, List.set_cons_succ]), (by simp only [Act.put, List.setIfInBounds_toArray, List.set_cons_zero, List.set_cons_succ]), hb, cd0, cd1, cd2, cd3, (fun _ => rfl), cd5, cd6, cd7, cd8, cd9, f_p, f_q, w_8_3, w_9_7⟩
        · rintro L a w ⟨b0, b1, b2, b3, b4, b5, b6, b7, b8, b9, x59, x60, x61, x62, x63, x64, x65, x66, x15, x16, g3, c3, g7, c7, rfl, rfl, hb, cd0, cd1, cd2, cd3, cd4, cd5, cd6, cd7, cd8, cd9, f_p, f_q, w_8_3, w_9_7⟩ hf hd
          have hf' : b5 = false := hf
          subst hf'
          clear hf hd
          try simp only [List.setIfInBounds_toArray, List.set_cons_zero, List.set_cons_succ]
          intro K hK
          rw [if_pos (by rfl)]
          go_simp
          exact hK.out _ _ ⟨b0, b1, b2, b3, b4, true, b6, b7, b8, b9, x59, x60, x61, x62, x63, (.int .i64 K9), x65, x66, x15, x16, g3, c3, g7, c7, (by simp only [Act.put, List.setIfInBounds_toArray, List.set_cons_zero, List.set_cons_succ]), (by simp only [Act.put, List.setIfInBounds_toArray, List.set_cons_zero, List.set_cons_succ]), hb, cd0, cd1, cd2, cd3, cd4, (fun _ => rfl), cd6, cd7, cd8, cd9, f_p, f_q, w_8_3, w_9_7⟩
        · rintro L a w ⟨b0, b1, b2, b3, b4, b5, b6, b7, b8, b9, x59, x60, x61, x62, x63, x64, x65, x66, x15, x16, g3, c3, g7, c7, rfl, rfl, hb, cd0, cd1, cd2, cd3, cd4, cd5, cd6, cd7, cd8, cd9, f_p, f_q, w_8_3, w_9_7⟩ hf hd
          have hf' : b6 = false := hf
          subst hf'
          clear hf hd
          try simp only [List.setIfInBounds_toArray, List.set_cons_zero, List.set_cons_succ]
          have z0 := (hb.cell hpb).trans eb0
          have z1 := (hb.cell hpb).trans eb1
          have z2 := (hb.cell hpb).trans eb2
          intro K hK
          rw [if_pos (by rfl)]
          go_simp
          exact hK.out _ _ ⟨b0, b1, b2, b3, b4, b5, true, b7, b8, b9, x59, x60, x61, x62, x63, x64, (.agg #[.string cb, .int .i64 co, .slice va vn vc]), x66, x15, x16, g3, c3, g7, c7, (by simp only [Act.put, List.setIfInBounds_toArray, List.set_cons_zero, List.set_cons_succ]), (by simp only [Act.put, List.setIfInBounds_toArray, List.set_cons_zero, List.set_cons_succ]), hb, cd0, cd1, cd2, cd3, cd4, cd5, (fun _ => rfl), cd7, cd8, cd9, f_p, f_q, w_8_3, w_9_7⟩
        · rintro L a w ⟨b0, b1, b2, b3, b4, b5, b6, b7, b8, b9, x59, x60, x61, x62, x63, x64, x65, x66, x15, x16, g3, c3, g7, c7, rfl, rfl, hb, cd0, cd1, cd2, cd3, cd4, cd5, cd6, cd7, cd8, cd9, f_p, f_q, w_8_3, w_9_7⟩ hf hd
          have hf' : b7 = false := hf
          subst hf'
          have d4 : b4 = true := hd ⟨4, .data⟩ (by simp) rfl
          subst d4
          have d5 : b5 = true := hd ⟨5, .data⟩ (by simp) rfl
          subst d5
          have d6 : b6 = true := hd ⟨6, .data⟩ (by simp) rfl
          subst d6
          have d3 : b3 = true := hd ⟨3, .chain⟩ (by simp) rfl
          subst d3
          obtain rfl := cd4.out rfl
          obtain rfl := cd5.out rfl
          obtain rfl := cd6.out rfl
          obtain rfl := cd3.out rfl
          clear hf hd
          have W_p := f_p.out rfl
          try simp only [List.setIfInBounds_toArray, List.set_cons_zero, List.set_cons_succ]
          intro K hK
          rw [if_pos (by rfl)]
          go_simp
          go_at_call 10
          refine (HT2 _ hb).mono ?_
          rintro e w' ⟨g, c, rfl, o9, bx, _⟩
          have e_9 : b9 = false := by cases hq : b9 with | false => rfl | true => exact absurd (w_9_7.out hq) (by simp)
          subst e_9
          exact hK.out _ _ ⟨b0, b1, b2, true, true, true, true, true, b8, false, x59, x60, x61, .slice (some ⟨g3, 0, none⟩) n3 c3, .int .i64 I, .int .i64 K9, .agg #[.string cb, .int .i64 co, .slice va vn vc], (.slice (some ⟨g, 0, none⟩) n7 c), x15, x16, g3, c3, g, c, (by simp only [Act.put, List.setIfInBounds_toArray, List.set_cons_zero, List.set_cons_succ]), (by simp only [Act.put, List.setIfInBounds_toArray, List.set_cons_zero, List.set_cons_succ]), hb.trans (bx.mono (Nat.le_trans hB0 hb.size)), cd0, cd1, cd2, (fun _ => rfl), (fun _ => rfl), (fun _ => rfl), (fun _ => rfl), (fun _ => rfl), cd8, (fun h => by cases h), (fun h0 => (f_p.out h0).past bx), (fun _ => o9.isB), (fun _ => rfl), (fun _ => rfl)⟩
        · rintro L a w ⟨b0, b1, b2, b3, b4, b5, b6, b7, b8, b9, x59, x60, x61, x62, x63, x64, x65, x66, x15, x16, g3, c3, g7, c7, rfl, rfl, hb, cd0, cd1, cd2, cd3, cd4, cd5, cd6, cd7, cd8, cd9, f_p, f_q, w_8_3, w_9_7⟩ hf hd
          have hf' : b8 = false := hf
          subst hf'
          have d3 : b3 = true := hd ⟨3, .data⟩ (by simp) rfl
          subst d3
          have d7 : b7 = true := hd ⟨7, .chain⟩ (by simp) rfl
          subst d7
          have d0 : b0 = true := hd ⟨0, .phase⟩ (by simp) rfl
          subst d0
          have d1 : b1 = true := hd ⟨1, .phase⟩ (by simp) rfl
          subst d1
          have d2 : b2 = true := hd ⟨2, .phase⟩ (by simp) rfl
          subst d2
          obtain rfl := cd3.out rfl
          obtain rfl := cd7.out rfl
          obtain rfl := cd0.out rfl
          obtain rfl := cd1.out rfl
          obtain rfl := cd2.out rfl
          clear hf hd
          have W_p := f_p.out rfl
          have W_q := f_q.out rfl
          try simp only [List.setIfInBounds_toArray, List.set_cons_zero, List.set_cons_succ]
          intro K hK
          rw [if_pos (by rfl)]
          go_simp
          exact hK.out _ _ ⟨true, true, true, true, b4, b5, b6, true, true, b9, .int .i64 tx, .int .i64 sq, .agg #[.string TA, .int .i64 1, .slice (some ⟨gv, 0, none⟩) 1 1], .slice (some ⟨g3, 0, none⟩) n3 c3, x63, x64, x65, .slice (some ⟨g7, 0, none⟩) n7 c7, (.slice (some ⟨g3, 0, none⟩) n3 c3), x16, g3, c3, g7, c7, (by simp only [Act.put, List.setIfInBounds_toArray, List.set_cons_zero, List.set_cons_succ]), (by simp only [Act.put, List.setIfInBounds_toArray, List.set_cons_zero, List.set_cons_succ]), hb, (fun _ => rfl), (fun _ => rfl), (fun _ => rfl), (fun _ => rfl), cd4, cd5, cd6, (fun _ => rfl), (fun _ => rfl), cd9, f_p, f_q, (fun _ => rfl), (fun _ => rfl)⟩
        · rintro L a w ⟨b0, b1, b2, b3, b4, b5, b6, b7, b8, b9, x59, x60, x61, x62, x63, x64, x65, x66, x15, x16, g3, c3, g7, c7, rfl, rfl, hb, cd0, cd1, cd2, cd3, cd4, cd5, cd6, cd7, cd8, cd9, f_p, f_q, w_8_3, w_9_7⟩ hf hd
          have hf' : b9 = false := hf
          subst hf'
          have d7 : b7 = true := hd ⟨7, .data⟩ (by simp) rfl
          subst d7
          have d8 : b8 = true := hd ⟨8, .chain⟩ (by simp) rfl
          subst d8
          have d0 : b0 = true := hd ⟨0, .phase⟩ (by simp) rfl
          subst d0
          have d1 : b1 = true := hd ⟨1, .phase⟩ (by simp) rfl
          subst d1
          have d2 : b2 = true := hd ⟨2, .phase⟩ (by simp) rfl
          subst d2
          have d3 : b3 = true := hd ⟨3, .phase⟩ (by simp) rfl
          subst d3
          have d4 : b4 = true := hd ⟨4, .phase⟩ (by simp) rfl
          subst d4
          have d5 : b5 = true := hd ⟨5, .phase⟩ (by simp) rfl
          subst d5
          have d6 : b6 = true := hd ⟨6, .phase⟩ (by simp) rfl
          subst d6
          obtain rfl := cd7.out rfl
          obtain rfl := cd8.out rfl
          obtain rfl := cd0.out rfl
          obtain rfl := cd1.out rfl
          obtain rfl := cd2.out rfl
          obtain rfl := cd3.out rfl
          obtain rfl := cd4.out rfl
          obtain rfl := cd5.out rfl
          obtain rfl := cd6.out rfl
          clear hf hd
          have W_p := f_p.out rfl
          have W_q := f_q.out rfl
          try simp only [List.setIfInBounds_toArray, List.set_cons_zero, List.set_cons_succ]
          intro K hK
          rw [if_pos (by rfl)]
          go_simp
          exact hK.out _ _ ⟨true, true, true, true, true, true, true, true, true, true, .int .i64 tx, .int .i64 sq, .agg #[.string TA, .int .i64 1, .slice (some ⟨gv, 0, none⟩) 1 1], .slice (some ⟨g3, 0, none⟩) n3 c3, .int .i64 I, .int .i64 K9, .agg #[.string cb, .int .i64 co, .slice va vn vc], .slice (some ⟨g7, 0, none⟩) n7 c7, .slice (some ⟨g3, 0, none⟩) n3 c3, (.slice (some ⟨g7, 0, none⟩) n7 c7), g3, c3, g7, c7, (by simp only [Act.put, List.setIfInBounds_toArray, List.set_cons_zero, List.set_cons_succ]), (by simp only [Act.put, List.setIfInBounds_toArray, List.set_cons_zero, List.set_cons_succ]), hb, (fun _ => rfl), (fun _ => rfl), (fun _ => rfl), (fun _ => rfl), (fun _ => rfl), (fun _ => rfl), (fun _ => rfl), (fun _ => rfl), (fun _ => rfl), (fun _ => rfl), f_p, f_q, (fun _ => rfl), (fun _ => rfl)⟩
      · rintro act V ⟨b0, b1, b2, b3, b4, b5, b6, b7, b8, b9, x59, x60, x61, x62, x63, x64, x65, x66, x15, x16, g3, c3, g7, c7, hL, rfl, hb, cd0, cd1, cd2, cd3, cd4, cd5, cd6, cd7, cd8, cd9, f_p, f_q, w_8_3, w_9_7⟩
        have hL' : [true, true, true, true, true, true, true, true, true, true] = [b0, b1, b2, b3, b4, b5, b6, b7, b8, b9] := congrArg Array.toList hL
        simp only [List.cons.injEq, and_true] at hL'
        obtain ⟨rfl, rfl, rfl, rfl, rfl, rfl, rfl, rfl, rfl, rfl⟩ := hL'
        obtain rfl := cd0.out rfl
        obtain rfl := cd1.out rfl
        obtain rfl := cd2.out rfl
        obtain rfl := cd3.out rfl
        obtain rfl := cd4.out rfl
        obtain rfl := cd5.out rfl
        obtain rfl := cd6.out rfl
        obtain rfl := cd7.out rfl
        obtain rfl := cd8.out rfl
        obtain rfl := cd9.out rfl
        have W_p := f_p.out rfl
        have W_q := f_q.out rfl
        clear hL f_p f_q cd0 cd1 cd2 cd3 cd4 cd5 cd6 cd7 cd8 cd9 w_8_3 w_9_7
        simp only [List.setIfInBounds_toArray, List.set_cons_zero, List.set_cons_succ]
        have BV : Below W.heap.size W V := by rw [HR.out]; exact (Below.refl _ _).drew.trans hb
        have IP := W_p
        have IQ := W_q
        clear W_p W_q hb
        have BW2 := BW.trans (BV.mono BW.size)
        have A2 := hA.past BV
        have B2b := hBb.past BV
        have V2 := hAv.past BV
        have U2 := hBv.past BV
        have hcv := IP.conv byteTy Tryd.underlying9
        have hcw := IQ.conv byteTy Tryd.underlying9
        have hpq : (P9 == Q9) = false := by simpa using HNE.out
        clear BV IP IQ BW hA hBb hAv hBv ea0 ea1 ea2 eb0 eb1 eb2 HT1 HT2
        obtain ⟨W2, rfl⟩ : ∃ z, z = V := ⟨_, rfl⟩
        go_upto_region 23 with fail
        clear hcv hcw hpq
        have hC2 : RC W2 := hC.past BW2
        obtain ⟨ea0, ea1, ea2⟩ : W2.drew.cell? ⟨pa, 0, none⟩ = some (.string TA) ∧ W2.drew.cell? ⟨pa, 1, none⟩ = some (.int .i64 1) ∧ W2.drew.cell? ⟨pa, 2, none⟩ = some (.slice (some ⟨gv, 0, none⟩) 1 1) := ⟨A2.c rfl, A2.c rfl, A2.c rfl⟩
        obtain ⟨eb0, eb1, eb2⟩ : W2.drew.cell? ⟨pb, 0, none⟩ = some (.string cb) ∧ W2.drew.cell? ⟨pb, 1, none⟩ = some (.int .i64 co) ∧ W2.drew.cell? ⟨pb, 2, none⟩ = some (.slice va vn vc) := ⟨B2b.c rfl, B2b.c rfl, B2b.c rfl⟩
        have hpa := A2.lt
        have hpb := B2b.lt
        obtain ⟨r2, hr2⟩ : ∃ r, W2.heap.size = r := ⟨_, rfl⟩
        have HR2 := Lib.hid hr2
        have hB0 : r2 ≤ W2.heap.size := Nat.le_of_eq hr2.symm
        rw [hr2] at hpa hpb
        have HW := fun (w' : World) (hb : Below r2 W2.drew w') => (show Below W2.heap.size W2 w' by rw [HR2.out]; exact (Below.refl _ _).drew.trans hb)
        have HL10 := fun (w' : World) (hb : Below r2 W2.drew w') => row_any w' (hC2.past (HW w' hb)) tx sq ((TA, 1), vA) (some ⟨gv, 0, none⟩) 1 1 (V2.past (HW w' hb)) hokA
        have HL20 := fun (w' : World) (hb : Below r2 W2.drew w') => row_any w' (hC2.past (HW w' hb)) I K9 ((cb, co), vB) va vn vc (U2.past (HW w' hb)) hokB
        have HR10 := fun (w' : World) (hb : Below r2 W2.drew w') => rrow_any w' tx sq ((TA, 1), vA) (some ⟨gv, 0, none⟩) 1 1 (V2.past (HW w' hb)) hokA
        have HR30 := fun (w' : World) (hb : Below r2 W2.drew w') => rrow_any w' I K9 ((cb, co), vB) va vn vc (U2.past (HW w' hb)) hokB
        have hla := rowS_len tx sq ((TA, 1), vA)
        have hlb := rowS_len I K9 ((cb, co), vB)
        obtain ⟨RA, hRA⟩ : ∃ x, rowS tx sq ((TA, 1), vA) = x := ⟨_, rfl⟩
        obtain ⟨RB, hRB⟩ : ∃ x, rowS I K9 ((cb, co), vB) = x := ⟨_, rfl⟩
        rw [hRA] at hla
        rw [hRB] at hlb
        simp only [hRA] at HL10 HR10
        simp only [hRB] at HL20 HR30
        have qH := equal_hash _ _ hla hlb
        clear hRA hRB A2 B2b V2 U2 HW hr2 HNE
        by_cases heq : RA = RB
        · subst heq
          simp only [beq_self_eq_true] at qH
          obtain ⟨HA, hHA⟩ : ∃ x, (bcs RA).toArray = x := ⟨_, rfl⟩
          simp only [hHA] at qH HL10 HL20 HR10 HR30
          have HL1 : ∀ (w' : World) (hb : Below r2 W2.drew w'), Calls Tryd.prog 11 #[.int .i64 tx, .int .i64 sq, .agg #[.string TA, .int .i64 1, .slice (some ⟨gv, 0, none⟩) 1 1]] w' fun e w2 => e = .returned (.agg HA) ∧ Below w'.heap.size w' w2 := HL10
          have HL2 : ∀ (w' : World) (hb : Below r2 W2.drew w'), Calls Tryd.prog 11 #[.int .i64 I, .int .i64 K9, .agg #[.string cb, .int .i64 co, .slice va vn vc]] w' fun e w2 => e = .returned (.agg HA) ∧ Below w'.heap.size w' w2 := HL20
          have HR1 : ∀ (w' : World) (hb : Below r2 W2.drew w'), Calls Tryd.prog 12 #[.int .i64 tx, .int .i64 sq, .agg #[.string TA, .int .i64 1, .slice (some ⟨gv, 0, none⟩) 1 1]] w' fun e w2 => e = .returned (.agg HA) ∧ Below w'.heap.size w' w2 := HR10
          have HR3 : ∀ (w' : World) (hb : Below r2 W2.drew w'), Calls Tryd.prog 12 #[.int .i64 I, .int .i64 K9, .agg #[.string cb, .int .i64 co, .slice va vn vc]] w' fun e w2 => e = .returned (.agg HA) ∧ Below w'.heap.size w' w2 := HR30
          clear HL10 HL20 HR10 HR30 hla hlb hHA hokA hokB
          refine region_inv (LAp23y r2 pa pb tx sq I K9 TA gv cb co va vn vc HA HA) (by kernel_rfl) (by kernel_rfl) ?_ ?_ ?_
          · exact ⟨false, false, false, false, false, false, false, false, false, false, false, false, false, false, false, false, false, false, false, false, false, undef, undef, undef, undef, undef, undef, undef, undef, undef, undef, undef, undef, undef, undef, undef, undef, undef, undef, undef, undef, .bool false, rfl, (by simp only [Act.put, List.setIfInBounds_toArray, List.set_cons_zero, List.set_cons_succ]), Below.refl _ _, (fun h => by cases h), (fun h => by cases h), (fun h => by cases h), (fun h => by cases h), (fun h => by cases h), (fun h => by cases h), (fun h => by cases h), (fun h => by cases h), (fun h => by cases h), (fun h => by cases h), (fun h => by cases h), (fun h => by cases h), (fun h => by cases h), (fun h => by cases h), (fun h => by cases h), (fun h => by cases h), (fun h => by cases h), (fun h => by cases h), (fun h => by cases h), (fun h => by cases h), (fun h => by cases h)⟩
          · refine ⟨?_, ?_, ?_, ?_, ?_, ?_, ?_, ?_, ?_, ?_, ?_, ?_, ?_, ?_, ?_, ?_, ?_, ?_, ?_, ?_, ?_, trivial⟩
            · rintro L a w ⟨b0, b1, b2, b3, b4, b5, b6, b7, b8, b9, b10, b11, b12, b13, b14, b15, b16, b17, b18, b19, b20, x72, x73, x74, x75, x76, x77, x78, x79, x80, x81, x82, x83, x84, x85, x86, x87, x88, x89, x90, x91, x10, rfl, rfl, hb, cd0, cd1, cd2, cd3, cd4, cd5, cd6, cd7, cd8, cd9, cd10, cd11, cd12, cd13, cd14, cd15, cd16, cd17, cd18, cd19, cd20⟩ hf hd
              have hf' : b0 = false := hf
              subst hf'
              clear hf hd
              try simp only [List.setIfInBounds_toArray, List.set_cons_zero, List.set_cons_succ]
              intro K hK
              rw [if_pos (by rfl)]
              go_simp
              exact hK.out _ _ ⟨true, b1, b2, b3, b4, b5, b6, b7, b8, b9, b10, b11, b12, b13, b14, b15, b16, b17, b18, b19, b20, (.int .i64 tx), x73, x74, x75, x76, x77, x78, x79, x80, x81, x82, x83, x84, x85, x86, x87, x88, x89, x90, x91, x10, (by simp only [Act.put, List.setIfInBounds_toArray, List.set_cons_zero, List.set_cons_succ]), (by simp only [Act.put, List.setIfInBounds_toArray, List.set_cons_zero, List.set_cons_succ]), hb, (fun _ => rfl), cd1, cd2, cd3, cd4, cd5, cd6, cd7, cd8, cd9, cd10, cd11, cd12, cd13, cd14, cd15, cd16, cd17, cd18, cd19, cd20⟩
            · rintro L a w ⟨b0, b1, b2, b3, b4, b5, b6, b7, b8, b9, b10, b11, b12, b13, b14, b15, b16, b17, b18, b19, b20, x72, x73, x74, x75, x76, x77, x78, x79, x80, x81, x82, x83, x84, x85, x86, x87, x88, x89, x90, x91, x10, rfl, rfl, hb, cd0, cd1, cd2, cd3, cd4, cd5, cd6, cd7, cd8, cd9, cd10, cd11, cd12, cd13, cd14, cd15, cd16, cd17, cd18, cd19, cd20⟩ hf hd
              have hf' : b1 = false := hf
              subst hf'
              clear hf hd
              try simp only [List.setIfInBounds_toArray, List.set_cons_zero, List.set_cons_succ]
              intro K hK
              rw [if_pos (by rfl)]
              go_simp
              exact hK.out _ _ ⟨b0, true, b2, b3, b4, b5, b6, b7, b8, b9, b10, b11, b12, b13, b14, b15, b16, b17, b18, b19, b20, x72, (.int .i64 sq), x74, x75, x76, x77, x78, x79, x80, x81, x82, x83, x84, x85, x86, x87, x88, x89, x90, x91, x10, (by simp only [Act.put, List.setIfInBounds_toArray, List.set_cons_zero, List.set_cons_succ]), (by simp only [Act.put, List.setIfInBounds_toArray, List.set_cons_zero, List.set_cons_succ]), hb, cd0, (fun _ => rfl), cd2, cd3, cd4, cd5, cd6, cd7, cd8, cd9, cd10, cd11, cd12, cd13, cd14, cd15, cd16, cd17, cd18, cd19, cd20⟩
            · rintro L a w ⟨b0, b1, b2, b3, b4, b5, b6, b7, b8, b9, b10, b11, b12, b13, b14, b15, b16, b17, b18, b19, b20, x72, x73, x74, x75, x76, x77, x78, x79, x80, x81, x82, x83, x84, x85, x86, x87, x88, x89, x90, x91, x10, rfl, rfl, hb, cd0, cd1, cd2, cd3, cd4, cd5, cd6, cd7, cd8, cd9, cd10, cd11, cd12, cd13, cd14, cd15, cd16, cd17, cd18, cd19, cd20⟩ hf hd
              have hf' : b2 = false := hf
              subst hf'
              clear hf hd
              try simp only [List.setIfInBounds_toArray, List.set_cons_zero, List.set_cons_succ]
              have z0 := (hb.cell hpa).trans ea0
              have z1 := (hb.cell hpa).trans ea1
              have z2 := (hb.cell hpa).trans ea2
              intro K hK
              rw [if_pos (by rfl)]
              go_simp
              exact hK.out _ _ ⟨b0, b1, true, b3, b4, b5, b6, b7, b8, b9, b10, b11, b12, b13, b14, b15, b16, b17, b18, b19, b20, x72, x73, (.agg #[.string TA, .int .i64 1, .slice (some ⟨gv, 0, none⟩) 1 1]), x75, x76, x77, x78, x79, x80, x81, x82, x83, x84, x85, x86, x87, x88, x89, x90, x91, x10, (by simp only [Act.put, List.setIfInBounds_toArray, List.set_cons_zero, List.set_cons_succ]), (by simp only [Act.put, List.setIfInBounds_toArray, List.set_cons_zero, List.set_cons_succ]), hb, cd0, cd1, (fun _ => rfl), cd3, cd4, cd5, cd6, cd7, cd8, cd9, cd10, cd11, cd12, cd13, cd14, cd15, cd16, cd17, cd18, cd19, cd20⟩
            · rintro L a w ⟨b0, b1, b2, b3, b4, b5, b6, b7, b8, b9, b10, b11, b12, b13, b14, b15, b16, b17, b18, b19, b20, x72, x73, x74, x75, x76, x77, x78, x79, x80, x81, x82, x83, x84, x85, x86, x87, x88, x89, x90, x91, x10, rfl, rfl, hb, cd0, cd1, cd2, cd3, cd4, cd5, cd6, cd7, cd8, cd9, cd10, cd11, cd12, cd13, cd14, cd15, cd16, cd17, cd18, cd19, cd20⟩ hf hd
              have hf' : b3 = false := hf
              subst hf'
              have d0 : b0 = true := hd ⟨0, .data⟩ (by simp) rfl
              subst d0
              have d1 : b1 = true := hd ⟨1, .data⟩ (by simp) rfl
              subst d1
              have d2 : b2 = true := hd ⟨2, .data⟩ (by simp) rfl
              subst d2
              obtain rfl := cd0.out rfl
              obtain rfl := cd1.out rfl
              obtain rfl := cd2.out rfl
              clear hf hd
              try simp only [List.setIfInBounds_toArray, List.set_cons_zero, List.set_cons_succ]
              intro K hK
              rw [if_pos (by rfl)]
              go_simp
              go_at_call 11
              refine (HL1 _ hb).mono ?_
              rintro e w' ⟨rfl, bx⟩
              exact hK.out _ _ ⟨true, true, true, true, b4, b5, b6, b7, b8, b9, b10, b11, b12, b13, b14, b15, b16, b17, b18, b19, b20, .int .i64 tx, .int .i64 sq, .agg #[.string TA, .int .i64 1, .slice (some ⟨gv, 0, none⟩) 1 1], (.agg HA), x76, x77, x78, x79, x80, x81, x82, x83, x84, x85, x86, x87, x88, x89, x90, x91, x10, (by simp only [Act.put, List.setIfInBounds_toArray, List.set_cons_zero, List.set_cons_succ]), (by simp only [Act.put, List.setIfInBounds_toArray, List.set_cons_zero, List.set_cons_succ]), hb.trans (bx.mono (Nat.le_trans hB0 hb.size)), (fun _ => rfl), (fun _ => rfl), (fun _ => rfl), (fun _ => rfl), cd4, cd5, cd6, cd7, cd8, cd9, cd10, cd11, cd12, cd13, cd14, cd15, cd16, cd17, cd18, cd19, cd20⟩
            · rintro L a w ⟨b0, b1, b2, b3, b4, b5, b6, b7, b8, b9, b10, b11, b12, b13, b14, b15, b16, b17, b18, b19, b20, x72, x73, x74, x75, x76, x77, x78, x79, x80, x81, x82, x83, x84, x85, x86, x87, x88, x89, x90, x91, x10, rfl, rfl, hb, cd0, cd1, cd2, cd3, cd4, cd5, cd6, cd7, cd8, cd9, cd10, cd11, cd12, cd13, cd14, cd15, cd16, cd17, cd18, cd19, cd20⟩ hf hd
              have hf' : b4 = false := hf
              subst hf'
              clear hf hd
              try simp only [List.setIfInBounds_toArray, List.set_cons_zero, List.set_cons_succ]
              intro K hK
              rw [if_pos (by rfl)]
              go_simp
              exact hK.out _ _ ⟨b0, b1, b2, b3, true, b5, b6, b7, b8, b9, b10, b11, b12, b13, b14, b15, b16, b17, b18, b19, b20, x72, x73, x74, x75, (.int .i64 I), x77, x78, x79, x80, x81, x82, x83, x84, x85, x86, x87, x88, x89, x90, x91, x10, (by simp only [Act.put, List.setIfInBounds_toArray, List.set_cons_zero, List.set_cons_succ]), (by simp only [Act.put, List.setIfInBounds_toArray, List.set_cons_zero, List.set_cons_succ]), hb, cd0, cd1, cd2, cd3, (fun _ => rfl), cd5, cd6, cd7, cd8, cd9, cd10, cd11, cd12, cd13, cd14, cd15, cd16, cd17, cd18, cd19, cd20⟩
            · rintro L a w ⟨b0, b1, b2, b3, b4, b5, b6, b7, b8, b9, b10, b11, b12, b13, b14, b15, b16, b17, b18, b19, b20, x72, x73, x74, x75, x76, x77, x78, x79, x80, x81, x82, x83, x84, x85, x86, x87, x88, x89, x90, x91, x10, rfl, rfl, hb, cd0, cd1, cd2, cd3, cd4, cd5, cd6, cd7, cd8, cd9, cd10, cd11, cd12, cd13, cd14, cd15, cd16, cd17, cd18, cd19, cd20⟩ hf hd
              have hf' : b5 = false := hf
              subst hf'
              clear hf hd
              try simp only [List.setIfInBounds_toArray, List.set_cons_zero, List.set_cons_succ]
              intro K hK
              rw [if_pos (by rfl)]
              go_simp
              exact hK.out _ _ ⟨b0, b1, b2, b3, b4, true, b6, b7, b8, b9, b10, b11, b12, b13, b14, b15, b16, b17, b18, b19, b20, x72, x73, x74, x75, x76, (.int .i64 K9), x78, x79, x80, x81, x82, x83, x84, x85, x86, x87, x88, x89, x90, x91, x10, (by simp only [Act.put, List.setIfInBounds_toArray, List.set_cons_zero, List.set_cons_succ]), (by simp only [Act.put, List.setIfInBounds_toArray, List.set_cons_zero, List.set_cons_succ]), hb, cd0, cd1, cd2, cd3, cd4, (fun _ => rfl), cd6, cd7, cd8, cd9, cd10, cd11, cd12, cd13, cd14, cd15, cd16, cd17, cd18, cd19, cd20⟩
            · rintro L a w ⟨b0, b1, b2, b3, b4, b5, b6, b7, b8, b9, b10, b11, b12, b13, b14, b15, b16, b17, b18, b19, b20, x72, x73, x74, x75, x76, x77, x78, x79, x80, x81, x82, x83, x84, x85, x86, x87, x88, x89, x90, x91, x10, rfl, rfl, hb, cd0, cd1, cd2, cd3, cd4, cd5, cd6, cd7, cd8, cd9, cd10, cd11, cd12, cd13, cd14, cd15, cd16, cd17, cd18, cd19, cd20⟩ hf hd
              have hf' : b6 = false := hf
              subst hf'
              clear hf hd
              try simp only [List.setIfInBounds_toArray, List.set_cons_zero, List.set_cons_succ]
              have z0 := (hb.cell hpb).trans eb0
              have z1 := (hb.cell hpb).trans eb1
              have z2 := (hb.cell hpb).trans eb2
              intro K hK
              rw [if_pos (by rfl)]
              go_simp
              exact hK.out _ _ ⟨b0, b1, b2, b3, b4, b5, true, b7, b8, b9, b10, b11, b12, b13, b14, b15, b16, b17, b18, b19, b20, x72, x73, x74, x75, x76, x77, (.agg #[.string cb, .int .i64 co, .slice va vn vc]), x79, x80, x81, x82, x83, x84, x85, x86, x87, x88, x89, x90, x91, x10, (by simp only [Act.put, List.setIfInBounds_toArray, List.set_cons_zero, List.set_cons_succ]), (by simp only [Act.put, List.setIfInBounds_toArray, List.set_cons_zero, List.set_cons_succ]), hb, cd0, cd1, cd2, cd3, cd4, cd5, (fun _ => rfl), cd7, cd8, cd9, cd10, cd11, cd12, cd13, cd14, cd15, cd16, cd17, cd18, cd19, cd20⟩
            · rintro L a w ⟨b0, b1, b2, b3, b4, b5, b6, b7, b8, b9, b10, b11, b12, b13, b14, b15, b16, b17, b18, b19, b20, x72, x73, x74, x75, x76, x77, x78, x79, x80, x81, x82, x83, x84, x85, x86, x87, x88, x89, x90, x91, x10, rfl, rfl, hb, cd0, cd1, cd2, cd3, cd4, cd5, cd6, cd7, cd8, cd9, cd10, cd11, cd12, cd13, cd14, cd15, cd16, cd17, cd18, cd19, cd20⟩ hf hd
              have hf' : b7 = false := hf
              subst hf'
              have d4 : b4 = true := hd ⟨4, .data⟩ (by simp) rfl
              subst d4
              have d5 : b5 = true := hd ⟨5, .data⟩ (by simp) rfl
              subst d5
              have d6 : b6 = true := hd ⟨6, .data⟩ (by simp) rfl
              subst d6
              have d3 : b3 = true := hd ⟨3, .chain⟩ (by simp) rfl
              subst d3
              obtain rfl := cd4.out rfl
              obtain rfl := cd5.out rfl
              obtain rfl := cd6.out rfl
              obtain rfl := cd3.out rfl
              clear hf hd
              try simp only [List.setIfInBounds_toArray, List.set_cons_zero, List.set_cons_succ]
              intro K hK
              rw [if_pos (by rfl)]
              go_simp
              go_at_call 11
              refine (HL2 _ hb).mono ?_
              rintro e w' ⟨rfl, bx⟩
              exact hK.out _ _ ⟨b0, b1, b2, true, true, true, true, true, b8, b9, b10, b11, b12, b13, b14, b15, b16, b17, b18, b19, b20, x72, x73, x74, .agg HA, .int .i64 I, .int .i64 K9, .agg #[.string cb, .int .i64 co, .slice va vn vc], (.agg HA), x80, x81, x82, x83, x84, x85, x86, x87, x88, x89, x90, x91, x10, (by simp only [Act.put, List.setIfInBounds_toArray, List.set_cons_zero, List.set_cons_succ]), (by simp only [Act.put, List.setIfInBounds_toArray, List.set_cons_zero, List.set_cons_succ]), hb.trans (bx.mono (Nat.le_trans hB0 hb.size)), cd0, cd1, cd2, (fun _ => rfl), (fun _ => rfl), (fun _ => rfl), (fun _ => rfl), (fun _ => rfl), cd8, cd9, cd10, cd11, cd12, cd13, cd14, cd15, cd16, cd17, cd18, cd19, cd20⟩
            · rintro L a w ⟨b0, b1, b2, b3, b4, b5, b6, b7, b8, b9, b10, b11, b12, b13, b14, b15, b16, b17, b18, b19, b20, x72, x73, x74, x75, x76, x77, x78, x79, x80, x81, x82, x83, x84, x85, x86, x87, x88, x89, x90, x91, x10, rfl, rfl, hb, cd0, cd1, cd2, cd3, cd4, cd5, cd6, cd7, cd8, cd9, cd10, cd11, cd12, cd13, cd14, cd15, cd16, cd17, cd18, cd19, cd20⟩ hf hd
              have hf' : b8 = false := hf
              subst hf'
              have d3 : b3 = true := hd ⟨3, .data⟩ (by simp) rfl
              subst d3
              have d7 : b7 = true := hd ⟨7, .data⟩ (by simp) rfl
              subst d7
              obtain rfl := cd3.out rfl
              obtain rfl := cd7.out rfl
              clear hf hd
              try simp only [List.setIfInBounds_toArray, List.set_cons_zero, List.set_cons_succ]
              intro K hK
              rw [if_pos (by rfl)]
              go_simp
              exact hK.out _ _ ⟨b0, b1, b2, true, b4, b5, b6, true, true, b9, b10, b11, b12, b13, b14, b15, b16, b17, b18, b19, b20, x72, x73, x74, .agg HA, x76, x77, x78, .agg HA, (.bool false), x81, x82, x83, x84, x85, x86, x87, x88, x89, x90, x91, x10, (by simp only [Act.put, List.setIfInBounds_toArray, List.set_cons_zero, List.set_cons_succ]), (by simp only [Act.put, List.setIfInBounds_toArray, List.set_cons_zero, List.set_cons_succ]), hb, cd0, cd1, cd2, (fun _ => rfl), cd4, cd5, cd6, (fun _ => rfl), (fun _ => rfl), cd9, cd10, cd11, cd12, cd13, cd14, cd15, cd16, cd17, cd18, cd19, cd20⟩
            · rintro L a w ⟨b0, b1, b2, b3, b4, b5, b6, b7, b8, b9, b10, b11, b12, b13, b14, b15, b16, b17, b18, b19, b20, x72, x73, x74, x75, x76, x77, x78, x79, x80, x81, x82, x83, x84, x85, x86, x87, x88, x89, x90, x91, x10, rfl, rfl, hb, cd0, cd1, cd2, cd3, cd4, cd5, cd6, cd7, cd8, cd9, cd10, cd11, cd12, cd13, cd14, cd15, cd16, cd17, cd18, cd19, cd20⟩ hf hd
              have hf' : b9 = false := hf
              subst hf'
              have d8 : b8 = true := hd ⟨8, .data⟩ (by simp) rfl
              subst d8
              have d7 : b7 = true := hd ⟨7, .chain⟩ (by simp) rfl
              subst d7
              obtain rfl := cd8.out rfl
              obtain rfl := cd7.out rfl
              clear hf hd
              try simp only [List.setIfInBounds_toArray, List.set_cons_zero, List.set_cons_succ]
              intro K hK
              rw [if_pos (by rfl)]
              go_simp
              exact hK.out _ _ ⟨b0, b1, b2, b3, b4, b5, b6, true, true, true, b10, b11, b12, b13, b14, b15, b16, b17, b18, b19, b20, x72, x73, x74, x75, x76, x77, x78, .agg HA, .bool false, (.bool false), x82, x83, x84, x85, x86, x87, x88, x89, x90, x91, x10, (by simp only [Act.put, List.setIfInBounds_toArray, List.set_cons_zero, List.set_cons_succ]), (by simp only [Act.put, List.setIfInBounds_toArray, List.set_cons_zero, List.set_cons_succ]), hb, cd0, cd1, cd2, cd3, cd4, cd5, cd6, (fun _ => rfl), (fun _ => rfl), (fun _ => rfl), cd10, cd11, cd12, cd13, cd14, cd15, cd16, cd17, cd18, cd19, cd20⟩
            · rintro L a w ⟨b0, b1, b2, b3, b4, b5, b6, b7, b8, b9, b10, b11, b12, b13, b14, b15, b16, b17, b18, b19, b20, x72, x73, x74, x75, x76, x77, x78, x79, x80, x81, x82, x83, x84, x85, x86, x87, x88, x89, x90, x91, x10, rfl, rfl, hb, cd0, cd1, cd2, cd3, cd4, cd5, cd6, cd7, cd8, cd9, cd10, cd11, cd12, cd13, cd14, cd15, cd16, cd17, cd18, cd19, cd20⟩ hf hd
              have hf' : b10 = false := hf
              subst hf'
              have d9 : b9 = true := hd ⟨9, .guard⟩ (by simp) rfl
              subst d9
              obtain rfl := cd9.out rfl
              clear hf hd
              try simp only [List.setIfInBounds_toArray, List.set_cons_zero, List.set_cons_succ]
              intro K hK
              rw [if_pos (by rfl)]
              go_simp
              exact hK.out _ _ ⟨b0, b1, b2, b3, b4, b5, b6, b7, b8, true, true, b11, b12, b13, b14, b15, b16, b17, b18, b19, b20, x72, x73, x74, x75, x76, x77, x78, x79, x80, .bool false, (.int .i64 tx), x83, x84, x85, x86, x87, x88, x89, x90, x91, x10, (by simp only [Act.put, List.setIfInBounds_toArray, List.set_cons_zero, List.set_cons_succ]), (by simp only [Act.put, List.setIfInBounds_toArray, List.set_cons_zero, List.set_cons_succ]), hb, cd0, cd1, cd2, cd3, cd4, cd5, cd6, cd7, cd8, (fun _ => rfl), (fun _ => rfl), cd11, cd12, cd13, cd14, cd15, cd16, cd17, cd18, cd19, cd20⟩
            · rintro L a w ⟨b0, b1, b2, b3, b4, b5, b6, b7, b8, b9, b10, b11, b12, b13, b14, b15, b16, b17, b18, b19, b20, x72, x73, x74, x75, x76, x77, x78, x79, x80, x81, x82, x83, x84, x85, x86, x87, x88, x89, x90, x91, x10, rfl, rfl, hb, cd0, cd1, cd2, cd3, cd4, cd5, cd6, cd7, cd8, cd9, cd10, cd11, cd12, cd13, cd14, cd15, cd16, cd17, cd18, cd19, cd20⟩ hf hd
              have hf' : b11 = false := hf
              subst hf'
              have d9 : b9 = true := hd ⟨9, .guard⟩ (by simp) rfl
              subst d9
              obtain rfl := cd9.out rfl
              clear hf hd
              try simp only [List.setIfInBounds_toArray, List.set_cons_zero, List.set_cons_succ]
              intro K hK
              rw [if_pos (by rfl)]
              go_simp
              exact hK.out _ _ ⟨b0, b1, b2, b3, b4, b5, b6, b7, b8, true, b10, true, b12, b13, b14, b15, b16, b17, b18, b19, b20, x72, x73, x74, x75, x76, x77, x78, x79, x80, .bool false, x82, (.int .i64 sq), x84, x85, x86, x87, x88, x89, x90, x91, x10, (by simp only [Act.put, List.setIfInBounds_toArray, List.set_cons_zero, List.set_cons_succ]), (by simp only [Act.put, List.setIfInBounds_toArray, List.set_cons_zero, List.set_cons_succ]), hb, cd0, cd1, cd2, cd3, cd4, cd5, cd6, cd7, cd8, (fun _ => rfl), cd10, (fun _ => rfl), cd12, cd13, cd14, cd15, cd16, cd17, cd18, cd19, cd20⟩
            · rintro L a w ⟨b0, b1, b2, b3, b4, b5, b6, b7, b8, b9, b10, b11, b12, b13, b14, b15, b16, b17, b18, b19, b20, x72, x73, x74, x75, x76, x77, x78, x79, x80, x81, x82, x83, x84, x85, x86, x87, x88, x89, x90, x91, x10, rfl, rfl, hb, cd0, cd1, cd2, cd3, cd4, cd5, cd6, cd7, cd8, cd9, cd10, cd11, cd12, cd13, cd14, cd15, cd16, cd17, cd18, cd19, cd20⟩ hf hd
              have hf' : b12 = false := hf
              subst hf'
              have d9 : b9 = true := hd ⟨9, .guard⟩ (by simp) rfl
              subst d9
              obtain rfl := cd9.out rfl
              clear hf hd
              try simp only [List.setIfInBounds_toArray, List.set_cons_zero, List.set_cons_succ]
              have z0 := (hb.cell hpa).trans ea0
              have z1 := (hb.cell hpa).trans ea1
              have z2 := (hb.cell hpa).trans ea2
              intro K hK
              rw [if_pos (by rfl)]
              go_simp
              exact hK.out _ _ ⟨b0, b1, b2, b3, b4, b5, b6, b7, b8, true, b10, b11, true, b13, b14, b15, b16, b17, b18, b19, b20, x72, x73, x74, x75, x76, x77, x78, x79, x80, .bool false, x82, x83, (.agg #[.string TA, .int .i64 1, .slice (some ⟨gv, 0, none⟩) 1 1]), x85, x86, x87, x88, x89, x90, x91, x10, (by simp only [Act.put, List.setIfInBounds_toArray, List.set_cons_zero, List.set_cons_succ]), (by simp only [Act.put, List.setIfInBounds_toArray, List.set_cons_zero, List.set_cons_succ]), hb, cd0, cd1, cd2, cd3, cd4, cd5, cd6, cd7, cd8, (fun _ => rfl), cd10, cd11, (fun _ => rfl), cd13, cd14, cd15, cd16, cd17, cd18, cd19, cd20⟩
            · rintro L a w ⟨b0, b1, b2, b3, b4, b5, b6, b7, b8, b9, b10, b11, b12, b13, b14, b15, b16, b17, b18, b19, b20, x72, x73, x74, x75, x76, x77, x78, x79, x80, x81, x82, x83, x84, x85, x86, x87, x88, x89, x90, x91, x10, rfl, rfl, hb, cd0, cd1, cd2, cd3, cd4, cd5, cd6, cd7, cd8, cd9, cd10, cd11, cd12, cd13, cd14, cd15, cd16, cd17, cd18, cd19, cd20⟩ hf hd
              have hf' : b13 = false := hf
              subst hf'
              have d10 : b10 = true := hd ⟨10, .data⟩ (by simp) rfl
              subst d10
              have d11 : b11 = true := hd ⟨11, .data⟩ (by simp) rfl
              subst d11
              have d12 : b12 = true := hd ⟨12, .data⟩ (by simp) rfl
              subst d12
              have d9 : b9 = true := hd ⟨9, .chain⟩ (by simp) rfl
              subst d9
              obtain rfl := cd10.out rfl
              obtain rfl := cd11.out rfl
              obtain rfl := cd12.out rfl
              obtain rfl := cd9.out rfl
              clear hf hd
              try simp only [List.setIfInBounds_toArray, List.set_cons_zero, List.set_cons_succ]
              intro K hK
              rw [if_pos (by rfl)]
              go_simp
              go_at_call 12
              refine (HR1 _ hb).mono ?_
              rintro e w' ⟨rfl, bx⟩
              exact hK.out _ _ ⟨b0, b1, b2, b3, b4, b5, b6, b7, b8, true, true, true, true, true, b14, b15, b16, b17, b18, b19, b20, x72, x73, x74, x75, x76, x77, x78, x79, x80, .bool false, .int .i64 tx, .int .i64 sq, .agg #[.string TA, .int .i64 1, .slice (some ⟨gv, 0, none⟩) 1 1], (.agg HA), x86, x87, x88, x89, x90, x91, x10, (by simp only [Act.put, List.setIfInBounds_toArray, List.set_cons_zero, List.set_cons_succ]), (by simp only [Act.put, List.setIfInBounds_toArray, List.set_cons_zero, List.set_cons_succ]), hb.trans (bx.mono (Nat.le_trans hB0 hb.size)), cd0, cd1, cd2, cd3, cd4, cd5, cd6, cd7, cd8, (fun _ => rfl), (fun _ => rfl), (fun _ => rfl), (fun _ => rfl), (fun _ => rfl), cd14, cd15, cd16, cd17, cd18, cd19, cd20⟩
            · rintro L a w ⟨b0, b1, b2, b3, b4, b5, b6, b7, b8, b9, b10, b11, b12, b13, b14, b15, b16, b17, b18, b19, b20, x72, x73, x74, x75, x76, x77, x78, x79, x80, x81, x82, x83, x84, x85, x86, x87, x88, x89, x90, x91, x10, rfl, rfl, hb, cd0, cd1, cd2, cd3, cd4, cd5, cd6, cd7, cd8, cd9, cd10, cd11, cd12, cd13, cd14, cd15, cd16, cd17, cd18, cd19, cd20⟩ hf hd
              have hf' : b14 = false := hf
              subst hf'
              have d9 : b9 = true := hd ⟨9, .guard⟩ (by simp) rfl
              subst d9
              obtain rfl := cd9.out rfl
              clear hf hd
              try simp only [List.setIfInBounds_toArray, List.set_cons_zero, List.set_cons_succ]
              intro K hK
              rw [if_pos (by rfl)]
              go_simp
              exact hK.out _ _ ⟨b0, b1, b2, b3, b4, b5, b6, b7, b8, true, b10, b11, b12, b13, true, b15, b16, b17, b18, b19, b20, x72, x73, x74, x75, x76, x77, x78, x79, x80, .bool false, x82, x83, x84, x85, (.int .i64 I), x87, x88, x89, x90, x91, x10, (by simp only [Act.put, List.setIfInBounds_toArray, List.set_cons_zero, List.set_cons_succ]), (by simp only [Act.put, List.setIfInBounds_toArray, List.set_cons_zero, List.set_cons_succ]), hb, cd0, cd1, cd2, cd3, cd4, cd5, cd6, cd7, cd8, (fun _ => rfl), cd10, cd11, cd12, cd13, (fun _ => rfl), cd15, cd16, cd17, cd18, cd19, cd20⟩
            · rintro L a w ⟨b0, b1, b2, b3, b4, b5, b6, b7, b8, b9, b10, b11, b12, b13, b14, b15, b16, b17, b18, b19, b20, x72, x73, x74, x75, x76, x77, x78, x79, x80, x81, x82, x83, x84, x85, x86, x87, x88, x89, x90, x91, x10, rfl, rfl, hb, cd0, cd1, cd2, cd3, cd4, cd5, cd6, cd7, cd8, cd9, cd10, cd11, cd12, cd13, cd14, cd15, cd16, cd17, cd18, cd19, cd20⟩ hf hd
              have hf' : b15 = false := hf
              subst hf'
              have d9 : b9 = true := hd ⟨9, .guard⟩ (by simp) rfl
              subst d9
              obtain rfl := cd9.out rfl
              clear hf hd
              try simp only [List.setIfInBounds_toArray, List.set_cons_zero, List.set_cons_succ]
              intro K hK
              rw [if_pos (by rfl)]
              go_simp
              exact hK.out _ _ ⟨b0, b1, b2, b3, b4, b5, b6, b7, b8, true, b10, b11, b12, b13, b14, true, b16, b17, b18, b19, b20, x72, x73, x74, x75, x76, x77, x78, x79, x80, .bool false, x82, x83, x84, x85, x86, (.int .i64 K9), x88, x89, x90, x91, x10, (by simp only [Act.put, List.setIfInBounds_toArray, List.set_cons_zero, List.set_cons_succ]), (by simp only [Act.put, List.setIfInBounds_toArray, List.set_cons_zero, List.set_cons_succ]), hb, cd0, cd1, cd2, cd3, cd4, cd5, cd6, cd7, cd8, (fun _ => rfl), cd10, cd11, cd12, cd13, cd14, (fun _ => rfl), cd16, cd17, cd18, cd19, cd20⟩
            · rintro L a w ⟨b0, b1, b2, b3, b4, b5, b6, b7, b8, b9, b10, b11, b12, b13, b14, b15, b16, b17, b18, b19, b20, x72, x73, x74, x75, x76, x77, x78, x79, x80, x81, x82, x83, x84, x85, x86, x87, x88, x89, x90, x91, x10, rfl, rfl, hb, cd0, cd1, cd2, cd3, cd4, cd5, cd6, cd7, cd8, cd9, cd10, cd11, cd12, cd13, cd14, cd15, cd16, cd17, cd18, cd19, cd20⟩ hf hd
              have hf' : b16 = false := hf
              subst hf'
              have d9 : b9 = true := hd ⟨9, .guard⟩ (by simp) rfl
              subst d9
              obtain rfl := cd9.out rfl
              clear hf hd
              try simp only [List.setIfInBounds_toArray, List.set_cons_zero, List.set_cons_succ]
              have z0 := (hb.cell hpb).trans eb0
              have z1 := (hb.cell hpb).trans eb1
              have z2 := (hb.cell hpb).trans eb2
              intro K hK
              rw [if_pos (by rfl)]
              go_simp
              exact hK.out _ _ ⟨b0, b1, b2, b3, b4, b5, b6, b7, b8, true, b10, b11, b12, b13, b14, b15, true, b17, b18, b19, b20, x72, x73, x74, x75, x76, x77, x78, x79, x80, .bool false, x82, x83, x84, x85, x86, x87, (.agg #[.string cb, .int .i64 co, .slice va vn vc]), x89, x90, x91, x10, (by simp only [Act.put, List.setIfInBounds_toArray, List.set_cons_zero, List.set_cons_succ]), (by simp only [Act.put, List.setIfInBounds_toArray, List.set_cons_zero, List.set_cons_succ]), hb, cd0, cd1, cd2, cd3, cd4, cd5, cd6, cd7, cd8, (fun _ => rfl), cd10, cd11, cd12, cd13, cd14, cd15, (fun _ => rfl), cd17, cd18, cd19, cd20⟩
            · rintro L a w ⟨b0, b1, b2, b3, b4, b5, b6, b7, b8, b9, b10, b11, b12, b13, b14, b15, b16, b17, b18, b19, b20, x72, x73, x74, x75, x76, x77, x78, x79, x80, x81, x82, x83, x84, x85, x86, x87, x88, x89, x90, x91, x10, rfl, rfl, hb, cd0, cd1, cd2, cd3, cd4, cd5, cd6, cd7, cd8, cd9, cd10, cd11, cd12, cd13, cd14, cd15, cd16, cd17, cd18, cd19, cd20⟩ hf hd
              have hf' : b17 = false := hf
              subst hf'
              have d14 : b14 = true := hd ⟨14, .data⟩ (by simp) rfl
              subst d14
              have d15 : b15 = true := hd ⟨15, .data⟩ (by simp) rfl
              subst d15
              have d16 : b16 = true := hd ⟨16, .data⟩ (by simp) rfl
              subst d16
              have d13 : b13 = true := hd ⟨13, .chain⟩ (by simp) rfl
              subst d13
              have d9 : b9 = true := hd ⟨9, .guard⟩ (by simp) rfl
              subst d9
              obtain rfl := cd14.out rfl
              obtain rfl := cd15.out rfl
              obtain rfl := cd16.out rfl
              obtain rfl := cd13.out rfl
              obtain rfl := cd9.out rfl
              clear hf hd
              try simp only [List.setIfInBounds_toArray, List.set_cons_zero, List.set_cons_succ]
              intro K hK
              rw [if_pos (by rfl)]
              go_simp
              go_at_call 12
              refine (HR3 _ hb).mono ?_
              rintro e w' ⟨rfl, bx⟩
              exact hK.out _ _ ⟨b0, b1, b2, b3, b4, b5, b6, b7, b8, true, b10, b11, b12, true, true, true, true, true, b18, b19, b20, x72, x73, x74, x75, x76, x77, x78, x79, x80, .bool false, x82, x83, x84, .agg HA, .int .i64 I, .int .i64 K9, .agg #[.string cb, .int .i64 co, .slice va vn vc], (.agg HA), x90, x91, x10, (by simp only [Act.put, List.setIfInBounds_toArray, List.set_cons_zero, List.set_cons_succ]), (by simp only [Act.put, List.setIfInBounds_toArray, List.set_cons_zero, List.set_cons_succ]), hb.trans (bx.mono (Nat.le_trans hB0 hb.size)), cd0, cd1, cd2, cd3, cd4, cd5, cd6, cd7, cd8, (fun _ => rfl), cd10, cd11, cd12, (fun _ => rfl), (fun _ => rfl), (fun _ => rfl), (fun _ => rfl), (fun _ => rfl), cd18, cd19, cd20⟩
            · rintro L a w ⟨b0, b1, b2, b3, b4, b5, b6, b7, b8, b9, b10, b11, b12, b13, b14, b15, b16, b17, b18, b19, b20, x72, x73, x74, x75, x76, x77, x78, x79, x80, x81, x82, x83, x84, x85, x86, x87, x88, x89, x90, x91, x10, rfl, rfl, hb, cd0, cd1, cd2, cd3, cd4, cd5, cd6, cd7, cd8, cd9, cd10, cd11, cd12, cd13, cd14, cd15, cd16, cd17, cd18, cd19, cd20⟩ hf hd
              have hf' : b18 = false := hf
              subst hf'
              have d13 : b13 = true := hd ⟨13, .data⟩ (by simp) rfl
              subst d13
              have d17 : b17 = true := hd ⟨17, .data⟩ (by simp) rfl
              subst d17
              have d9 : b9 = true := hd ⟨9, .guard⟩ (by simp) rfl
              subst d9
              obtain rfl := cd13.out rfl
              obtain rfl := cd17.out rfl
              obtain rfl := cd9.out rfl
              clear hf hd
              try simp only [List.setIfInBounds_toArray, List.set_cons_zero, List.set_cons_succ]
              intro K hK
              rw [if_pos (by rfl)]
              go_simp
              exact hK.out _ _ ⟨b0, b1, b2, b3, b4, b5, b6, b7, b8, true, b10, b11, b12, true, b14, b15, b16, true, true, b19, b20, x72, x73, x74, x75, x76, x77, x78, x79, x80, .bool false, x82, x83, x84, .agg HA, x86, x87, x88, .agg HA, (.bool true), x91, x10, (by simp only [Act.put, List.setIfInBounds_toArray, List.set_cons_zero, List.set_cons_succ]), (by simp only [Act.put, List.setIfInBounds_toArray, List.set_cons_zero, List.set_cons_succ]), hb, cd0, cd1, cd2, cd3, cd4, cd5, cd6, cd7, cd8, (fun _ => rfl), cd10, cd11, cd12, (fun _ => rfl), cd14, cd15, cd16, (fun _ => rfl), (fun _ => rfl), cd19, cd20⟩
            · rintro L a w ⟨b0, b1, b2, b3, b4, b5, b6, b7, b8, b9, b10, b11, b12, b13, b14, b15, b16, b17, b18, b19, b20, x72, x73, x74, x75, x76, x77, x78, x79, x80, x81, x82, x83, x84, x85, x86, x87, x88, x89, x90, x91, x10, rfl, rfl, hb, cd0, cd1, cd2, cd3, cd4, cd5, cd6, cd7, cd8, cd9, cd10, cd11, cd12, cd13, cd14, cd15, cd16, cd17, cd18, cd19, cd20⟩ hf hd
              have hf' : b19 = false := hf
              subst hf'
              have d9 : b9 = true := hd ⟨9, .data⟩ (by simp) rfl
              subst d9
              have d18 : b18 = true := hd ⟨18, .data⟩ (by simp) rfl
              subst d18
              obtain rfl := cd9.out rfl
              obtain rfl := cd18.out rfl
              clear hf hd
              try simp only [List.setIfInBounds_toArray, List.set_cons_zero, List.set_cons_succ]
              intro K hK
              rw [if_pos (by rfl)]
              go_simp
              exact hK.out _ _ ⟨b0, b1, b2, b3, b4, b5, b6, b7, b8, true, b10, b11, b12, b13, b14, b15, b16, b17, true, true, b20, x72, x73, x74, x75, x76, x77, x78, x79, x80, .bool false, x82, x83, x84, x85, x86, x87, x88, x89, .bool true, (.bool true), x10, (by simp only [Act.put, List.setIfInBounds_toArray, List.set_cons_zero, List.set_cons_succ]), (by simp only [Act.put, List.setIfInBounds_toArray, List.set_cons_zero, List.set_cons_succ]), hb, cd0, cd1, cd2, cd3, cd4, cd5, cd6, cd7, cd8, (fun _ => rfl), cd10, cd11, cd12, cd13, cd14, cd15, cd16, cd17, (fun _ => rfl), (fun _ => rfl), cd20⟩
            · rintro L a w ⟨b0, b1, b2, b3, b4, b5, b6, b7, b8, b9, b10, b11, b12, b13, b14, b15, b16, b17, b18, b19, b20, x72, x73, x74, x75, x76, x77, x78, x79, x80, x81, x82, x83, x84, x85, x86, x87, x88, x89, x90, x91, x10, rfl, rfl, hb, cd0, cd1, cd2, cd3, cd4, cd5, cd6, cd7, cd8, cd9, cd10, cd11, cd12, cd13, cd14, cd15, cd16, cd17, cd18, cd19, cd20⟩ hf hd
              have hf' : b20 = false := hf
              subst hf'
              have d19 : b19 = true := hd ⟨19, .data⟩ (by simp) rfl
              subst d19
              have d17 : b17 = true := hd ⟨17, .chain⟩ (by simp) rfl
              subst d17
              have d0 : b0 = true := hd ⟨0, .phase⟩ (by simp) rfl
              subst d0
              have d1 : b1 = true := hd ⟨1, .phase⟩ (by simp) rfl
              subst d1
              have d2 : b2 = true := hd ⟨2, .phase⟩ (by simp) rfl
              subst d2
              have d3 : b3 = true := hd ⟨3, .phase⟩ (by simp) rfl
              subst d3
              have d4 : b4 = true := hd ⟨4, .phase⟩ (by simp) rfl
              subst d4
              have d5 : b5 = true := hd ⟨5, .phase⟩ (by simp) rfl
              subst d5
              have d6 : b6 = true := hd ⟨6, .phase⟩ (by simp) rfl
              subst d6
              have d7 : b7 = true := hd ⟨7, .phase⟩ (by simp) rfl
              subst d7
              have d8 : b8 = true := hd ⟨8, .phase⟩ (by simp) rfl
              subst d8
              have d9 : b9 = true := hd ⟨9, .phase⟩ (by simp) rfl
              subst d9
              have d10 : b10 = true := hd ⟨10, .phase⟩ (by simp) rfl
              subst d10
              have d11 : b11 = true := hd ⟨11, .phase⟩ (by simp) rfl
              subst d11
              have d12 : b12 = true := hd ⟨12, .phase⟩ (by simp) rfl
              subst d12
              have d13 : b13 = true := hd ⟨13, .phase⟩ (by simp) rfl
              subst d13
              have d14 : b14 = true := hd ⟨14, .phase⟩ (by simp) rfl
              subst d14
              have d15 : b15 = true := hd ⟨15, .phase⟩ (by simp) rfl
              subst d15
              have d16 : b16 = true := hd ⟨16, .phase⟩ (by simp) rfl
              subst d16
              have d18 : b18 = true := hd ⟨18, .phase⟩ (by simp) rfl
              subst d18
              obtain rfl := cd19.out rfl
              obtain rfl := cd17.out rfl
              obtain rfl := cd0.out rfl
              obtain rfl := cd1.out rfl
              obtain rfl := cd2.out rfl
              obtain rfl := cd3.out rfl
              obtain rfl := cd4.out rfl
              obtain rfl := cd5.out rfl
              obtain rfl := cd6.out rfl
              obtain rfl := cd7.out rfl
              obtain rfl := cd8.out rfl
              obtain rfl := cd9.out rfl
              obtain rfl := cd10.out rfl
              obtain rfl := cd11.out rfl
              obtain rfl := cd12.out rfl
              obtain rfl := cd13.out rfl
              obtain rfl := cd14.out rfl
              obtain rfl := cd15.out rfl
              obtain rfl := cd16.out rfl
              obtain rfl := cd18.out rfl
              clear hf hd
              try simp only [List.setIfInBounds_toArray, List.set_cons_zero, List.set_cons_succ]
              intro K hK
              rw [if_pos (by rfl)]
              go_simp
              exact hK.out _ _ ⟨true, true, true, true, true, true, true, true, true, true, true, true, true, true, true, true, true, true, true, true, true, .int .i64 tx, .int .i64 sq, .agg #[.string TA, .int .i64 1, .slice (some ⟨gv, 0, none⟩) 1 1], .agg HA, .int .i64 I, .int .i64 K9, .agg #[.string cb, .int .i64 co, .slice va vn vc], .agg HA, .bool false, .bool false, .int .i64 tx, .int .i64 sq, .agg #[.string TA, .int .i64 1, .slice (some ⟨gv, 0, none⟩) 1 1], .agg HA, .int .i64 I, .int .i64 K9, .agg #[.string cb, .int .i64 co, .slice va vn vc], .agg HA, .bool true, .bool true, (.bool true), (by simp only [Act.put, List.setIfInBounds_toArray, List.set_cons_zero, List.set_cons_succ]), (by simp only [Act.put, List.setIfInBounds_toArray, List.set_cons_zero, List.set_cons_succ]), hb, (fun _ => rfl), (fun _ => rfl), (fun _ => rfl), (fun _ => rfl), (fun _ => rfl), (fun _ => rfl), (fun _ => rfl), (fun _ => rfl), (fun _ => rfl), (fun _ => rfl), (fun _ => rfl), (fun _ => rfl), (fun _ => rfl), (fun _ => rfl), (fun _ => rfl), (fun _ => rfl), (fun _ => rfl), (fun _ => rfl), (fun _ => rfl), (fun _ => rfl), (fun _ => rfl)⟩
          · rintro act V ⟨b0, b1, b2, b3, b4, b5, b6, b7, b8, b9, b10, b11, b12, b13, b14, b15, b16, b17, b18, b19, b20, x72, x73, x74, x75, x76, x77, x78, x79, x80, x81, x82, x83, x84, x85, x86, x87, x88, x89, x90, x91, x10, hL, rfl, hb, cd0, cd1, cd2, cd3, cd4, cd5, cd6, cd7, cd8, cd9, cd10, cd11, cd12, cd13, cd14, cd15, cd16, cd17, cd18, cd19, cd20⟩
            have hL' : [true, true, true, true, true, true, true, true, true, true, true, true, true, true, true, true, true, true, true, true, true] = [b0, b1, b2, b3, b4, b5, b6, b7, b8, b9, b10, b11, b12, b13, b14, b15, b16, b17, b18, b19, b20] := congrArg Array.toList hL
            simp only [List.cons.injEq, and_true] at hL'
            obtain ⟨rfl, rfl, rfl, rfl, rfl, rfl, rfl, rfl, rfl, rfl, rfl, rfl, rfl, rfl, rfl, rfl, rfl, rfl, rfl, rfl, rfl⟩ := hL'
            obtain rfl := cd0.out rfl
            obtain rfl := cd1.out rfl
            obtain rfl := cd2.out rfl
            obtain rfl := cd3.out rfl
            obtain rfl := cd4.out rfl
            obtain rfl := cd5.out rfl
            obtain rfl := cd6.out rfl
            obtain rfl := cd7.out rfl
            obtain rfl := cd8.out rfl
            obtain rfl := cd9.out rfl
            obtain rfl := cd10.out rfl
            obtain rfl := cd11.out rfl
            obtain rfl := cd12.out rfl
            obtain rfl := cd13.out rfl
            obtain rfl := cd14.out rfl
            obtain rfl := cd15.out rfl
            obtain rfl := cd16.out rfl
            obtain rfl := cd17.out rfl
            obtain rfl := cd18.out rfl
            obtain rfl := cd19.out rfl
            obtain rfl := cd20.out rfl
            clear hL cd0 cd1 cd2 cd3 cd4 cd5 cd6 cd7 cd8 cd9 cd10 cd11 cd12 cd13 cd14 cd15 cd16 cd17 cd18 cd19 cd20
            simp only [List.setIfInBounds_toArray, List.set_cons_zero, List.set_cons_succ]
            have BV : Below W2.heap.size W2 V := by rw [HR2.out]; exact (Below.refl _ _).drew.trans hb
            clear hb
            go_wp2_with fail
            go_ret
            exact ⟨rfl, BW2.trans (BV.mono BW2.size)⟩
        · have hne : (RA == RB) = false := by simpa using heq
          simp only [hne] at qH
          obtain ⟨HA, hHA⟩ : ∃ x, (bcs RA).toArray = x := ⟨_, rfl⟩
          obtain ⟨HB, hHB⟩ : ∃ x, (bcs RB).toArray = x := ⟨_, rfl⟩
          simp only [hHA, hHB] at qH HL10 HL20
          have HL1 : ∀ (w' : World) (hb : Below r2 W2.drew w'), Calls Tryd.prog 11 #[.int .i64 tx, .int .i64 sq, .agg #[.string TA, .int .i64 1, .slice (some ⟨gv, 0, none⟩) 1 1]] w' fun e w2 => e = .returned (.agg HA) ∧ Below w'.heap.size w' w2 := HL10
          have HL2 : ∀ (w' : World) (hb : Below r2 W2.drew w'), Calls Tryd.prog 11 #[.int .i64 I, .int .i64 K9, .agg #[.string cb, .int .i64 co, .slice va vn vc]] w' fun e w2 => e = .returned (.agg HB) ∧ Below w'.heap.size w' w2 := HL20
          clear HL10 HL20 HR10 HR30 hla hlb hHA hHB hokA hokB heq
          refine region_inv (LAp23n r2 pa pb tx sq I K9 TA gv cb co va vn vc HA HB) (by kernel_rfl) (by kernel_rfl) ?_ ?_ ?_
          · exact ⟨false, false, false, false, false, false, false, false, false, false, false, false, false, false, false, false, false, false, false, false, false, undef, undef, undef, undef, undef, undef, undef, undef, undef, undef, undef, undef, undef, undef, undef, undef, undef, undef, undef, undef, .bool false, rfl, (by simp only [Act.put, List.setIfInBounds_toArray, List.set_cons_zero, List.set_cons_succ]), Below.refl _ _, (fun h => by cases h), (fun h => by cases h), (fun h => by cases h), (fun h => by cases h), (fun h => by cases h), (fun h => by cases h), (fun h => by cases h), (fun h => by cases h), (fun h => by cases h), (fun h => by cases h), (fun h => by cases h), (fun h => by cases h), (fun h => by cases h), (fun h => by cases h), (fun h => by cases h), (fun h => by cases h), (fun h => by cases h), (fun h => by cases h), (fun h => by cases h), (fun h => by cases h), (fun h => by cases h)⟩
          · refine ⟨?_, ?_, ?_, ?_, ?_, ?_, ?_, ?_, ?_, ?_, ?_, ?_, ?_, ?_, ?_, ?_, ?_, ?_, ?_, ?_, ?_, trivial⟩
            · rintro L a w ⟨b0, b1, b2, b3, b4, b5, b6, b7, b8, b9, b10, b11, b12, b13, b14, b15, b16, b17, b18, b19, b20, x72, x73, x74, x75, x76, x77, x78, x79, x80, x81, x82, x83, x84, x85, x86, x87, x88, x89, x90, x91, x10, rfl, rfl, hb, cd0, cd1, cd2, cd3, cd4, cd5, cd6, cd7, cd8, cd9, cd10, cd11, cd12, cd13, cd14, cd15, cd16, cd17, cd18, cd19, cd20⟩ hf hd
              have hf' : b0 = false := hf
              subst hf'
              clear hf hd
              try simp only [List.setIfInBounds_toArray, List.set_cons_zero, List.set_cons_succ]
              intro K hK
              rw [if_pos (by rfl)]
              go_simp
              exact hK.out _ _ ⟨true, b1, b2, b3, b4, b5, b6, b7, b8, b9, b10, b11, b12, b13, b14, b15, b16, b17, b18, b19, b20, (.int .i64 tx), x73, x74, x75, x76, x77, x78, x79, x80, x81, x82, x83, x84, x85, x86, x87, x88, x89, x90, x91, x10, (by simp only [Act.put, List.setIfInBounds_toArray, List.set_cons_zero, List.set_cons_succ]), (by simp only [Act.put, List.setIfInBounds_toArray, List.set_cons_zero, List.set_cons_succ]), hb, (fun _ => rfl), cd1, cd2, cd3, cd4, cd5, cd6, cd7, cd8, cd9, cd10, cd11, cd12, cd13, cd14, cd15, cd16, cd17, cd18, cd19, cd20⟩
            · rintro L a w ⟨b0, b1, b2, b3, b4, b5, b6, b7, b8, b9, b10, b11, b12, b13, b14, b15, b16, b17, b18, b19, b20, x72, x73, x74, x75, x76, x77, x78, x79, x80, x81, x82, x83, x84, x85, x86, x87, x88, x89, x90, x91, x10, rfl, rfl, hb, cd0, cd1, cd2, cd3, cd4, cd5, cd6, cd7, cd8, cd9, cd10, cd11, cd12, cd13, cd14, cd15, cd16, cd17, cd18, cd19, cd20⟩ hf hd
              have hf' : b1 = false := hf
              subst hf'
              clear hf hd
              try simp only [List.setIfInBounds_toArray, List.set_cons_zero, List.set_cons_succ]
              intro K hK
              rw [if_pos (by rfl)]
              go_simp
              exact hK.out _ _ ⟨b0, true, b2, b3, b4, b5, b6, b7, b8, b9, b10, b11, b12, b13, b14, b15, b16, b17, b18, b19, b20, x72, (.int .i64 sq), x74, x75, x76, x77, x78, x79, x80, x81, x82, x83, x84, x85, x86, x87, x88, x89, x90, x91, x10, (by simp only [Act.put, List.setIfInBounds_toArray, List.set_cons_zero, List.set_cons_succ]), (by simp only [Act.put, List.setIfInBounds_toArray, List.set_cons_zero, List.set_cons_succ]), hb, cd0, (fun _ => rfl), cd2, cd3, cd4, cd5, cd6, cd7, cd8, cd9, cd10, cd11, cd12, cd13, cd14, cd15, cd16, cd17, cd18, cd19, cd20⟩
            · rintro L a w ⟨b0, b1, b2, b3, b4, b5, b6, b7, b8, b9, b10, b11, b12, b13, b14, b15, b16, b17, b18, b19, b20, x72, x73, x74, x75, x76, x77, x78, x79, x80, x81, x82, x83, x84, x85, x86, x87, x88, x89, x90, x91, x10, rfl, rfl, hb, cd0, cd1, cd2, cd3, cd4, cd5, cd6, cd7, cd8, cd9, cd10, cd11, cd12, cd13, cd14, cd15, cd16, cd17, cd18, cd19, cd20⟩ hf hd
              have hf' : b2 = false := hf
              subst hf'
              clear hf hd
              try simp only [List.setIfInBounds_toArray, List.set_cons_zero, List.set_cons_succ]
              have z0 := (hb.cell hpa).trans ea0
              have z1 := (hb.cell hpa).trans ea1
              have z2 := (hb.cell hpa).trans ea2
              intro K hK
              rw [if_pos (by rfl)]
              go_simp
              exact hK.out _ _ ⟨b0, b1, true, b3, b4, b5, b6, b7, b8, b9, b10, b11, b12, b13, b14, b15, b16, b17, b18, b19, b20, x72, x73, (.agg #[.string TA, .int .i64 1, .slice (some ⟨gv, 0, none⟩) 1 1]), x75, x76, x77, x78, x79, x80, x81, x82, x83, x84, x85, x86, x87, x88, x89, x90, x91, x10, (by simp only [Act.put, List.setIfInBounds_toArray, List.set_cons_zero, List.set_cons_succ]), (by simp only [Act.put, List.setIfInBounds_toArray, List.set_cons_zero, List.set_cons_succ]), hb, cd0, cd1, (fun _ => rfl), cd3, cd4, cd5, cd6, cd7, cd8, cd9, cd10, cd11, cd12, cd13, cd14, cd15, cd16, cd17, cd18, cd19, cd20⟩
            · rintro L a w ⟨b0, b1, b2, b3, b4, b5, b6, b7, b8, b9, b10, b11, b12, b13, b14, b15, b16, b17, b18, b19, b20, x72, x73, x74, x75, x76, x77, x78, x79, x80, x81, x82, x83, x84, x85, x86, x87, x88, x89, x90, x91, x10, rfl, rfl, hb, cd0, cd1, cd2, cd3, cd4, cd5, cd6, cd7, cd8, cd9, cd10, cd11, cd12, cd13, cd14, cd15, cd16, cd17, cd18, cd19, cd20⟩ hf hd
              have hf' : b3 = false := hf
              subst hf'
              have d0 : b0 = true := hd ⟨0, .data⟩ (by simp) rfl
              subst d0
              have d1 : b1 = true := hd ⟨1, .data⟩ (by simp) rfl
              subst d1
              have d2 : b2 = true := hd ⟨2, .data⟩ (by simp) rfl
              subst d2
              obtain rfl := cd0.out rfl
              obtain rfl := cd1.out rfl
              obtain rfl := cd2.out rfl
              clear hf hd
              try simp only [List.setIfInBounds_toArray, List.set_cons_zero, List.set_cons_succ]
              intro K hK
              rw [if_pos (by rfl)]
              go_simp
              go_at_call 11
              refine (HL1 _ hb).mono ?_
              rintro e w' ⟨rfl, bx⟩
              exact hK.out _ _ ⟨true, true, true, true, b4, b5, b6, b7, b8, b9, b10, b11, b12, b13, b14, b15, b16, b17, b18, b19, b20, .int .i64 tx, .int .i64 sq, .agg #[.string TA, .int .i64 1, .slice (some ⟨gv, 0, none⟩) 1 1], (.agg HA), x76, x77, x78, x79, x80, x81, x82, x83, x84, x85, x86, x87, x88, x89, x90, x91, x10, (by simp only [Act.put, List.setIfInBounds_toArray, List.set_cons_zero, List.set_cons_succ]), (by simp only [Act.put, List.setIfInBounds_toArray, List.set_cons_zero, List.set_cons_succ]), hb.trans (bx.mono (Nat.le_trans hB0 hb.size)), (fun _ => rfl), (fun _ => rfl), (fun _ => rfl), (fun _ => rfl), cd4, cd5, cd6, cd7, cd8, cd9, cd10, cd11, cd12, cd13, cd14, cd15, cd16, cd17, cd18, cd19, cd20⟩
            · rintro L a w ⟨b0, b1, b2, b3, b4, b5, b6, b7, b8, b9, b10, b11, b12, b13, b14, b15, b16, b17, b18, b19, b20, x72, x73, x74, x75, x76, x77, x78, x79, x80, x81, x82, x83, x84, x85, x86, x87, x88, x89, x90, x91, x10, rfl, rfl, hb, cd0, cd1, cd2, cd3, cd4, cd5, cd6, cd7, cd8, cd9, cd10, cd11, cd12, cd13, cd14, cd15, cd16, cd17, cd18, cd19, cd20⟩ hf hd
              have hf' : b4 = false := hf
              subst hf'
              clear hf hd
              try simp only [List.setIfInBounds_toArray, List.set_cons_zero, List.set_cons_succ]
              intro K hK
              rw [if_pos (by rfl)]
              go_simp
              exact hK.out _ _ ⟨b0, b1, b2, b3, true, b5, b6, b7, b8, b9, b10, b11, b12, b13, b14, b15, b16, b17, b18, b19, b20, x72, x73, x74, x75, (.int .i64 I), x77, x78, x79, x80, x81, x82, x83, x84, x85, x86, x87, x88, x89, x90, x91, x10, (by simp only [Act.put, List.setIfInBounds_toArray, List.set_cons_zero, List.set_cons_succ]), (by simp only [Act.put, List.setIfInBounds_toArray, List.set_cons_zero, List.set_cons_succ]), hb, cd0, cd1, cd2, cd3, (fun _ => rfl), cd5, cd6, cd7, cd8, cd9, cd10, cd11, cd12, cd13, cd14, cd15, cd16, cd17, cd18, cd19, cd20⟩
            · rintro L a w ⟨b0, b1, b2, b3, b4, b5, b6, b7, b8, b9, b10, b11, b12, b13, b14, b15, b16, b17, b18, b19, b20, x72, x73, x74, x75, x76, x77, x78, x79, x80, x81, x82, x83, x84, x85, x86, x87, x88, x89, x90, x91, x10, rfl, rfl, hb, cd0, cd1, cd2, cd3, cd4, cd5, cd6, cd7, cd8, cd9, cd10, cd11, cd12, cd13, cd14, cd15, cd16, cd17, cd18, cd19, cd20⟩ hf hd
              have hf' : b5 = false := hf
              subst hf'
              clear hf hd
              try simp only [List.setIfInBounds_toArray, List.set_cons_zero, List.set_cons_succ]
              intro K hK
              rw [if_pos (by rfl)]
              go_simp
              exact hK.out _ _ ⟨b0, b1, b2, b3, b4, true, b6, b7, b8, b9, b10, b11, b12, b13, b14, b15, b16, b17, b18, b19, b20, x72, x73, x74, x75, x76, (.int .i64 K9), x78, x79, x80, x81, x82, x83, x84, x85, x86, x87, x88, x89, x90, x91, x10, (by simp only [Act.put, List.setIfInBounds_toArray, List.set_cons_zero, List.set_cons_succ]), (by simp only [Act.put, List.setIfInBounds_toArray, List.set_cons_zero, List.set_cons_succ]), hb, cd0, cd1, cd2, cd3, cd4, (fun _ => rfl), cd6, cd7, cd8, cd9, cd10, cd11, cd12, cd13, cd14, cd15, cd16, cd17, cd18, cd19, cd20⟩
            · rintro L a w ⟨b0, b1, b2, b3, b4, b5, b6, b7, b8, b9, b10, b11, b12, b13, b14, b15, b16, b17, b18, b19, b20, x72, x73, x74, x75, x76, x77, x78, x79, x80, x81, x82, x83, x84, x85, x86, x87, x88, x89, x90, x91, x10, rfl, rfl, hb, cd0, cd1, cd2, cd3, cd4, cd5, cd6, cd7, cd8, cd9, cd10, cd11, cd12, cd13, cd14, cd15, cd16, cd17, cd18, cd19, cd20⟩ hf hd
              have hf' : b6 = false := hf
              subst hf'
              clear hf hd
              try simp only [List.setIfInBounds_toArray, List.set_cons_zero, List.set_cons_succ]
              have z0 := (hb.cell hpb).trans eb0
              have z1 := (hb.cell hpb).trans eb1
              have z2 := (hb.cell hpb).trans eb2
              intro K hK
              rw [if_pos (by rfl)]
              go_simp
              exact hK.out _ _ ⟨b0, b1, b2, b3, b4, b5, true, b7, b8, b9, b10, b11, b12, b13, b14, b15, b16, b17, b18, b19, b20, x72, x73, x74, x75, x76, x77, (.agg #[.string cb, .int .i64 co, .slice va vn vc]), x79, x80, x81, x82, x83, x84, x85, x86, x87, x88, x89, x90, x91, x10, (by simp only [Act.put, List.setIfInBounds_toArray, List.set_cons_zero, List.set_cons_succ]), (by simp only [Act.put, List.setIfInBounds_toArray, List.set_cons_zero, List.set_cons_succ]), hb, cd0, cd1, cd2, cd3, cd4, cd5, (fun _ => rfl), cd7, cd8, cd9, cd10, cd11, cd12, cd13, cd14, cd15, cd16, cd17, cd18, cd19, cd20⟩
            · rintro L a w ⟨b0, b1, b2, b3, b4, b5, b6, b7, b8, b9, b10, b11, b12, b13, b14, b15, b16, b17, b18, b19, b20, x72, x73, x74, x75, x76, x77, x78, x79, x80, x81, x82, x83, x84, x85, x86, x87, x88, x89, x90, x91, x10, rfl, rfl, hb, cd0, cd1, cd2, cd3, cd4, cd5, cd6, cd7, cd8, cd9, cd10, cd11, cd12, cd13, cd14, cd15, cd16, cd17, cd18, cd19, cd20⟩ hf hd
              have hf' : b7 = false := hf
              subst hf'
              have d4 : b4 = true := hd ⟨4, .data⟩ (by simp) rfl
              subst d4
              have d5 : b5 = true := hd ⟨5, .data⟩ (by simp) rfl
              subst d5
              have d6 : b6 = true := hd ⟨6, .data⟩ (by simp) rfl
              subst d6
              have d3 : b3 = true := hd ⟨3, .chain⟩ (by simp) rfl
              subst d3
              obtain rfl := cd4.out rfl
              obtain rfl := cd5.out rfl
              obtain rfl := cd6.out rfl
              obtain rfl := cd3.out rfl
              clear hf hd
              try simp only [List.setIfInBounds_toArray, List.set_cons_zero, List.set_cons_succ]
              intro K hK
              rw [if_pos (by rfl)]
              go_simp
              go_at_call 11
              refine (HL2 _ hb).mono ?_
              rintro e w' ⟨rfl, bx⟩
              exact hK.out _ _ ⟨b0, b1, b2, true, true, true, true, true, b8, b9, b10, b11, b12, b13, b14, b15, b16, b17, b18, b19, b20, x72, x73, x74, .agg HA, .int .i64 I, .int .i64 K9, .agg #[.string cb, .int .i64 co, .slice va vn vc], (.agg HB), x80, x81, x82, x83, x84, x85, x86, x87, x88, x89, x90, x91, x10, (by simp only [Act.put, List.setIfInBounds_toArray, List.set_cons_zero, List.set_cons_succ]), (by simp only [Act.put, List.setIfInBounds_toArray, List.set_cons_zero, List.set_cons_succ]), hb.trans (bx.mono (Nat.le_trans hB0 hb.size)), cd0, cd1, cd2, (fun _ => rfl), (fun _ => rfl), (fun _ => rfl), (fun _ => rfl), (fun _ => rfl), cd8, cd9, cd10, cd11, cd12, cd13, cd14, cd15, cd16, cd17, cd18, cd19, cd20⟩
            · rintro L a w ⟨b0, b1, b2, b3, b4, b5, b6, b7, b8, b9, b10, b11, b12, b13, b14, b15, b16, b17, b18, b19, b20, x72, x73, x74, x75, x76, x77, x78, x79, x80, x81, x82, x83, x84, x85, x86, x87, x88, x89, x90, x91, x10, rfl, rfl, hb, cd0, cd1, cd2, cd3, cd4, cd5, cd6, cd7, cd8, cd9, cd10, cd11, cd12, cd13, cd14, cd15, cd16, cd17, cd18, cd19, cd20⟩ hf hd
              have hf' : b8 = false := hf
              subst hf'
              have d3 : b3 = true := hd ⟨3, .data⟩ (by simp) rfl
              subst d3
              have d7 : b7 = true := hd ⟨7, .data⟩ (by simp) rfl
              subst d7
              obtain rfl := cd3.out rfl
              obtain rfl := cd7.out rfl
              clear hf hd
              try simp only [List.setIfInBounds_toArray, List.set_cons_zero, List.set_cons_succ]
              intro K hK
              rw [if_pos (by rfl)]
              go_simp
              exact hK.out _ _ ⟨b0, b1, b2, true, b4, b5, b6, true, true, b9, b10, b11, b12, b13, b14, b15, b16, b17, b18, b19, b20, x72, x73, x74, .agg HA, x76, x77, x78, .agg HB, (.bool true), x81, x82, x83, x84, x85, x86, x87, x88, x89, x90, x91, x10, (by simp only [Act.put, List.setIfInBounds_toArray, List.set_cons_zero, List.set_cons_succ]), (by simp only [Act.put, List.setIfInBounds_toArray, List.set_cons_zero, List.set_cons_succ]), hb, cd0, cd1, cd2, (fun _ => rfl), cd4, cd5, cd6, (fun _ => rfl), (fun _ => rfl), cd9, cd10, cd11, cd12, cd13, cd14, cd15, cd16, cd17, cd18, cd19, cd20⟩
            · rintro L a w ⟨b0, b1, b2, b3, b4, b5, b6, b7, b8, b9, b10, b11, b12, b13, b14, b15, b16, b17, b18, b19, b20, x72, x73, x74, x75, x76, x77, x78, x79, x80, x81, x82, x83, x84, x85, x86, x87, x88, x89, x90, x91, x10, rfl, rfl, hb, cd0, cd1, cd2, cd3, cd4, cd5, cd6, cd7, cd8, cd9, cd10, cd11, cd12, cd13, cd14, cd15, cd16, cd17, cd18, cd19, cd20⟩ hf hd
              have hf' : b9 = false := hf
              subst hf'
              have d8 : b8 = true := hd ⟨8, .data⟩ (by simp) rfl
              subst d8
              have d7 : b7 = true := hd ⟨7, .chain⟩ (by simp) rfl
              subst d7
              obtain rfl := cd8.out rfl
              obtain rfl := cd7.out rfl
              clear hf hd
              try simp only [List.setIfInBounds_toArray, List.set_cons_zero, List.set_cons_succ]
              intro K hK
              rw [if_pos (by rfl)]
              go_simp
              exact hK.out _ _ ⟨b0, b1, b2, b3, b4, b5, b6, true, true, true, b10, b11, b12, b13, b14, b15, b16, b17, b18, b19, b20, x72, x73, x74, x75, x76, x77, x78, .agg HB, .bool true, (.bool true), x82, x83, x84, x85, x86, x87, x88, x89, x90, x91, x10, (by simp only [Act.put, List.setIfInBounds_toArray, List.set_cons_zero, List.set_cons_succ]), (by simp only [Act.put, List.setIfInBounds_toArray, List.set_cons_zero, List.set_cons_succ]), hb, cd0, cd1, cd2, cd3, cd4, cd5, cd6, (fun _ => rfl), (fun _ => rfl), (fun _ => rfl), cd10, cd11, cd12, cd13, cd14, cd15, cd16, cd17, cd18, cd19, cd20⟩
            · rintro L a w ⟨b0, b1, b2, b3, b4, b5, b6, b7, b8, b9, b10, b11, b12, b13, b14, b15, b16, b17, b18, b19, b20, x72, x73, x74, x75, x76, x77, x78, x79, x80, x81, x82, x83, x84, x85, x86, x87, x88, x89, x90, x91, x10, rfl, rfl, hb, cd0, cd1, cd2, cd3, cd4, cd5, cd6, cd7, cd8, cd9, cd10, cd11, cd12, cd13, cd14, cd15, cd16, cd17, cd18, cd19, cd20⟩ hf hd
              have hf' : b10 = false := hf
              subst hf'
              have d9 : b9 = true := hd ⟨9, .guard⟩ (by simp) rfl
              subst d9
              obtain rfl := cd9.out rfl
              clear hf hd
              try simp only [List.setIfInBounds_toArray, List.set_cons_zero, List.set_cons_succ]
              intro K hK
              rw [if_neg (Bool.eq_false_iff.1 (by rfl))]
              exact hK.out _ _ ⟨b0, b1, b2, b3, b4, b5, b6, b7, b8, true, true, b11, b12, b13, b14, b15, b16, b17, b18, b19, b20, x72, x73, x74, x75, x76, x77, x78, x79, x80, .bool true, (undef), x83, x84, x85, x86, x87, x88, x89, x90, x91, x10, (by simp only [Act.put, List.setIfInBounds_toArray, List.set_cons_zero, List.set_cons_succ]), (by simp only [Act.put, List.setIfInBounds_toArray, List.set_cons_zero, List.set_cons_succ]), hb, cd0, cd1, cd2, cd3, cd4, cd5, cd6, cd7, cd8, (fun _ => rfl), (fun _ => rfl), cd11, cd12, cd13, cd14, cd15, cd16, cd17, cd18, cd19, cd20⟩
            · rintro L a w ⟨b0, b1, b2, b3, b4, b5, b6, b7, b8, b9, b10, b11, b12, b13, b14, b15, b16, b17, b18, b19, b20, x72, x73, x74, x75, x76, x77, x78, x79, x80, x81, x82, x83, x84, x85, x86, x87, x88, x89, x90, x91, x10, rfl, rfl, hb, cd0, cd1, cd2, cd3, cd4, cd5, cd6, cd7, cd8, cd9, cd10, cd11, cd12, cd13, cd14, cd15, cd16, cd17, cd18, cd19, cd20⟩ hf hd
              have hf' : b11 = false := hf
              subst hf'
              have d9 : b9 = true := hd ⟨9, .guard⟩ (by simp) rfl
              subst d9
              obtain rfl := cd9.out rfl
              clear hf hd
              try simp only [List.setIfInBounds_toArray, List.set_cons_zero, List.set_cons_succ]
              intro K hK
              rw [if_neg (Bool.eq_false_iff.1 (by rfl))]
              exact hK.out _ _ ⟨b0, b1, b2, b3, b4, b5, b6, b7, b8, true, b10, true, b12, b13, b14, b15, b16, b17, b18, b19, b20, x72, x73, x74, x75, x76, x77, x78, x79, x80, .bool true, x82, (undef), x84, x85, x86, x87, x88, x89, x90, x91, x10, (by simp only [Act.put, List.setIfInBounds_toArray, List.set_cons_zero, List.set_cons_succ]), (by simp only [Act.put, List.setIfInBounds_toArray, List.set_cons_zero, List.set_cons_succ]), hb, cd0, cd1, cd2, cd3, cd4, cd5, cd6, cd7, cd8, (fun _ => rfl), cd10, (fun _ => rfl), cd12, cd13, cd14, cd15, cd16, cd17, cd18, cd19, cd20⟩
            · rintro L a w ⟨b0, b1, b2, b3, b4, b5, b6, b7, b8, b9, b10, b11, b12, b13, b14, b15, b16, b17, b18, b19, b20, x72, x73, x74, x75, x76, x77, x78, x79, x80, x81, x82, x83, x84, x85, x86, x87, x88, x89, x90, x91, x10, rfl, rfl, hb, cd0, cd1, cd2, cd3, cd4, cd5, cd6, cd7, cd8, cd9, cd10, cd11, cd12, cd13, cd14, cd15, cd16, cd17, cd18, cd19, cd20⟩ hf hd
              have hf' : b12 = false := hf
              subst hf'
              have d9 : b9 = true := hd ⟨9, .guard⟩ (by simp) rfl
              subst d9
              obtain rfl := cd9.out rfl
              clear hf hd
              try simp only [List.setIfInBounds_toArray, List.set_cons_zero, List.set_cons_succ]
              intro K hK
              rw [if_neg (Bool.eq_false_iff.1 (by rfl))]
              exact hK.out _ _ ⟨b0, b1, b2, b3, b4, b5, b6, b7, b8, true, b10, b11, true, b13, b14, b15, b16, b17, b18, b19, b20, x72, x73, x74, x75, x76, x77, x78, x79, x80, .bool true, x82, x83, (undef), x85, x86, x87, x88, x89, x90, x91, x10, (by simp only [Act.put, List.setIfInBounds_toArray, List.set_cons_zero, List.set_cons_succ]), (by simp only [Act.put, List.setIfInBounds_toArray, List.set_cons_zero, List.set_cons_succ]), hb, cd0, cd1, cd2, cd3, cd4, cd5, cd6, cd7, cd8, (fun _ => rfl), cd10, cd11, (fun _ => rfl), cd13, cd14, cd15, cd16, cd17, cd18, cd19, cd20⟩
            · rintro L a w ⟨b0, b1, b2, b3, b4, b5, b6, b7, b8, b9, b10, b11, b12, b13, b14, b15, b16, b17, b18, b19, b20, x72, x73, x74, x75, x76, x77, x78, x79, x80, x81, x82, x83, x84, x85, x86, x87, x88, x89, x90, x91, x10, rfl, rfl, hb, cd0, cd1, cd2, cd3, cd4, cd5, cd6, cd7, cd8, cd9, cd10, cd11, cd12, cd13, cd14, cd15, cd16, cd17, cd18, cd19, cd20⟩ hf hd
              have hf' : b13 = false := hf
              subst hf'
              have d10 : b10 = true := hd ⟨10, .data⟩ (by simp) rfl
              subst d10
              have d11 : b11 = true := hd ⟨11, .data⟩ (by simp) rfl
              subst d11
              have d12 : b12 = true := hd ⟨12, .data⟩ (by simp) rfl
              subst d12
              have d9 : b9 = true := hd ⟨9, .chain⟩ (by simp) rfl
              subst d9
              obtain rfl := cd10.out rfl
              obtain rfl := cd11.out rfl
              obtain rfl := cd12.out rfl
              obtain rfl := cd9.out rfl
              clear hf hd
              try simp only [List.setIfInBounds_toArray, List.set_cons_zero, List.set_cons_succ]
              intro K hK
              rw [if_neg (Bool.eq_false_iff.1 (by rfl))]
              exact hK.out _ _ ⟨b0, b1, b2, b3, b4, b5, b6, b7, b8, true, true, true, true, true, b14, b15, b16, b17, b18, b19, b20, x72, x73, x74, x75, x76, x77, x78, x79, x80, .bool true, undef, undef, undef, (undef), x86, x87, x88, x89, x90, x91, x10, (by simp only [Act.put, List.setIfInBounds_toArray, List.set_cons_zero, List.set_cons_succ]), (by simp only [Act.put, List.setIfInBounds_toArray, List.set_cons_zero, List.set_cons_succ]), hb, cd0, cd1, cd2, cd3, cd4, cd5, cd6, cd7, cd8, (fun _ => rfl), (fun _ => rfl), (fun _ => rfl), (fun _ => rfl), (fun _ => rfl), cd14, cd15, cd16, cd17, cd18, cd19, cd20⟩
            · rintro L a w ⟨b0, b1, b2, b3, b4, b5, b6, b7, b8, b9, b10, b11, b12, b13, b14, b15, b16, b17, b18, b19, b20, x72, x73, x74, x75, x76, x77, x78, x79, x80, x81, x82, x83, x84, x85, x86, x87, x88, x89, x90, x91, x10, rfl, rfl, hb, cd0, cd1, cd2, cd3, cd4, cd5, cd6, cd7, cd8, cd9, cd10, cd11, cd12, cd13, cd14, cd15, cd16, cd17, cd18, cd19, cd20⟩ hf hd
              have hf' : b14 = false := hf
              subst hf'
              have d9 : b9 = true := hd ⟨9, .guard⟩ (by simp) rfl
              subst d9
              obtain rfl := cd9.out rfl
              clear hf hd
              try simp only [List.setIfInBounds_toArray, List.set_cons_zero, List.set_cons_succ]
              intro K hK
              rw [if_neg (Bool.eq_false_iff.1 (by rfl))]
              exact hK.out _ _ ⟨b0, b1, b2, b3, b4, b5, b6, b7, b8, true, b10, b11, b12, b13, true, b15, b16, b17, b18, b19, b20, x72, x73, x74, x75, x76, x77, x78, x79, x80, .bool true, x82, x83, x84, x85, (undef), x87, x88, x89, x90, x91, x10, (by simp only [Act.put, List.setIfInBounds_toArray, List.set_cons_zero, List.set_cons_succ]), (by simp only [Act.put, List.setIfInBounds_toArray, List.set_cons_zero, List.set_cons_succ]), hb, cd0, cd1, cd2, cd3, cd4, cd5, cd6, cd7, cd8, (fun _ => rfl), cd10, cd11, cd12, cd13, (fun _ => rfl), cd15, cd16, cd17, cd18, cd19, cd20⟩
            · rintro L a w ⟨b0, b1, b2, b3, b4, b5, b6, b7, b8, b9, b10, b11, b12, b13, b14, b15, b16, b17, b18, b19, b20, x72, x73, x74, x75, x76, x77, x78, x79, x80, x81, x82, x83, x84, x85, x86, x87, x88, x89, x90, x91, x10, rfl, rfl, hb, cd0, cd1, cd2, cd3, cd4, cd5, cd6, cd7, cd8, cd9, cd10, cd11, cd12, cd13, cd14, cd15, cd16, cd17, cd18, cd19, cd20⟩ hf hd
              have hf' : b15 = false := hf
              subst hf'
              have d9 : b9 = true := hd ⟨9, .guard⟩ (by simp) rfl
              subst d9
              obtain rfl := cd9.out rfl
              clear hf hd
              try simp only [List.setIfInBounds_toArray, List.set_cons_zero, List.set_cons_succ]
              intro K hK
              rw [if_neg (Bool.eq_false_iff.1 (by rfl))]
              exact hK.out _ _ ⟨b0, b1, b2, b3, b4, b5, b6, b7, b8, true, b10, b11, b12, b13, b14, true, b16, b17, b18, b19, b20, x72, x73, x74, x75, x76, x77, x78, x79, x80, .bool true, x82, x83, x84, x85, x86, (undef), x88, x89, x90, x91, x10, (by simp only [Act.put, List.setIfInBounds_toArray, List.set_cons_zero, List.set_cons_succ]), (by simp only [Act.put, List.setIfInBounds_toArray, List.set_cons_zero, List.set_cons_succ]), hb, cd0, cd1, cd2, cd3, cd4, cd5, cd6, cd7, cd8, (fun _ => rfl), cd10, cd11, cd12, cd13, cd14, (fun _ => rfl), cd16, cd17, cd18, cd19, cd20⟩
            · rintro L a w ⟨b0, b1, b2, b3, b4, b5, b6, b7, b8, b9, b10, b11, b12, b13, b14, b15, b16, b17, b18, b19, b20, x72, x73, x74, x75, x76, x77, x78, x79, x80, x81, x82, x83, x84, x85, x86, x87, x88, x89, x90, x91, x10, rfl, rfl, hb, cd0, cd1, cd2, cd3, cd4, cd5, cd6, cd7, cd8, cd9, cd10, cd11, cd12, cd13, cd14, cd15, cd16, cd17, cd18, cd19, cd20⟩ hf hd
              have hf' : b16 = false := hf
              subst hf'
              have d9 : b9 = true := hd ⟨9, .guard⟩ (by simp) rfl
              subst d9
              obtain rfl := cd9.out rfl
              clear hf hd
              try simp only [List.setIfInBounds_toArray, List.set_cons_zero, List.set_cons_succ]
              intro K hK
              rw [if_neg (Bool.eq_false_iff.1 (by rfl))]
              exact hK.out _ _ ⟨b0, b1, b2, b3, b4, b5, b6, b7, b8, true, b10, b11, b12, b13, b14, b15, true, b17, b18, b19, b20, x72, x73, x74, x75, x76, x77, x78, x79, x80, .bool true, x82, x83, x84, x85, x86, x87, (undef), x89, x90, x91, x10, (by simp only [Act.put, List.setIfInBounds_toArray, List.set_cons_zero, List.set_cons_succ]), (by simp only [Act.put, List.setIfInBounds_toArray, List.set_cons_zero, List.set_cons_succ]), hb, cd0, cd1, cd2, cd3, cd4, cd5, cd6, cd7, cd8, (fun _ => rfl), cd10, cd11, cd12, cd13, cd14, cd15, (fun _ => rfl), cd17, cd18, cd19, cd20⟩
            · rintro L a w ⟨b0, b1, b2, b3, b4, b5, b6, b7, b8, b9, b10, b11, b12, b13, b14, b15, b16, b17, b18, b19, b20, x72, x73, x74, x75, x76, x77, x78, x79, x80, x81, x82, x83, x84, x85, x86, x87, x88, x89, x90, x91, x10, rfl, rfl, hb, cd0, cd1, cd2, cd3, cd4, cd5, cd6, cd7, cd8, cd9, cd10, cd11, cd12, cd13, cd14, cd15, cd16, cd17, cd18, cd19, cd20⟩ hf hd
              have hf' : b17 = false := hf
              subst hf'
              have d14 : b14 = true := hd ⟨14, .data⟩ (by simp) rfl
              subst d14
              have d15 : b15 = true := hd ⟨15, .data⟩ (by simp) rfl
              subst d15
              have d16 : b16 = true := hd ⟨16, .data⟩ (by simp) rfl
              subst d16
              have d13 : b13 = true := hd ⟨13, .chain⟩ (by simp) rfl
              subst d13
              have d9 : b9 = true := hd ⟨9, .guard⟩ (by simp) rfl
              subst d9
              obtain rfl := cd14.out rfl
              obtain rfl := cd15.out rfl
              obtain rfl := cd16.out rfl
              obtain rfl := cd13.out rfl
              obtain rfl := cd9.out rfl
              clear hf hd
              try simp only [List.setIfInBounds_toArray, List.set_cons_zero, List.set_cons_succ]
              intro K hK
              rw [if_neg (Bool.eq_false_iff.1 (by rfl))]
              exact hK.out _ _ ⟨b0, b1, b2, b3, b4, b5, b6, b7, b8, true, b10, b11, b12, true, true, true, true, true, b18, b19, b20, x72, x73, x74, x75, x76, x77, x78, x79, x80, .bool true, x82, x83, x84, undef, undef, undef, undef, (undef), x90, x91, x10, (by simp only [Act.put, List.setIfInBounds_toArray, List.set_cons_zero, List.set_cons_succ]), (by simp only [Act.put, List.setIfInBounds_toArray, List.set_cons_zero, List.set_cons_succ]), hb, cd0, cd1, cd2, cd3, cd4, cd5, cd6, cd7, cd8, (fun _ => rfl), cd10, cd11, cd12, (fun _ => rfl), (fun _ => rfl), (fun _ => rfl), (fun _ => rfl), (fun _ => rfl), cd18, cd19, cd20⟩
            · rintro L a w ⟨b0, b1, b2, b3, b4, b5, b6, b7, b8, b9, b10, b11, b12, b13, b14, b15, b16, b17, b18, b19, b20, x72, x73, x74, x75, x76, x77, x78, x79, x80, x81, x82, x83, x84, x85, x86, x87, x88, x89, x90, x91, x10, rfl, rfl, hb, cd0, cd1, cd2, cd3, cd4, cd5, cd6, cd7, cd8, cd9, cd10, cd11, cd12, cd13, cd14, cd15, cd16, cd17, cd18, cd19, cd20⟩ hf hd
              have hf' : b18 = false := hf
              subst hf'
              have d13 : b13 = true := hd ⟨13, .data⟩ (by simp) rfl
              subst d13
              have d17 : b17 = true := hd ⟨17, .data⟩ (by simp) rfl
              subst d17
              have d9 : b9 = true := hd ⟨9, .guard⟩ (by simp) rfl
              subst d9
              obtain rfl := cd13.out rfl
              obtain rfl := cd17.out rfl
              obtain rfl := cd9.out rfl
              clear hf hd
              try simp only [List.setIfInBounds_toArray, List.set_cons_zero, List.set_cons_succ]
              intro K hK
              rw [if_neg (Bool.eq_false_iff.1 (by rfl))]
              exact hK.out _ _ ⟨b0, b1, b2, b3, b4, b5, b6, b7, b8, true, b10, b11, b12, true, b14, b15, b16, true, true, b19, b20, x72, x73, x74, x75, x76, x77, x78, x79, x80, .bool true, x82, x83, x84, undef, x86, x87, x88, undef, (undef), x91, x10, (by simp only [Act.put, List.setIfInBounds_toArray, List.set_cons_zero, List.set_cons_succ]), (by simp only [Act.put, List.setIfInBounds_toArray, List.set_cons_zero, List.set_cons_succ]), hb, cd0, cd1, cd2, cd3, cd4, cd5, cd6, cd7, cd8, (fun _ => rfl), cd10, cd11, cd12, (fun _ => rfl), cd14, cd15, cd16, (fun _ => rfl), (fun _ => rfl), cd19, cd20⟩
            · rintro L a w ⟨b0, b1, b2, b3, b4, b5, b6, b7, b8, b9, b10, b11, b12, b13, b14, b15, b16, b17, b18, b19, b20, x72, x73, x74, x75, x76, x77, x78, x79, x80, x81, x82, x83, x84, x85, x86, x87, x88, x89, x90, x91, x10, rfl, rfl, hb, cd0, cd1, cd2, cd3, cd4, cd5, cd6, cd7, cd8, cd9, cd10, cd11, cd12, cd13, cd14, cd15, cd16, cd17, cd18, cd19, cd20⟩ hf hd
              have hf' : b19 = false := hf
              subst hf'
              have d9 : b9 = true := hd ⟨9, .data⟩ (by simp) rfl
              subst d9
              have d18 : b18 = true := hd ⟨18, .data⟩ (by simp) rfl
              subst d18
              obtain rfl := cd9.out rfl
              obtain rfl := cd18.out rfl
              clear hf hd
              try simp only [List.setIfInBounds_toArray, List.set_cons_zero, List.set_cons_succ]
              intro K hK
              rw [if_pos (by rfl)]
              go_simp
              exact hK.out _ _ ⟨b0, b1, b2, b3, b4, b5, b6, b7, b8, true, b10, b11, b12, b13, b14, b15, b16, b17, true, true, b20, x72, x73, x74, x75, x76, x77, x78, x79, x80, .bool true, x82, x83, x84, x85, x86, x87, x88, x89, undef, (.bool true), x10, (by simp only [Act.put, List.setIfInBounds_toArray, List.set_cons_zero, List.set_cons_succ]), (by simp only [Act.put, List.setIfInBounds_toArray, List.set_cons_zero, List.set_cons_succ]), hb, cd0, cd1, cd2, cd3, cd4, cd5, cd6, cd7, cd8, (fun _ => rfl), cd10, cd11, cd12, cd13, cd14, cd15, cd16, cd17, (fun _ => rfl), (fun _ => rfl), cd20⟩
            · rintro L a w ⟨b0, b1, b2, b3, b4, b5, b6, b7, b8, b9, b10, b11, b12, b13, b14, b15, b16, b17, b18, b19, b20, x72, x73, x74, x75, x76, x77, x78, x79, x80, x81, x82, x83, x84, x85, x86, x87, x88, x89, x90, x91, x10, rfl, rfl, hb, cd0, cd1, cd2, cd3, cd4, cd5, cd6, cd7, cd8, cd9, cd10, cd11, cd12, cd13, cd14, cd15, cd16, cd17, cd18, cd19, cd20⟩ hf hd
              have hf' : b20 = false := hf
              subst hf'
              have d19 : b19 = true := hd ⟨19, .data⟩ (by simp) rfl
              subst d19
              have d17 : b17 = true := hd ⟨17, .chain⟩ (by simp) rfl
              subst d17
              have d0 : b0 = true := hd ⟨0, .phase⟩ (by simp) rfl
              subst d0
              have d1 : b1 = true := hd ⟨1, .phase⟩ (by simp) rfl
              subst d1
              have d2 : b2 = true := hd ⟨2, .phase⟩ (by simp) rfl
              subst d2
              have d3 : b3 = true := hd ⟨3, .phase⟩ (by simp) rfl
              subst d3
              have d4 : b4 = true := hd ⟨4, .phase⟩ (by simp) rfl
              subst d4
              have d5 : b5 = true := hd ⟨5, .phase⟩ (by simp) rfl
              subst d5
              have d6 : b6 = true := hd ⟨6, .phase⟩ (by simp) rfl
              subst d6
              have d7 : b7 = true := hd ⟨7, .phase⟩ (by simp) rfl
              subst d7
              have d8 : b8 = true := hd ⟨8, .phase⟩ (by simp) rfl
              subst d8
              have d9 : b9 = true := hd ⟨9, .phase⟩ (by simp) rfl
              subst d9
              have d10 : b10 = true := hd ⟨10, .phase⟩ (by simp) rfl
              subst d10
              have d11 : b11 = true := hd ⟨11, .phase⟩ (by simp) rfl
              subst d11
              have d12 : b12 = true := hd ⟨12, .phase⟩ (by simp) rfl
              subst d12
              have d13 : b13 = true := hd ⟨13, .phase⟩ (by simp) rfl
              subst d13
              have d14 : b14 = true := hd ⟨14, .phase⟩ (by simp) rfl
              subst d14
              have d15 : b15 = true := hd ⟨15, .phase⟩ (by simp) rfl
              subst d15
              have d16 : b16 = true := hd ⟨16, .phase⟩ (by simp) rfl
              subst d16
              have d18 : b18 = true := hd ⟨18, .phase⟩ (by simp) rfl
              subst d18
              obtain rfl := cd19.out rfl
              obtain rfl := cd17.out rfl
              obtain rfl := cd0.out rfl
              obtain rfl := cd1.out rfl
              obtain rfl := cd2.out rfl
              obtain rfl := cd3.out rfl
              obtain rfl := cd4.out rfl
              obtain rfl := cd5.out rfl
              obtain rfl := cd6.out rfl
              obtain rfl := cd7.out rfl
              obtain rfl := cd8.out rfl
              obtain rfl := cd9.out rfl
              obtain rfl := cd10.out rfl
              obtain rfl := cd11.out rfl
              obtain rfl := cd12.out rfl
              obtain rfl := cd13.out rfl
              obtain rfl := cd14.out rfl
              obtain rfl := cd15.out rfl
              obtain rfl := cd16.out rfl
              obtain rfl := cd18.out rfl
              clear hf hd
              try simp only [List.setIfInBounds_toArray, List.set_cons_zero, List.set_cons_succ]
              intro K hK
              rw [if_pos (by rfl)]
              go_simp
              exact hK.out _ _ ⟨true, true, true, true, true, true, true, true, true, true, true, true, true, true, true, true, true, true, true, true, true, .int .i64 tx, .int .i64 sq, .agg #[.string TA, .int .i64 1, .slice (some ⟨gv, 0, none⟩) 1 1], .agg HA, .int .i64 I, .int .i64 K9, .agg #[.string cb, .int .i64 co, .slice va vn vc], .agg HB, .bool true, .bool true, undef, undef, undef, undef, undef, undef, undef, undef, undef, .bool true, (.bool true), (by simp only [Act.put, List.setIfInBounds_toArray, List.set_cons_zero, List.set_cons_succ]), (by simp only [Act.put, List.setIfInBounds_toArray, List.set_cons_zero, List.set_cons_succ]), hb, (fun _ => rfl), (fun _ => rfl), (fun _ => rfl), (fun _ => rfl), (fun _ => rfl), (fun _ => rfl), (fun _ => rfl), (fun _ => rfl), (fun _ => rfl), (fun _ => rfl), (fun _ => rfl), (fun _ => rfl), (fun _ => rfl), (fun _ => rfl), (fun _ => rfl), (fun _ => rfl), (fun _ => rfl), (fun _ => rfl), (fun _ => rfl), (fun _ => rfl), (fun _ => rfl)⟩
          · rintro act V ⟨b0, b1, b2, b3, b4, b5, b6, b7, b8, b9, b10, b11, b12, b13, b14, b15, b16, b17, b18, b19, b20, x72, x73, x74, x75, x76, x77, x78, x79, x80, x81, x82, x83, x84, x85, x86, x87, x88, x89, x90, x91, x10, hL, rfl, hb, cd0, cd1, cd2, cd3, cd4, cd5, cd6, cd7, cd8, cd9, cd10, cd11, cd12, cd13, cd14, cd15, cd16, cd17, cd18, cd19, cd20⟩
            have hL' : [true, true, true, true, true, true, true, true, true, true, true, true, true, true, true, true, true, true, true, true, true] = [b0, b1, b2, b3, b4, b5, b6, b7, b8, b9, b10, b11, b12, b13, b14, b15, b16, b17, b18, b19, b20] := congrArg Array.toList hL
            simp only [List.cons.injEq, and_true] at hL'
            obtain ⟨rfl, rfl, rfl, rfl, rfl, rfl, rfl, rfl, rfl, rfl, rfl, rfl, rfl, rfl, rfl, rfl, rfl, rfl, rfl, rfl, rfl⟩ := hL'
            obtain rfl := cd0.out rfl
            obtain rfl := cd1.out rfl
            obtain rfl := cd2.out rfl
            obtain rfl := cd3.out rfl
            obtain rfl := cd4.out rfl
            obtain rfl := cd5.out rfl
            obtain rfl := cd6.out rfl
            obtain rfl := cd7.out rfl
            obtain rfl := cd8.out rfl
            obtain rfl := cd9.out rfl
            obtain rfl := cd10.out rfl
            obtain rfl := cd11.out rfl
            obtain rfl := cd12.out rfl
            obtain rfl := cd13.out rfl
            obtain rfl := cd14.out rfl
            obtain rfl := cd15.out rfl
            obtain rfl := cd16.out rfl
            obtain rfl := cd17.out rfl
            obtain rfl := cd18.out rfl
            obtain rfl := cd19.out rfl
            obtain rfl := cd20.out rfl
            clear hL cd0 cd1 cd2 cd3 cd4 cd5 cd6 cd7 cd8 cd9 cd10 cd11 cd12 cd13 cd14 cd15 cd16 cd17 cd18 cd19 cd20
            simp only [List.setIfInBounds_toArray, List.set_cons_zero, List.set_cons_succ]
            have BV : Below W2.heap.size W2 V := by rw [HR2.out]; exact (Below.refl _ _).drew.trans hb
            clear hb
            go_wp2_with fail
            go_ret
            exact ⟨rfl, BW2.trans (BV.mono BW2.size)⟩
  · have h40i : (40 : Int) < (s.size : Int) := by omega
    go_wp2_with fail
    go_ret
    exact ⟨rfl, b1⟩
end Go.Proofs.YtdmnjjknkcnkgaaDoor
