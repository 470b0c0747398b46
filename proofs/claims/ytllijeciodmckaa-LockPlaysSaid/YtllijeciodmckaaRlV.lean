/-
  The document's own locks: in, Against, from (by gen_rlv.py).
-/
import Derived.Test.YtllijeciodmckaaRlK
namespace Go.Proofs.Ytllijeciodmckaa
open Go.RowKit
set_option linter.unusedSimpArgs false
theorem not_take {l : List Int} {x y : Int} {j : Nat} (hn : x ∉ l.take j) (hj : l[j]? = some y) (he : y ≠ x) : x ∉ l.take (j + 1) := by
  rw [List.take_add_one, hj]
  simp only [Option.toList_some, List.mem_append, List.mem_singleton, not_or]
  exact ⟨hn, fun e => he e.symm⟩
/-- What stands while the region's operations come up. -/
inductive From13N (B : Nat) (p : Nat) (mb : Nat) (moff : Nat) (mn : Nat) (mc : Nat) (nb : Nat) (noff : Nat) (tn : Nat) (tc : Nat) (q : Nat) (k : Nat) (so : Option Addr) (sn : Nat) (sc : Nat) (ys : Int) (yt : List UInt8) (yx : Bool) (zs : Int) (zt : List UInt8) (zx : Bool) (a0 : Act) (w0 : World) (L : Array Bool) (a : Act) (w : World) : Prop
  | mk (b0 b1 b2 b3 b4 b5 b6 b7 b8 b9 b10 b11 b12 b13 b14 b15 b16 : Bool) (x51 x52 x53 x54 x55 x56 x57 x58 x59 x60 x61 x62 x63 x64 x65 x66 x67 : Value) (hL : L = #[b0, b1, b2, b3, b4, b5, b6, b7, b8, b9, b10, b11, b12, b13, b14, b15, b16]) (ha : a = ⟨(((((((((((((((((a0.tmps.setIfInBounds 51 x51).setIfInBounds 52 x52).setIfInBounds 53 x53).setIfInBounds 54 x54).setIfInBounds 55 x55).setIfInBounds 56 x56).setIfInBounds 57 x57).setIfInBounds 58 x58).setIfInBounds 59 x59).setIfInBounds 60 x60).setIfInBounds 61 x61).setIfInBounds 62 x62).setIfInBounds 63 x63).setIfInBounds 64 x64).setIfInBounds 65 x65).setIfInBounds 66 x66).setIfInBounds 67 x67), a0.defers⟩) (hb : Below B w0 w) (cd0 : Hid (b0 = true → x51 = .pointer (some ⟨p, 1, none⟩))) (cd1 : Hid (b1 = true → x52 = .slice (some ⟨mb, moff, none⟩) mn mc)) (cd2 : Hid (b2 = true → x53 = .int .i64 (q : Nat))) (cd3 : Hid (b3 = true → x54 = .pointer (some ⟨mb, moff + q * 3, none⟩))) (cd4 : Hid (b4 = true → x55 = .agg #[.int .i64 ys, .string (bsOf yt), .bool yx])) (cd5 : Hid (b5 = true → x56 = .pointer (some ⟨p, 0, none⟩))) (cd6 : Hid (b6 = true → x57 = .slice (some ⟨nb, noff, none⟩) tn tc)) (cd7 : Hid (b7 = true → x58 = .int .i64 (k : Nat))) (cd8 : Hid (b8 = true → x59 = .pointer (some ⟨nb, noff + k * 3, none⟩))) (cd9 : Hid (b9 = true → x60 = .agg #[.int .i64 zs, .string (bsOf zt), .bool zx])) (cd10 : Hid (b10 = true → x61 = .bool false)) (cd11 : Hid (b11 = true → x62 = .bool false)) (cd12 : Hid (b12 = true → x63 = undef)) (cd13 : Hid (b13 = true → x64 = undef)) (cd14 : Hid (b14 = true → x65 = undef)) (cd15 : Hid (b15 = true → x66 = undef)) (cd16 : Hid (b16 = true → x67 = .bool false)) : From13N B p mb moff mn mc nb noff tn tc q k so sn sc ys yt yx zs zt zx a0 w0 L a w

/-- What stands while the region's operations come up. -/
inductive From13I (B : Nat) (p : Nat) (mb : Nat) (moff : Nat) (mn : Nat) (mc : Nat) (nb : Nat) (noff : Nat) (tn : Nat) (tc : Nat) (q : Nat) (k : Nat) (so : Option Addr) (sn : Nat) (sc : Nat) (ys : Int) (yt : List UInt8) (yx : Bool) (zs : Int) (zt : List UInt8) (zx : Bool) (a0 : Act) (w0 : World) (L : Array Bool) (a : Act) (w : World) : Prop
  | mk (b0 b1 b2 b3 b4 b5 b6 b7 b8 b9 b10 b11 b12 b13 b14 b15 b16 : Bool) (x51 x52 x53 x54 x55 x56 x57 x58 x59 x60 x61 x62 x63 x64 x65 x66 x67 : Value) (hL : L = #[b0, b1, b2, b3, b4, b5, b6, b7, b8, b9, b10, b11, b12, b13, b14, b15, b16]) (ha : a = ⟨(((((((((((((((((a0.tmps.setIfInBounds 51 x51).setIfInBounds 52 x52).setIfInBounds 53 x53).setIfInBounds 54 x54).setIfInBounds 55 x55).setIfInBounds 56 x56).setIfInBounds 57 x57).setIfInBounds 58 x58).setIfInBounds 59 x59).setIfInBounds 60 x60).setIfInBounds 61 x61).setIfInBounds 62 x62).setIfInBounds 63 x63).setIfInBounds 64 x64).setIfInBounds 65 x65).setIfInBounds 66 x66).setIfInBounds 67 x67), a0.defers⟩) (hb : Below B w0 w) (cd0 : Hid (b0 = true → x51 = .pointer (some ⟨p, 1, none⟩))) (cd1 : Hid (b1 = true → x52 = .slice (some ⟨mb, moff, none⟩) mn mc)) (cd2 : Hid (b2 = true → x53 = .int .i64 (q : Nat))) (cd3 : Hid (b3 = true → x54 = .pointer (some ⟨mb, moff + q * 3, none⟩))) (cd4 : Hid (b4 = true → x55 = .agg #[.int .i64 ys, .string (bsOf yt), .bool yx])) (cd5 : Hid (b5 = true → x56 = .pointer (some ⟨p, 0, none⟩))) (cd6 : Hid (b6 = true → x57 = .slice (some ⟨nb, noff, none⟩) tn tc)) (cd7 : Hid (b7 = true → x58 = .int .i64 (k : Nat))) (cd8 : Hid (b8 = true → x59 = .pointer (some ⟨nb, noff + k * 3, none⟩))) (cd9 : Hid (b9 = true → x60 = .agg #[.int .i64 zs, .string (bsOf zt), .bool zx])) (cd10 : Hid (b10 = true → x61 = .bool true)) (cd11 : Hid (b11 = true → x62 = .bool true)) (cd12 : Hid (b12 = true → x63 = .slice so sn sc)) (cd13 : Hid (b13 = true → x64 = .int .i64 zs)) (cd14 : Hid (b14 = true → x65 = .bool true)) (cd15 : Hid (b15 = true → x66 = .bool false)) (cd16 : Hid (b16 = true → x67 = .bool false)) : From13I B p mb moff mn mc nb noff tn tc q k so sn sc ys yt yx zs zt zx a0 w0 L a w

/-- What stands while the region's operations come up. -/
inductive From13A (B : Nat) (p : Nat) (mb : Nat) (moff : Nat) (mn : Nat) (mc : Nat) (nb : Nat) (noff : Nat) (tn : Nat) (tc : Nat) (q : Nat) (k : Nat) (so : Option Addr) (sn : Nat) (sc : Nat) (ys : Int) (yt : List UInt8) (yx : Bool) (zs : Int) (zt : List UInt8) (zx : Bool) (a0 : Act) (w0 : World) (L : Array Bool) (a : Act) (w : World) : Prop
  | mk (b0 b1 b2 b3 b4 b5 b6 b7 b8 b9 b10 b11 b12 b13 b14 b15 b16 : Bool) (x51 x52 x53 x54 x55 x56 x57 x58 x59 x60 x61 x62 x63 x64 x65 x66 x67 : Value) (hL : L = #[b0, b1, b2, b3, b4, b5, b6, b7, b8, b9, b10, b11, b12, b13, b14, b15, b16]) (ha : a = ⟨(((((((((((((((((a0.tmps.setIfInBounds 51 x51).setIfInBounds 52 x52).setIfInBounds 53 x53).setIfInBounds 54 x54).setIfInBounds 55 x55).setIfInBounds 56 x56).setIfInBounds 57 x57).setIfInBounds 58 x58).setIfInBounds 59 x59).setIfInBounds 60 x60).setIfInBounds 61 x61).setIfInBounds 62 x62).setIfInBounds 63 x63).setIfInBounds 64 x64).setIfInBounds 65 x65).setIfInBounds 66 x66).setIfInBounds 67 x67), a0.defers⟩) (hb : Below B w0 w) (cd0 : Hid (b0 = true → x51 = .pointer (some ⟨p, 1, none⟩))) (cd1 : Hid (b1 = true → x52 = .slice (some ⟨mb, moff, none⟩) mn mc)) (cd2 : Hid (b2 = true → x53 = .int .i64 (q : Nat))) (cd3 : Hid (b3 = true → x54 = .pointer (some ⟨mb, moff + q * 3, none⟩))) (cd4 : Hid (b4 = true → x55 = .agg #[.int .i64 ys, .string (bsOf yt), .bool yx])) (cd5 : Hid (b5 = true → x56 = .pointer (some ⟨p, 0, none⟩))) (cd6 : Hid (b6 = true → x57 = .slice (some ⟨nb, noff, none⟩) tn tc)) (cd7 : Hid (b7 = true → x58 = .int .i64 (k : Nat))) (cd8 : Hid (b8 = true → x59 = .pointer (some ⟨nb, noff + k * 3, none⟩))) (cd9 : Hid (b9 = true → x60 = .agg #[.int .i64 zs, .string (bsOf zt), .bool zx])) (cd10 : Hid (b10 = true → x61 = .bool true)) (cd11 : Hid (b11 = true → x62 = .bool true)) (cd12 : Hid (b12 = true → x63 = .slice so sn sc)) (cd13 : Hid (b13 = true → x64 = .int .i64 zs)) (cd14 : Hid (b14 = true → x65 = .bool false)) (cd15 : Hid (b15 = true → x66 = .bool true)) (cd16 : Hid (b16 = true → x67 = .bool true)) : From13A B p mb moff mn mc nb noff tn tc q k so sn sc ys yt yx zs zt zx a0 w0 L a w
set_option maxRecDepth 100000 in
set_option maxHeartbeats 1000000 in
theorem rin_any (w : World) (ao : Option Addr) (n c : Nat) (cs : List Int) (h : IsR EI w ao n c cs) (x : Int) :
    Calls Try.prog 111 #[.slice ao n c, .int .i64 x] w fun e w' => e = .returned (.bool (decide (x ∈ cs))) ∧ w = w' := by
  have hln := h.len
  have hmx := h.max
  have hle := h.le
  unfold maxLen at hmx
  go_enter Try.func111, Try.ntmps111
  go_wp2_with fail
  go_loopw [5] (fun zs wr => ∃ j : Nat, j ≤ n ∧ zs = .int .i64 (j : Nat) ∧ w = wr ∧ Hid (x ∉ cs.take j)) (fun zs _ => n - (intOf zs).toNat)
  case atStart => exact ⟨0, by omega, rfl, rfl, Lib.hid (by simp)⟩
  case round =>
    obtain ⟨j, hj, rfl, rfl, hN⟩ := hrel
    by_cases hlt : j < n
    · have hlti : (j : Int) < (n : Int) := by omega
      obtain ⟨y, hy⟩ : ∃ y, cs[j]? = some y := ⟨cs[j]'(by omega), List.getElem?_eq_getElem _⟩
      obtain ⟨b, off, rfl, hb, hc⟩ := h.open (by omega) (by decide)
      have ca : w.cell? ⟨b, off + j, none⟩ = some (.int .i64 y) := hc j _ (by have := EI.all_get cs j 0 y hy (by decide); simpa [EI] using this)
      by_cases e1 : y = x
      · have HR : Hid (decide (x ∈ cs) = true) := Lib.hid (decide_eq_true (by rw [← e1]; exact List.mem_of_getElem? hy))
        have e2 : (y == x) = true := by simp [e1]
        clear e1 hy hc hN
        go_wp2_with fail
        go_ret
        exact ⟨by rw [HR.out]; rfl, rfl⟩
      · have hN2 := Lib.hid (not_take hN.out hy e1)
        have e2 : (y == x) = false := by simp [e1]
        clear e1 hy hc hN
        go_wp2_with fail
        go_roundw
        case rel => exact ⟨j + 1, by omega, by go_num, by first | rfl | trivial, hN2⟩
        case measure => simp [intOf]; omega
    · have hlti : ¬ ((j : Int) < (n : Int)) := by omega
      obtain rfl : j = n := by omega
      have HR : Hid (decide (x ∈ cs) = false) := Lib.hid (decide_eq_false (by have := hN.out; rwa [List.take_of_length_le (by omega)] at this))
      clear hN
      go_wp2_with fail
      go_ret
      exact ⟨by rw [HR.out]; rfl, rfl⟩
set_option maxRecDepth 100000 in
theorem ragainst_any (w : World) (h k : Hd) :
    Calls Try.prog 107 #[h.val, k.val] w fun e w' => e = .returned (.bool (clash h k)) ∧ Below w.heap.size w w' := by
  have B0 : Below w.heap.size w (w.alloc (.cells #[.int .i64 h.s, .string (bsOf h.t), .bool h.x] 112)) := (Below.refl _ _).alloc (Nat.le_refl _) _
  have B1 := B0.alloc B0.size (.cells #[.int .i64 k.s, .string (bsOf k.t), .bool k.x] 112)
  obtain ⟨hs, ht, hx⟩ := h
  obtain ⟨ks, kt, kx⟩ := k
  unfold Hd.val
  simp only at B0 B1 ⊢
  by_cases e1 : hs = ks
  · subst e1
    have HR : Hid (clash ⟨hs, ht, hx⟩ ⟨hs, kt, kx⟩ = false) := by simp [Hid, clash]
    have f0 : (hs != hs) = false := by simp
    go_enter Try.func107, Try.ntmps107
    go_wp2_with fail
    try go_quiet (fail)
    go_wp2_with fail
    go_ret
    exact ⟨by rw [HR.out]; rfl, B1⟩
  · have f0 : (hs != ks) = true := by simpa using e1
    by_cases e2 : ht = kt
    · subst e2
      have f1 : ((bsOf ht).toList == (bsOf ht).toList) = true := by simp
      cases hx
      · have HR : Hid (clash ⟨hs, ht, false⟩ ⟨ks, ht, kx⟩ = kx) := by simp [Hid, clash, e1]
        go_enter Try.func107, Try.ntmps107
        go_wp2_with fail
        try go_quiet (fail)
        go_wp2_with fail
        go_ret
        exact ⟨by rw [HR.out]; rfl, B1⟩
      · have HR : Hid (clash ⟨hs, ht, true⟩ ⟨ks, ht, kx⟩ = true) := by simp [Hid, clash, e1]
        go_enter Try.func107, Try.ntmps107
        go_wp2_with fail
        try go_quiet (fail)
        go_wp2_with fail
        go_ret
        exact ⟨by rw [HR.out]; rfl, B1⟩
    · have f1 : ¬ ((bsOf ht).toList = (bsOf kt).toList) := by
        rw [ByteArray.toList_eq, ByteArray.toList_eq, bsOf_toList, bsOf_toList]
        exact e2
      have HR : Hid (clash ⟨hs, ht, hx⟩ ⟨ks, kt, kx⟩ = false) := by simp [Hid, clash, e2]
      go_enter Try.func107, Try.ntmps107
      go_wp2_with fail
      try go_quiet (fail)
      go_wp2_with fail
      go_ret
      exact ⟨by rw [HR.out]; rfl, B1⟩
/-- What stands while sessions are come upon: who was seen, who is still to be gone on from. -/
structure FrI (w : World) (B : Nat) (so : Option Addr) (sn sc : Nat) (L : List Int) (oa : Option Addr) (N c : Nat) (O : List Int) : Prop where
  sn : RowO EI w 3 B so sn sc L
  td : RowO EI w 3 B oa N c O
  ls : ∀ z, Go.Proofs.Ytllijeciodmckaa.blk so = some z → z < w.heap.size
  lt : ∀ z, Go.Proofs.Ytllijeciodmckaa.blk oa = some z → z < w.heap.size
  sep : ∀ z, Go.Proofs.Ytllijeciodmckaa.blk so = some z → Go.Proofs.Ytllijeciodmckaa.blk oa ≠ some z
section
variable {w w' : World} {B : Nat} {so : Option Addr} {sn sc : Nat} {L : List Int} {oa : Option Addr} {N c : Nat} {O : List Int}
theorem FrI.past (h : FrI w B so sn sc L oa N c O) (b : Below w.heap.size w w') : FrI w' B so sn sc L oa N c O :=
  ⟨h.sn.past b, h.td.past b, fun z hz => Nat.lt_of_lt_of_le (h.ls z hz) b.size, fun z hz => Nat.lt_of_lt_of_le (h.lt z hz) b.size, h.sep⟩
theorem RowO.grown {α : Type} {E : Enc α} {w w' : World} {e : TypeId} {B : Nat} {ao : Option Addr} {n c : Nat} {l : List α} {row : Option Nat} (h : RowO E w e B ao n c l) (b : w.grownBy w' row) (hne : ∀ z, Go.Proofs.Ytllijeciodmckaa.blk ao = some z → row ≠ some z) : RowO E w' e B ao n c l :=
  h.kept fun z hz hzl => b.block z hzl fun e => hne z hz e.symm
theorem FrI.pushS (h : FrI w B so sn sc L oa N c O) {so' : Option Addr} {n' c' : Nat} {L' : List Int} (o : RowO EI w' 3 B so' n' c' L') (hn : 0 < n') (g : w.grownBy w' (Go.Proofs.Ytllijeciodmckaa.blk so))
    (q : (Go.Proofs.Ytllijeciodmckaa.blk so' = Go.Proofs.Ytllijeciodmckaa.blk so ∧ B ≤ (Go.Proofs.Ytllijeciodmckaa.blk so).getD 0) ∨ ∃ g, so' = some ⟨g, 0, none⟩ ∧ w.heap.size ≤ g) : FrI w' B so' n' c' L' oa N c O := by
  refine ⟨o, h.td.grown g fun z hz e => h.sep z e hz, fun z hz => ?_, fun z hz => Nat.lt_of_lt_of_le (h.lt z hz) g.size, fun z hz hz2 => ?_⟩
  · rcases o.either with ⟨h0, _⟩ | ⟨g', off, pre, rfl, _, ow, _⟩
    · omega
    · cases hz
      exact ow.lt
  · rcases q with ⟨q, _⟩ | ⟨g', rfl, hg⟩
    · exact h.sep z (by rw [← q]; exact hz) hz2
    · have hz' : g' = z := Option.some.inj hz
      have := h.lt _ hz2
      omega
theorem FrI.pushT (h : FrI w B so sn sc L oa N c O) {oa' : Option Addr} {n' c' : Nat} {O' : List Int} (o : RowO EI w' 3 B oa' n' c' O') (hn : 0 < n') (g : w.grownBy w' (Go.Proofs.Ytllijeciodmckaa.blk oa))
    (q : (Go.Proofs.Ytllijeciodmckaa.blk oa' = Go.Proofs.Ytllijeciodmckaa.blk oa ∧ B ≤ (Go.Proofs.Ytllijeciodmckaa.blk oa).getD 0) ∨ ∃ g, oa' = some ⟨g, 0, none⟩ ∧ w.heap.size ≤ g) : FrI w' B so sn sc L oa' n' c' O' := by
  refine ⟨h.sn.grown g fun z hz e => h.sep z hz e, o, fun z hz => Nat.lt_of_lt_of_le (h.ls z hz) g.size, fun z hz => ?_, fun z hz hz2 => ?_⟩
  · rcases o.either with ⟨h0, _⟩ | ⟨g', off, pre, rfl, _, ow, _⟩
    · omega
    · cases hz
      exact ow.lt
  · rcases q with ⟨q, _⟩ | ⟨g', rfl, hg⟩
    · exact h.sep z hz (by rw [← q]; exact hz2)
    · have hz' : g' = z := Option.some.inj hz2
      have := h.ls _ hz
      omega
theorem FrI.tail (h : FrI w B so sn sc L oa N c O) (hN : 1 ≤ N) : FrI w B so sn sc L (if c = 1 then oa else oa.map fun a => a.add 1) (N - 1) (c - 1) (O.drop 1) := by
  have e : Go.Proofs.Ytllijeciodmckaa.blk (if c = 1 then oa else oa.map fun a => a.add 1) = Go.Proofs.Ytllijeciodmckaa.blk oa := by
    split
    · rfl
    · cases oa with
      | none => rfl
      | some a => rfl
  have t := h.td.tail 1 hN
  rw [show EI.sz = 1 from rfl, Nat.mul_one] at t
  exact ⟨h.sn, t, h.ls, fun z hz => h.lt z (by rw [← e]; exact hz), fun z hz hz2 => h.sep z hz (by rw [← e]; exact hz2)⟩
end
/-- A slice's length. -/
def slen : Value → Nat
  | .slice _ n _ => n
  | _ => 0
/-- What from answers. -/
def FromIs (w : World) (ao : Option Addr) (n c : Nat) (M T : List Hd) (s : Int) : Prop := ∃ L, IsR EI w ao n c L ∧ (∀ x, x ∈ L ↔ Rch M T s x) ∧ L.length ≤ T.length
set_option maxRecDepth 100000 in
set_option maxHeartbeats 4000000 in
theorem rfrom_any (w : World) (tv : Option Addr) (tn tc : Nat) (mo : Option Addr) (mn mc : Nat) (T M : List Hd) (h1 : IsR EHd w tv tn tc T) (h2 : IsR EHd w mo mn mc M) (htn : tn ≤ 10000) (hmn : mn ≤ 10000) (s : Int) :
    Calls Try.prog 110 #[.agg #[.slice tv tn tc, .slice mo mn mc], .int .i64 s] w fun e w' => ∃ ao n c, e = .returned (.slice ao n c) ∧ FromIs w' ao n c M T s ∧ Below w.heap.size w w' := by
  have X0 := LkB.new w tv tn tc mo mn mc 99
  have BA : Below w.heap.size w (w.alloc (.cells #[.slice tv tn tc, .slice mo mn mc] 99)) := (Below.refl _ _).alloc (Nat.le_refl _) _
  have hlT := h1.len
  have hlM := h2.len
  go_enter Try.func110, Try.ntmps110
  go_upto_region 1 with fail
  have h1 := h1.past BA
  have h2 := h2.past BA
  generalize w.alloc (.cells #[.slice tv tn tc, .slice mo mn mc] 99) = W at X0 BA h1 h2 ⊢
  obtain ⟨p, hp⟩ : ∃ p, w.heap.size = p := ⟨_, rfl⟩
  have HP := Lib.hid hp
  rw [hp] at X0 BA
  simp only [hp]
  clear hp
  have hpW := X0.lt
  have o1 : OwnR EI (W.alloc (.cells #[.int .i64 s] 3)) 3 W.heap.size 1 1 [s] := OwnR.ofBlk (heap_alloc_new W _) rfl rfl (by omega)
  have bX : Below W.heap.size W (W.alloc (.cells #[.int .i64 s] 3)) := (Below.refl _ _).alloc (Nat.le_refl _) _
  have F0 : Hid (FrI (W.alloc (.cells #[.int .i64 s] 3)) W.heap.size none 0 0 [] (some ⟨W.heap.size, 0, none⟩) 1 1 (List.drop 0 [s])) := Lib.hid ⟨RowO.none _ _ _ _, o1.rowO (Nat.le_refl _), fun z hz => (by cases hz), fun z hz => (by cases hz; exact o1.lt), fun z hz => (by cases hz)⟩
  clear o1
  go_upto_region 3 with fail
  generalize W.alloc (.cells #[.int .i64 s] 3) = U at F0 bX ⊢
  go_wp2_with fail
  go_loopw [5, 6] (fun zs zt wr => ∃ (so : Option Addr) (sn sc : Nat) (L : List Int) (oa : Option Addr) (N c i : Nat), zs = .slice so sn sc ∧ zt = .slice oa N c ∧ Hid (FrI wr W.heap.size so sn sc L oa N c ((s :: L).drop i)) ∧ L.length = sn ∧ i + N = sn + 1 ∧ Hid (Bf M T s L i) ∧ Below W.heap.size W wr) (fun zs zt _ => tn + 1 - (slen zs + 1 - slen zt))
  case atStart => exact ⟨none, 0, 0, [], _, 1, 1, 0, rfl, rfl, F0, rfl, by omega, Lib.hid (Bf.start M T s), bX⟩
  case round =>
    clear F0 bX
    obtain ⟨so, sn, sc, L, oa, N, c, i, rfl, rfl, F, hsn, hiN, hBf, B⟩ := hrel
    have hLs := hBf.out.small
    by_cases hlt : 0 < N
    · have hlti : (0 : Int) < (N : Int) := by omega
      obtain ⟨a0, ha0⟩ : ∃ a, (s :: L)[i]? = some a := ⟨(s :: L)[i]'(by simp; omega), List.getElem?_eq_getElem _⟩
      have ha0h := Lib.hid ha0
      have hNc := F.out.td.isR.le
      have ft := F.out.tail hlt
      obtain ⟨b, off, rfl, hb, hc⟩ := F.out.td.isR.open (by omega) (by decide)
      have ca : wr.cell? ⟨b, off, none⟩ = some (.int .i64 a0) := hc 0 _ (by have := EI.all_get ((s :: L).drop i) 0 0 a0 (by rw [List.getElem?_drop]; exact ha0) (by decide); simpa [EI] using this)
      clear hc ha0
      have h1c : (1 : Int) ≤ (N : Int) := by omega
      have hNci : (N : Int) ≤ (c : Int) := by omega
      rw [List.drop_drop] at ft
      go_upto_region 6 with fail
      simp only [Option.map_some, Addr.add_lit] at ft
      have FF_ := Lib.hid ft
      clear ft
      generalize (if c = 1 then some ⟨b, off, none⟩ else some ⟨b, off + 1, none⟩ : Option Addr) = oa' at FF_ ⊢
      obtain ⟨N', hN'⟩ : ∃ N', N - 1 = N' := ⟨_, rfl⟩
      obtain ⟨c', hc'⟩ : ∃ c', c - 1 = c' := ⟨_, rfl⟩
      rw [hN', hc'] at FF_
      simp only [hN', hc']
      have hiN' : i + 1 + N' = sn + 1 := by omega
      have hi0 : i ≤ tn := by omega
      have hm0 : sn + 1 - N = i := by omega
      clear hN' hc' hNc hNci h1c ca hb hLs F hlti
      go_wp2_with fail
      go_loopw [5, 6, 8] (fun zs zt zq wr => ∃ (so : Option Addr) (sn sc : Nat) (L : List Int) (oa : Option Addr) (N c q : Nat), zs = .slice so sn sc ∧ zt = .slice oa N c ∧ zq = .int .i64 (q : Nat) ∧ q ≤ mn ∧ Hid (FrI wr W.heap.size so sn sc L oa N c ((s :: L).drop (i + 1))) ∧ L.length = sn ∧ i + 1 + N = sn + 1 ∧ Hid (Bf M T s L i) ∧ Below W.heap.size W wr ∧ Hid ((s :: L)[i]? = some a0) ∧
        Hid (∀ m ∈ M.take q, m.s = a0 → ∀ t ∈ T, clash m t = true → t.s ∈ L)) (fun _ _ zq _ => mn - (intOf zq).toNat)
      case atStart => exact ⟨so, sn, sc, L, oa', N', c', 0, rfl, rfl, rfl, by omega, FF_, hsn, hiN', hBf, B, ha0h, Lib.hid (by simp)⟩
      case round =>
        clear FF_ hBf B ha0h hiN' hsn hiN hlt
        obtain ⟨so, sn, sc, L, oa, N, c, q, rfl, rfl, rfl, hq, F, hsn, hiN, hBf, B, ha0h, hD⟩ := hrel
        obtain ⟨c0, c1⟩ := (X0.past B).c
        by_cases hlq : q < mn
        · have hlqi : (q : Int) < (mn : Int) := by omega
          obtain ⟨y, hy⟩ : ∃ v, M[q]? = some v := ⟨M[q]'(by omega), List.getElem?_eq_getElem _⟩
          have hyM := Lib.hid (List.mem_of_getElem? hy)
          have hyh := Lib.hid hy
          clear hy
          go_wp2_with fail
          go_loopw [5, 6, 9] (fun zs zt zk wr => ∃ (so : Option Addr) (sn sc : Nat) (L : List Int) (oa : Option Addr) (N c k : Nat), zs = .slice so sn sc ∧ zt = .slice oa N c ∧ zk = .int .i64 (k : Nat) ∧ k ≤ tn ∧ Hid (FrI wr W.heap.size so sn sc L oa N c ((s :: L).drop (i + 1))) ∧ L.length = sn ∧ i + 1 + N = sn + 1 ∧ Hid (Bf M T s L i) ∧ Below W.heap.size W wr ∧ Hid ((s :: L)[i]? = some a0) ∧
            Hid (∀ m ∈ M.take q, m.s = a0 → ∀ t ∈ T, clash m t = true → t.s ∈ L) ∧ Hid (∀ t ∈ T.take k, clash y t = true → t.s ∈ L)) (fun _ _ zk _ => tn - (intOf zk).toNat)
          case atStart => exact ⟨so, sn, sc, L, oa, N, c, 0, rfl, rfl, rfl, by omega, F, hsn, hiN, hBf, B, ha0h, hD, Lib.hid (by simp)⟩
          case round =>
            clear F hBf B ha0h hiN hsn hD c0 c1
            obtain ⟨so, sn, sc, L, oa, N, c, k, rfl, rfl, rfl, hk, F, hsn, hiN, hBf, B, ha0h, hD, hE⟩ := hrel
            obtain ⟨c0, c1⟩ := (X0.past B).c
            have hyo := hyh.out
            obtain ⟨mb, moff, hmo, hmb, hmc⟩ := (h2.past B).open (by omega) (by decide)
            obtain ⟨y0_, y1_, y2_⟩ := cells_hd hmc q y hyo
            clear hmc hyo
            by_cases hlk : k < tn
            · have hlki : (k : Int) < (tn : Int) := by omega
              by_cases hys : y.s = a0
              · have hysb : (y.s == a0) = true := by simp [hys]
                subst hmo
                obtain ⟨z, hz⟩ : ∃ v, T[k]? = some v := ⟨T[k]'(by omega), List.getElem?_eq_getElem _⟩
                obtain ⟨nb, noff, rfl, hnb, hnc⟩ := (h1.past B).open (by omega) (by decide)
                obtain ⟨x0_, x1_, x2_⟩ := cells_hd hnc k z hz
                have hzT := Lib.hid (List.mem_of_getElem? hz)
                have hzh := Lib.hid hz
                clear hnc hz
                obtain ⟨ys, yt, yx⟩ := y
                obtain ⟨zs, zt, zx⟩ := z
                simp only at y0_ y1_ y2_ x0_ x1_ x2_ hys
                subst hys
                have hysb : (ys == ys) = true := by simp
                have HC := fun w' => ragainst_any w' ⟨ys, yt, yx⟩ ⟨zs, zt, zx⟩
                obtain ⟨cl, hcl⟩ : ∃ cl, clash ⟨ys, yt, yx⟩ ⟨zs, zt, zx⟩ = cl := ⟨_, rfl⟩
                simp only [hcl] at HC
                have hclh := Lib.hid hcl
                clear hcl
                unfold Hd.val at HC
                simp only at HC
                go_upto_region 13 with fail
                generalize wr = W7 at F B y0_ y1_ y2_ x0_ x1_ x2_ c0 c1 hmb hnb ⊢
                have hpB : p < W7.heap.size := Nat.lt_of_lt_of_le hpW B.size
                have hmB := hmb
                have hnB := hnb
                have hB0 : W7.heap.size ≤ W7.heap.size := Nat.le_refl _
                have HI := fun (w' : World) (hb : Below W7.heap.size W7.drew w') => rin_any w' so sn sc L ((F.out.sn.isR.past (Below.refl _ _).drew).past hb) zs
                cases cl
                · clear HI
                  refine region_inv (From13N W7.heap.size p mb moff mn mc nb noff tn tc q k so sn sc ys yt yx zs zt zx) (by kernel_rfl) (by kernel_rfl) ?_ ?_ ?_
                  · exact ⟨false, false, false, false, false, false, false, false, false, false, false, false, false, false, false, false, false, u51, u52, u53, u54, u55, u56, u57, u58, u59, u60, u61, u62, u63, u64, u65, u66, u67, rfl, (by simp only [Act.put, List.setIfInBounds_toArray, List.set_cons_zero, List.set_cons_succ]), Below.refl _ _, (fun h => by cases h), (fun h => by cases h), (fun h => by cases h), (fun h => by cases h), (fun h => by cases h), (fun h => by cases h), (fun h => by cases h), (fun h => by cases h), (fun h => by cases h), (fun h => by cases h), (fun h => by cases h), (fun h => by cases h), (fun h => by cases h), (fun h => by cases h), (fun h => by cases h), (fun h => by cases h), (fun h => by cases h)⟩
                  · refine ⟨?_, ?_, ?_, ?_, ?_, ?_, ?_, ?_, ?_, ?_, ?_, ?_, ?_, ?_, ?_, ?_, ?_, trivial⟩
                    · rintro L a w ⟨b0, b1, b2, b3, b4, b5, b6, b7, b8, b9, b10, b11, b12, b13, b14, b15, b16, x51, x52, x53, x54, x55, x56, x57, x58, x59, x60, x61, x62, x63, x64, x65, x66, x67, rfl, rfl, hb, cd0, cd1, cd2, cd3, cd4, cd5, cd6, cd7, cd8, cd9, cd10, cd11, cd12, cd13, cd14, cd15, cd16⟩ hf hd
                      have hf' : b0 = false := hf
                      subst hf'
                      clear hf hd
                      try simp only [List.setIfInBounds_toArray, List.set_cons_zero, List.set_cons_succ]
                      intro K hK
                      rw [if_pos (by rfl)]
                      go_simp
                      exact hK.out _ _ ⟨true, b1, b2, b3, b4, b5, b6, b7, b8, b9, b10, b11, b12, b13, b14, b15, b16, (.pointer (some ⟨p, 1, none⟩)), x52, x53, x54, x55, x56, x57, x58, x59, x60, x61, x62, x63, x64, x65, x66, x67, (by simp only [Act.put, List.setIfInBounds_toArray, List.set_cons_zero, List.set_cons_succ]), (by simp only [Act.put, List.setIfInBounds_toArray, List.set_cons_zero, List.set_cons_succ]), hb, (fun _ => rfl), cd1, cd2, cd3, cd4, cd5, cd6, cd7, cd8, cd9, cd10, cd11, cd12, cd13, cd14, cd15, cd16⟩
                    · rintro L a w ⟨b0, b1, b2, b3, b4, b5, b6, b7, b8, b9, b10, b11, b12, b13, b14, b15, b16, x51, x52, x53, x54, x55, x56, x57, x58, x59, x60, x61, x62, x63, x64, x65, x66, x67, rfl, rfl, hb, cd0, cd1, cd2, cd3, cd4, cd5, cd6, cd7, cd8, cd9, cd10, cd11, cd12, cd13, cd14, cd15, cd16⟩ hf hd
                      have hf' : b1 = false := hf
                      subst hf'
                      have d0 : b0 = true := hd ⟨0, .data⟩ (by simp) rfl
                      subst d0
                      obtain rfl := cd0.out rfl
                      clear hf hd
                      try simp only [List.setIfInBounds_toArray, List.set_cons_zero, List.set_cons_succ]
                      have z0 := (hb.cell hpB).trans c1
                      intro K hK
                      rw [if_pos (by rfl)]
                      go_simp
                      exact hK.out _ _ ⟨true, true, b2, b3, b4, b5, b6, b7, b8, b9, b10, b11, b12, b13, b14, b15, b16, .pointer (some ⟨p, 1, none⟩), (.slice (some ⟨mb, moff, none⟩) mn mc), x53, x54, x55, x56, x57, x58, x59, x60, x61, x62, x63, x64, x65, x66, x67, (by simp only [Act.put, List.setIfInBounds_toArray, List.set_cons_zero, List.set_cons_succ]), (by simp only [Act.put, List.setIfInBounds_toArray, List.set_cons_zero, List.set_cons_succ]), hb, (fun _ => rfl), (fun _ => rfl), cd2, cd3, cd4, cd5, cd6, cd7, cd8, cd9, cd10, cd11, cd12, cd13, cd14, cd15, cd16⟩
                    · rintro L a w ⟨b0, b1, b2, b3, b4, b5, b6, b7, b8, b9, b10, b11, b12, b13, b14, b15, b16, x51, x52, x53, x54, x55, x56, x57, x58, x59, x60, x61, x62, x63, x64, x65, x66, x67, rfl, rfl, hb, cd0, cd1, cd2, cd3, cd4, cd5, cd6, cd7, cd8, cd9, cd10, cd11, cd12, cd13, cd14, cd15, cd16⟩ hf hd
                      have hf' : b2 = false := hf
                      subst hf'
                      clear hf hd
                      try simp only [List.setIfInBounds_toArray, List.set_cons_zero, List.set_cons_succ]
                      intro K hK
                      rw [if_pos (by rfl)]
                      go_simp
                      exact hK.out _ _ ⟨b0, b1, true, b3, b4, b5, b6, b7, b8, b9, b10, b11, b12, b13, b14, b15, b16, x51, x52, (.int .i64 (q : Nat)), x54, x55, x56, x57, x58, x59, x60, x61, x62, x63, x64, x65, x66, x67, (by simp only [Act.put, List.setIfInBounds_toArray, List.set_cons_zero, List.set_cons_succ]), (by simp only [Act.put, List.setIfInBounds_toArray, List.set_cons_zero, List.set_cons_succ]), hb, cd0, cd1, (fun _ => rfl), cd3, cd4, cd5, cd6, cd7, cd8, cd9, cd10, cd11, cd12, cd13, cd14, cd15, cd16⟩
                    · rintro L a w ⟨b0, b1, b2, b3, b4, b5, b6, b7, b8, b9, b10, b11, b12, b13, b14, b15, b16, x51, x52, x53, x54, x55, x56, x57, x58, x59, x60, x61, x62, x63, x64, x65, x66, x67, rfl, rfl, hb, cd0, cd1, cd2, cd3, cd4, cd5, cd6, cd7, cd8, cd9, cd10, cd11, cd12, cd13, cd14, cd15, cd16⟩ hf hd
                      have hf' : b3 = false := hf
                      subst hf'
                      have d1 : b1 = true := hd ⟨1, .data⟩ (by simp) rfl
                      subst d1
                      have d2 : b2 = true := hd ⟨2, .data⟩ (by simp) rfl
                      subst d2
                      obtain rfl := cd1.out rfl
                      obtain rfl := cd2.out rfl
                      clear hf hd
                      try simp only [List.setIfInBounds_toArray, List.set_cons_zero, List.set_cons_succ]
                      intro K hK
                      rw [if_pos (by rfl)]
                      go_simp
                      exact hK.out _ _ ⟨b0, true, true, true, b4, b5, b6, b7, b8, b9, b10, b11, b12, b13, b14, b15, b16, x51, .slice (some ⟨mb, moff, none⟩) mn mc, .int .i64 (q : Nat), (.pointer (some ⟨mb, moff + q * 3, none⟩)), x55, x56, x57, x58, x59, x60, x61, x62, x63, x64, x65, x66, x67, (by simp only [Act.put, List.setIfInBounds_toArray, List.set_cons_zero, List.set_cons_succ]), (by simp only [Act.put, List.setIfInBounds_toArray, List.set_cons_zero, List.set_cons_succ]), hb, cd0, (fun _ => rfl), (fun _ => rfl), (fun _ => rfl), cd4, cd5, cd6, cd7, cd8, cd9, cd10, cd11, cd12, cd13, cd14, cd15, cd16⟩
                    · rintro L a w ⟨b0, b1, b2, b3, b4, b5, b6, b7, b8, b9, b10, b11, b12, b13, b14, b15, b16, x51, x52, x53, x54, x55, x56, x57, x58, x59, x60, x61, x62, x63, x64, x65, x66, x67, rfl, rfl, hb, cd0, cd1, cd2, cd3, cd4, cd5, cd6, cd7, cd8, cd9, cd10, cd11, cd12, cd13, cd14, cd15, cd16⟩ hf hd
                      have hf' : b4 = false := hf
                      subst hf'
                      have d3 : b3 = true := hd ⟨3, .data⟩ (by simp) rfl
                      subst d3
                      obtain rfl := cd3.out rfl
                      clear hf hd
                      try simp only [List.setIfInBounds_toArray, List.set_cons_zero, List.set_cons_succ]
                      have z0 := (hb.cell hmB).trans y0_
                      have z1 := (hb.cell hmB).trans y1_
                      have z2 := (hb.cell hmB).trans y2_
                      intro K hK
                      rw [if_pos (by rfl)]
                      go_simp
                      exact hK.out _ _ ⟨b0, b1, b2, true, true, b5, b6, b7, b8, b9, b10, b11, b12, b13, b14, b15, b16, x51, x52, x53, .pointer (some ⟨mb, moff + q * 3, none⟩), (.agg #[.int .i64 ys, .string (bsOf yt), .bool yx]), x56, x57, x58, x59, x60, x61, x62, x63, x64, x65, x66, x67, (by simp only [Act.put, List.setIfInBounds_toArray, List.set_cons_zero, List.set_cons_succ]), (by simp only [Act.put, List.setIfInBounds_toArray, List.set_cons_zero, List.set_cons_succ]), hb, cd0, cd1, cd2, (fun _ => rfl), (fun _ => rfl), cd5, cd6, cd7, cd8, cd9, cd10, cd11, cd12, cd13, cd14, cd15, cd16⟩
                    · rintro L a w ⟨b0, b1, b2, b3, b4, b5, b6, b7, b8, b9, b10, b11, b12, b13, b14, b15, b16, x51, x52, x53, x54, x55, x56, x57, x58, x59, x60, x61, x62, x63, x64, x65, x66, x67, rfl, rfl, hb, cd0, cd1, cd2, cd3, cd4, cd5, cd6, cd7, cd8, cd9, cd10, cd11, cd12, cd13, cd14, cd15, cd16⟩ hf hd
                      have hf' : b5 = false := hf
                      subst hf'
                      clear hf hd
                      try simp only [List.setIfInBounds_toArray, List.set_cons_zero, List.set_cons_succ]
                      intro K hK
                      rw [if_pos (by rfl)]
                      go_simp
                      exact hK.out _ _ ⟨b0, b1, b2, b3, b4, true, b6, b7, b8, b9, b10, b11, b12, b13, b14, b15, b16, x51, x52, x53, x54, x55, (.pointer (some ⟨p, 0, none⟩)), x57, x58, x59, x60, x61, x62, x63, x64, x65, x66, x67, (by simp only [Act.put, List.setIfInBounds_toArray, List.set_cons_zero, List.set_cons_succ]), (by simp only [Act.put, List.setIfInBounds_toArray, List.set_cons_zero, List.set_cons_succ]), hb, cd0, cd1, cd2, cd3, cd4, (fun _ => rfl), cd6, cd7, cd8, cd9, cd10, cd11, cd12, cd13, cd14, cd15, cd16⟩
                    · rintro L a w ⟨b0, b1, b2, b3, b4, b5, b6, b7, b8, b9, b10, b11, b12, b13, b14, b15, b16, x51, x52, x53, x54, x55, x56, x57, x58, x59, x60, x61, x62, x63, x64, x65, x66, x67, rfl, rfl, hb, cd0, cd1, cd2, cd3, cd4, cd5, cd6, cd7, cd8, cd9, cd10, cd11, cd12, cd13, cd14, cd15, cd16⟩ hf hd
                      have hf' : b6 = false := hf
                      subst hf'
                      have d5 : b5 = true := hd ⟨5, .data⟩ (by simp) rfl
                      subst d5
                      obtain rfl := cd5.out rfl
                      clear hf hd
                      try simp only [List.setIfInBounds_toArray, List.set_cons_zero, List.set_cons_succ]
                      have z0 := (hb.cell hpB).trans c0
                      intro K hK
                      rw [if_pos (by rfl)]
                      go_simp
                      exact hK.out _ _ ⟨b0, b1, b2, b3, b4, true, true, b7, b8, b9, b10, b11, b12, b13, b14, b15, b16, x51, x52, x53, x54, x55, .pointer (some ⟨p, 0, none⟩), (.slice (some ⟨nb, noff, none⟩) tn tc), x58, x59, x60, x61, x62, x63, x64, x65, x66, x67, (by simp only [Act.put, List.setIfInBounds_toArray, List.set_cons_zero, List.set_cons_succ]), (by simp only [Act.put, List.setIfInBounds_toArray, List.set_cons_zero, List.set_cons_succ]), hb, cd0, cd1, cd2, cd3, cd4, (fun _ => rfl), (fun _ => rfl), cd7, cd8, cd9, cd10, cd11, cd12, cd13, cd14, cd15, cd16⟩
                    · rintro L a w ⟨b0, b1, b2, b3, b4, b5, b6, b7, b8, b9, b10, b11, b12, b13, b14, b15, b16, x51, x52, x53, x54, x55, x56, x57, x58, x59, x60, x61, x62, x63, x64, x65, x66, x67, rfl, rfl, hb, cd0, cd1, cd2, cd3, cd4, cd5, cd6, cd7, cd8, cd9, cd10, cd11, cd12, cd13, cd14, cd15, cd16⟩ hf hd
                      have hf' : b7 = false := hf
                      subst hf'
                      clear hf hd
                      try simp only [List.setIfInBounds_toArray, List.set_cons_zero, List.set_cons_succ]
                      intro K hK
                      rw [if_pos (by rfl)]
                      go_simp
                      exact hK.out _ _ ⟨b0, b1, b2, b3, b4, b5, b6, true, b8, b9, b10, b11, b12, b13, b14, b15, b16, x51, x52, x53, x54, x55, x56, x57, (.int .i64 (k : Nat)), x59, x60, x61, x62, x63, x64, x65, x66, x67, (by simp only [Act.put, List.setIfInBounds_toArray, List.set_cons_zero, List.set_cons_succ]), (by simp only [Act.put, List.setIfInBounds_toArray, List.set_cons_zero, List.set_cons_succ]), hb, cd0, cd1, cd2, cd3, cd4, cd5, cd6, (fun _ => rfl), cd8, cd9, cd10, cd11, cd12, cd13, cd14, cd15, cd16⟩
                    · rintro L a w ⟨b0, b1, b2, b3, b4, b5, b6, b7, b8, b9, b10, b11, b12, b13, b14, b15, b16, x51, x52, x53, x54, x55, x56, x57, x58, x59, x60, x61, x62, x63, x64, x65, x66, x67, rfl, rfl, hb, cd0, cd1, cd2, cd3, cd4, cd5, cd6, cd7, cd8, cd9, cd10, cd11, cd12, cd13, cd14, cd15, cd16⟩ hf hd
                      have hf' : b8 = false := hf
                      subst hf'
                      have d6 : b6 = true := hd ⟨6, .data⟩ (by simp) rfl
                      subst d6
                      have d7 : b7 = true := hd ⟨7, .data⟩ (by simp) rfl
                      subst d7
                      obtain rfl := cd6.out rfl
                      obtain rfl := cd7.out rfl
                      clear hf hd
                      try simp only [List.setIfInBounds_toArray, List.set_cons_zero, List.set_cons_succ]
                      intro K hK
                      rw [if_pos (by rfl)]
                      go_simp
                      exact hK.out _ _ ⟨b0, b1, b2, b3, b4, b5, true, true, true, b9, b10, b11, b12, b13, b14, b15, b16, x51, x52, x53, x54, x55, x56, .slice (some ⟨nb, noff, none⟩) tn tc, .int .i64 (k : Nat), (.pointer (some ⟨nb, noff + k * 3, none⟩)), x60, x61, x62, x63, x64, x65, x66, x67, (by simp only [Act.put, List.setIfInBounds_toArray, List.set_cons_zero, List.set_cons_succ]), (by simp only [Act.put, List.setIfInBounds_toArray, List.set_cons_zero, List.set_cons_succ]), hb, cd0, cd1, cd2, cd3, cd4, cd5, (fun _ => rfl), (fun _ => rfl), (fun _ => rfl), cd9, cd10, cd11, cd12, cd13, cd14, cd15, cd16⟩
                    · rintro L a w ⟨b0, b1, b2, b3, b4, b5, b6, b7, b8, b9, b10, b11, b12, b13, b14, b15, b16, x51, x52, x53, x54, x55, x56, x57, x58, x59, x60, x61, x62, x63, x64, x65, x66, x67, rfl, rfl, hb, cd0, cd1, cd2, cd3, cd4, cd5, cd6, cd7, cd8, cd9, cd10, cd11, cd12, cd13, cd14, cd15, cd16⟩ hf hd
                      have hf' : b9 = false := hf
                      subst hf'
                      have d8 : b8 = true := hd ⟨8, .data⟩ (by simp) rfl
                      subst d8
                      obtain rfl := cd8.out rfl
                      clear hf hd
                      try simp only [List.setIfInBounds_toArray, List.set_cons_zero, List.set_cons_succ]
                      have z0 := (hb.cell hnB).trans x0_
                      have z1 := (hb.cell hnB).trans x1_
                      have z2 := (hb.cell hnB).trans x2_
                      intro K hK
                      rw [if_pos (by rfl)]
                      go_simp
                      exact hK.out _ _ ⟨b0, b1, b2, b3, b4, b5, b6, b7, true, true, b10, b11, b12, b13, b14, b15, b16, x51, x52, x53, x54, x55, x56, x57, x58, .pointer (some ⟨nb, noff + k * 3, none⟩), (.agg #[.int .i64 zs, .string (bsOf zt), .bool zx]), x61, x62, x63, x64, x65, x66, x67, (by simp only [Act.put, List.setIfInBounds_toArray, List.set_cons_zero, List.set_cons_succ]), (by simp only [Act.put, List.setIfInBounds_toArray, List.set_cons_zero, List.set_cons_succ]), hb, cd0, cd1, cd2, cd3, cd4, cd5, cd6, cd7, (fun _ => rfl), (fun _ => rfl), cd10, cd11, cd12, cd13, cd14, cd15, cd16⟩
                    · rintro L a w ⟨b0, b1, b2, b3, b4, b5, b6, b7, b8, b9, b10, b11, b12, b13, b14, b15, b16, x51, x52, x53, x54, x55, x56, x57, x58, x59, x60, x61, x62, x63, x64, x65, x66, x67, rfl, rfl, hb, cd0, cd1, cd2, cd3, cd4, cd5, cd6, cd7, cd8, cd9, cd10, cd11, cd12, cd13, cd14, cd15, cd16⟩ hf hd
                      have hf' : b10 = false := hf
                      subst hf'
                      have d4 : b4 = true := hd ⟨4, .data⟩ (by simp) rfl
                      subst d4
                      have d9 : b9 = true := hd ⟨9, .data⟩ (by simp) rfl
                      subst d9
                      obtain rfl := cd4.out rfl
                      obtain rfl := cd9.out rfl
                      clear hf hd
                      try simp only [List.setIfInBounds_toArray, List.set_cons_zero, List.set_cons_succ]
                      intro K hK
                      rw [if_pos (by rfl)]
                      go_simp
                      go_at_call 107
                      refine (HC _).mono ?_
                      rintro e w' ⟨rfl, bx⟩
                      exact hK.out _ _ ⟨b0, b1, b2, b3, true, b5, b6, b7, b8, true, true, b11, b12, b13, b14, b15, b16, x51, x52, x53, x54, .agg #[.int .i64 ys, .string (bsOf yt), .bool yx], x56, x57, x58, x59, .agg #[.int .i64 zs, .string (bsOf zt), .bool zx], (.bool false), x62, x63, x64, x65, x66, x67, (by simp only [Act.put, List.setIfInBounds_toArray, List.set_cons_zero, List.set_cons_succ]), (by simp only [Act.put, List.setIfInBounds_toArray, List.set_cons_zero, List.set_cons_succ]), hb.trans (bx.mono (Nat.le_trans hB0 hb.size)), cd0, cd1, cd2, cd3, (fun _ => rfl), cd5, cd6, cd7, cd8, (fun _ => rfl), (fun _ => rfl), cd11, cd12, cd13, cd14, cd15, cd16⟩
                    · rintro L a w ⟨b0, b1, b2, b3, b4, b5, b6, b7, b8, b9, b10, b11, b12, b13, b14, b15, b16, x51, x52, x53, x54, x55, x56, x57, x58, x59, x60, x61, x62, x63, x64, x65, x66, x67, rfl, rfl, hb, cd0, cd1, cd2, cd3, cd4, cd5, cd6, cd7, cd8, cd9, cd10, cd11, cd12, cd13, cd14, cd15, cd16⟩ hf hd
                      have hf' : b11 = false := hf
                      subst hf'
                      have d10 : b10 = true := hd ⟨10, .data⟩ (by simp) rfl
                      subst d10
                      obtain rfl := cd10.out rfl
                      clear hf hd
                      try simp only [List.setIfInBounds_toArray, List.set_cons_zero, List.set_cons_succ]
                      intro K hK
                      rw [if_pos (by rfl)]
                      go_simp
                      exact hK.out _ _ ⟨b0, b1, b2, b3, b4, b5, b6, b7, b8, b9, true, true, b12, b13, b14, b15, b16, x51, x52, x53, x54, x55, x56, x57, x58, x59, x60, .bool false, (.bool false), x63, x64, x65, x66, x67, (by simp only [Act.put, List.setIfInBounds_toArray, List.set_cons_zero, List.set_cons_succ]), (by simp only [Act.put, List.setIfInBounds_toArray, List.set_cons_zero, List.set_cons_succ]), hb, cd0, cd1, cd2, cd3, cd4, cd5, cd6, cd7, cd8, cd9, (fun _ => rfl), (fun _ => rfl), cd12, cd13, cd14, cd15, cd16⟩
                    · rintro L a w ⟨b0, b1, b2, b3, b4, b5, b6, b7, b8, b9, b10, b11, b12, b13, b14, b15, b16, x51, x52, x53, x54, x55, x56, x57, x58, x59, x60, x61, x62, x63, x64, x65, x66, x67, rfl, rfl, hb, cd0, cd1, cd2, cd3, cd4, cd5, cd6, cd7, cd8, cd9, cd10, cd11, cd12, cd13, cd14, cd15, cd16⟩ hf hd
                      have hf' : b12 = false := hf
                      subst hf'
                      have d11 : b11 = true := hd ⟨11, .guard⟩ (by simp) rfl
                      subst d11
                      obtain rfl := cd11.out rfl
                      clear hf hd
                      try simp only [List.setIfInBounds_toArray, List.set_cons_zero, List.set_cons_succ]
                      intro K hK
                      rw [if_neg (Bool.eq_false_iff.1 (by rfl))]
                      exact hK.out _ _ ⟨b0, b1, b2, b3, b4, b5, b6, b7, b8, b9, b10, true, true, b13, b14, b15, b16, x51, x52, x53, x54, x55, x56, x57, x58, x59, x60, x61, .bool false, (undef), x64, x65, x66, x67, (by simp only [Act.put, List.setIfInBounds_toArray, List.set_cons_zero, List.set_cons_succ]), (by simp only [Act.put, List.setIfInBounds_toArray, List.set_cons_zero, List.set_cons_succ]), hb, cd0, cd1, cd2, cd3, cd4, cd5, cd6, cd7, cd8, cd9, cd10, (fun _ => rfl), (fun _ => rfl), cd13, cd14, cd15, cd16⟩
                    · rintro L a w ⟨b0, b1, b2, b3, b4, b5, b6, b7, b8, b9, b10, b11, b12, b13, b14, b15, b16, x51, x52, x53, x54, x55, x56, x57, x58, x59, x60, x61, x62, x63, x64, x65, x66, x67, rfl, rfl, hb, cd0, cd1, cd2, cd3, cd4, cd5, cd6, cd7, cd8, cd9, cd10, cd11, cd12, cd13, cd14, cd15, cd16⟩ hf hd
                      have hf' : b13 = false := hf
                      subst hf'
                      have d11 : b11 = true := hd ⟨11, .guard⟩ (by simp) rfl
                      subst d11
                      obtain rfl := cd11.out rfl
                      clear hf hd
                      try simp only [List.setIfInBounds_toArray, List.set_cons_zero, List.set_cons_succ]
                      intro K hK
                      rw [if_neg (Bool.eq_false_iff.1 (by rfl))]
                      exact hK.out _ _ ⟨b0, b1, b2, b3, b4, b5, b6, b7, b8, b9, b10, true, b12, true, b14, b15, b16, x51, x52, x53, x54, x55, x56, x57, x58, x59, x60, x61, .bool false, x63, (undef), x65, x66, x67, (by simp only [Act.put, List.setIfInBounds_toArray, List.set_cons_zero, List.set_cons_succ]), (by simp only [Act.put, List.setIfInBounds_toArray, List.set_cons_zero, List.set_cons_succ]), hb, cd0, cd1, cd2, cd3, cd4, cd5, cd6, cd7, cd8, cd9, cd10, (fun _ => rfl), cd12, (fun _ => rfl), cd14, cd15, cd16⟩
                    · rintro L a w ⟨b0, b1, b2, b3, b4, b5, b6, b7, b8, b9, b10, b11, b12, b13, b14, b15, b16, x51, x52, x53, x54, x55, x56, x57, x58, x59, x60, x61, x62, x63, x64, x65, x66, x67, rfl, rfl, hb, cd0, cd1, cd2, cd3, cd4, cd5, cd6, cd7, cd8, cd9, cd10, cd11, cd12, cd13, cd14, cd15, cd16⟩ hf hd
                      have hf' : b14 = false := hf
                      subst hf'
                      have d12 : b12 = true := hd ⟨12, .data⟩ (by simp) rfl
                      subst d12
                      have d13 : b13 = true := hd ⟨13, .data⟩ (by simp) rfl
                      subst d13
                      have d11 : b11 = true := hd ⟨11, .chain⟩ (by simp) rfl
                      subst d11
                      obtain rfl := cd12.out rfl
                      obtain rfl := cd13.out rfl
                      obtain rfl := cd11.out rfl
                      clear hf hd
                      try simp only [List.setIfInBounds_toArray, List.set_cons_zero, List.set_cons_succ]
                      intro K hK
                      rw [if_neg (Bool.eq_false_iff.1 (by rfl))]
                      exact hK.out _ _ ⟨b0, b1, b2, b3, b4, b5, b6, b7, b8, b9, b10, true, true, true, true, b15, b16, x51, x52, x53, x54, x55, x56, x57, x58, x59, x60, x61, .bool false, undef, undef, (undef), x66, x67, (by simp only [Act.put, List.setIfInBounds_toArray, List.set_cons_zero, List.set_cons_succ]), (by simp only [Act.put, List.setIfInBounds_toArray, List.set_cons_zero, List.set_cons_succ]), hb, cd0, cd1, cd2, cd3, cd4, cd5, cd6, cd7, cd8, cd9, cd10, (fun _ => rfl), (fun _ => rfl), (fun _ => rfl), (fun _ => rfl), cd15, cd16⟩
                    · rintro L a w ⟨b0, b1, b2, b3, b4, b5, b6, b7, b8, b9, b10, b11, b12, b13, b14, b15, b16, x51, x52, x53, x54, x55, x56, x57, x58, x59, x60, x61, x62, x63, x64, x65, x66, x67, rfl, rfl, hb, cd0, cd1, cd2, cd3, cd4, cd5, cd6, cd7, cd8, cd9, cd10, cd11, cd12, cd13, cd14, cd15, cd16⟩ hf hd
                      have hf' : b15 = false := hf
                      subst hf'
                      have d14 : b14 = true := hd ⟨14, .data⟩ (by simp) rfl
                      subst d14
                      have d11 : b11 = true := hd ⟨11, .guard⟩ (by simp) rfl
                      subst d11
                      obtain rfl := cd14.out rfl
                      obtain rfl := cd11.out rfl
                      clear hf hd
                      try simp only [List.setIfInBounds_toArray, List.set_cons_zero, List.set_cons_succ]
                      intro K hK
                      rw [if_neg (Bool.eq_false_iff.1 (by rfl))]
                      exact hK.out _ _ ⟨b0, b1, b2, b3, b4, b5, b6, b7, b8, b9, b10, true, b12, b13, true, true, b16, x51, x52, x53, x54, x55, x56, x57, x58, x59, x60, x61, .bool false, x63, x64, undef, (undef), x67, (by simp only [Act.put, List.setIfInBounds_toArray, List.set_cons_zero, List.set_cons_succ]), (by simp only [Act.put, List.setIfInBounds_toArray, List.set_cons_zero, List.set_cons_succ]), hb, cd0, cd1, cd2, cd3, cd4, cd5, cd6, cd7, cd8, cd9, cd10, (fun _ => rfl), cd12, cd13, (fun _ => rfl), (fun _ => rfl), cd16⟩
                    · rintro L a w ⟨b0, b1, b2, b3, b4, b5, b6, b7, b8, b9, b10, b11, b12, b13, b14, b15, b16, x51, x52, x53, x54, x55, x56, x57, x58, x59, x60, x61, x62, x63, x64, x65, x66, x67, rfl, rfl, hb, cd0, cd1, cd2, cd3, cd4, cd5, cd6, cd7, cd8, cd9, cd10, cd11, cd12, cd13, cd14, cd15, cd16⟩ hf hd
                      have hf' : b16 = false := hf
                      subst hf'
                      have d11 : b11 = true := hd ⟨11, .data⟩ (by simp) rfl
                      subst d11
                      have d15 : b15 = true := hd ⟨15, .data⟩ (by simp) rfl
                      subst d15
                      obtain rfl := cd11.out rfl
                      obtain rfl := cd15.out rfl
                      clear hf hd
                      try simp only [List.setIfInBounds_toArray, List.set_cons_zero, List.set_cons_succ]
                      intro K hK
                      rw [if_pos (by rfl)]
                      go_simp
                      exact hK.out _ _ ⟨b0, b1, b2, b3, b4, b5, b6, b7, b8, b9, b10, true, b12, b13, b14, true, true, x51, x52, x53, x54, x55, x56, x57, x58, x59, x60, x61, .bool false, x63, x64, x65, undef, (.bool false), (by simp only [Act.put, List.setIfInBounds_toArray, List.set_cons_zero, List.set_cons_succ]), (by simp only [Act.put, List.setIfInBounds_toArray, List.set_cons_zero, List.set_cons_succ]), hb, cd0, cd1, cd2, cd3, cd4, cd5, cd6, cd7, cd8, cd9, cd10, (fun _ => rfl), cd12, cd13, cd14, (fun _ => rfl), (fun _ => rfl)⟩
                  · rintro act V ⟨b0, b1, b2, b3, b4, b5, b6, b7, b8, b9, b10, b11, b12, b13, b14, b15, b16, x51, x52, x53, x54, x55, x56, x57, x58, x59, x60, x61, x62, x63, x64, x65, x66, x67, hL, rfl, hb, cd0, cd1, cd2, cd3, cd4, cd5, cd6, cd7, cd8, cd9, cd10, cd11, cd12, cd13, cd14, cd15, cd16⟩
                    have hL' : [true, true, true, true, true, true, true, true, true, true, true, true, true, true, true, true, true] = [b0, b1, b2, b3, b4, b5, b6, b7, b8, b9, b10, b11, b12, b13, b14, b15, b16] := congrArg Array.toList hL
                    simp only [List.cons.injEq, and_true] at hL'
                    obtain ⟨rfl, rfl, rfl, rfl, rfl, rfl, rfl, rfl, rfl, rfl, rfl, rfl, rfl, rfl, rfl, rfl, rfl⟩ := hL'
                    obtain rfl := cd0.out rfl
                    obtain rfl := cd1.out rfl
                    obtain rfl := cd2.out rfl
                    obtain rfl := cd3.out rfl
                    obtain rfl := cd4.out rfl
                    obtain rfl := cd5.out rfl
                    obtain rfl := cd6.out rfl
                    obtain rfl := cd7.out rfl
                    obtain rfl := cd8.out rfl
                    obtain rfl := cd9.out rfl
                    obtain rfl := cd10.out rfl
                    obtain rfl := cd11.out rfl
                    obtain rfl := cd12.out rfl
                    obtain rfl := cd13.out rfl
                    obtain rfl := cd14.out rfl
                    obtain rfl := cd15.out rfl
                    obtain rfl := cd16.out rfl
                    clear hL cd0 cd1 cd2 cd3 cd4 cd5 cd6 cd7 cd8 cd9 cd10 cd11 cd12 cd13 cd14 cd15 cd16
                    simp only [List.setIfInBounds_toArray, List.set_cons_zero, List.set_cons_succ]
                    have BV := (Below.refl _ _).drew.trans hb
                    have F2 := Lib.hid (F.out.past BV)
                    have B2 := B.trans (BV.mono B.size)
                    have hE2 := Lib.hid (take_all (P := fun t => clash ⟨ys, yt, yx⟩ t = true → t.s ∈ L) hE.out hzh.out (fun e => by rw [hclh.out] at e; cases e))
                    clear hb hE F B hzh hclh
                    go_wp2_with fail
                    go_roundw
                    case rel => exact ⟨so, sn, sc, L, oa, N, c, k + 1, rfl, rfl, by go_num, by omega, F2, hsn, hiN, hBf, B2, ha0h, hD, hE2⟩
                    case measure => simp [intOf]; omega
                · by_cases hi : zs ∈ L
                  · have hin := Lib.hid hi
                    rw [decide_eq_true hi] at HI
                    clear hi
                    refine region_inv (From13I W7.heap.size p mb moff mn mc nb noff tn tc q k so sn sc ys yt yx zs zt zx) (by kernel_rfl) (by kernel_rfl) ?_ ?_ ?_
                    · exact ⟨false, false, false, false, false, false, false, false, false, false, false, false, false, false, false, false, false, u51, u52, u53, u54, u55, u56, u57, u58, u59, u60, u61, u62, u63, u64, u65, u66, u67, rfl, (by simp only [Act.put, List.setIfInBounds_toArray, List.set_cons_zero, List.set_cons_succ]), Below.refl _ _, (fun h => by cases h), (fun h => by cases h), (fun h => by cases h), (fun h => by cases h), (fun h => by cases h), (fun h => by cases h), (fun h => by cases h), (fun h => by cases h), (fun h => by cases h), (fun h => by cases h), (fun h => by cases h), (fun h => by cases h), (fun h => by cases h), (fun h => by cases h), (fun h => by cases h), (fun h => by cases h), (fun h => by cases h)⟩
                    · refine ⟨?_, ?_, ?_, ?_, ?_, ?_, ?_, ?_, ?_, ?_, ?_, ?_, ?_, ?_, ?_, ?_, ?_, trivial⟩
                      · rintro L a w ⟨b0, b1, b2, b3, b4, b5, b6, b7, b8, b9, b10, b11, b12, b13, b14, b15, b16, x51, x52, x53, x54, x55, x56, x57, x58, x59, x60, x61, x62, x63, x64, x65, x66, x67, rfl, rfl, hb, cd0, cd1, cd2, cd3, cd4, cd5, cd6, cd7, cd8, cd9, cd10, cd11, cd12, cd13, cd14, cd15, cd16⟩ hf hd
                        have hf' : b0 = false := hf
                        subst hf'
                        clear hf hd
                        try simp only [List.setIfInBounds_toArray, List.set_cons_zero, List.set_cons_succ]
                        intro K hK
                        rw [if_pos (by rfl)]
                        go_simp
                        exact hK.out _ _ ⟨true, b1, b2, b3, b4, b5, b6, b7, b8, b9, b10, b11, b12, b13, b14, b15, b16, (.pointer (some ⟨p, 1, none⟩)), x52, x53, x54, x55, x56, x57, x58, x59, x60, x61, x62, x63, x64, x65, x66, x67, (by simp only [Act.put, List.setIfInBounds_toArray, List.set_cons_zero, List.set_cons_succ]), (by simp only [Act.put, List.setIfInBounds_toArray, List.set_cons_zero, List.set_cons_succ]), hb, (fun _ => rfl), cd1, cd2, cd3, cd4, cd5, cd6, cd7, cd8, cd9, cd10, cd11, cd12, cd13, cd14, cd15, cd16⟩
                      · rintro L a w ⟨b0, b1, b2, b3, b4, b5, b6, b7, b8, b9, b10, b11, b12, b13, b14, b15, b16, x51, x52, x53, x54, x55, x56, x57, x58, x59, x60, x61, x62, x63, x64, x65, x66, x67, rfl, rfl, hb, cd0, cd1, cd2, cd3, cd4, cd5, cd6, cd7, cd8, cd9, cd10, cd11, cd12, cd13, cd14, cd15, cd16⟩ hf hd
                        have hf' : b1 = false := hf
                        subst hf'
                        have d0 : b0 = true := hd ⟨0, .data⟩ (by simp) rfl
                        subst d0
                        obtain rfl := cd0.out rfl
                        clear hf hd
                        try simp only [List.setIfInBounds_toArray, List.set_cons_zero, List.set_cons_succ]
                        have z0 := (hb.cell hpB).trans c1
                        intro K hK
                        rw [if_pos (by rfl)]
                        go_simp
                        exact hK.out _ _ ⟨true, true, b2, b3, b4, b5, b6, b7, b8, b9, b10, b11, b12, b13, b14, b15, b16, .pointer (some ⟨p, 1, none⟩), (.slice (some ⟨mb, moff, none⟩) mn mc), x53, x54, x55, x56, x57, x58, x59, x60, x61, x62, x63, x64, x65, x66, x67, (by simp only [Act.put, List.setIfInBounds_toArray, List.set_cons_zero, List.set_cons_succ]), (by simp only [Act.put, List.setIfInBounds_toArray, List.set_cons_zero, List.set_cons_succ]), hb, (fun _ => rfl), (fun _ => rfl), cd2, cd3, cd4, cd5, cd6, cd7, cd8, cd9, cd10, cd11, cd12, cd13, cd14, cd15, cd16⟩
                      · rintro L a w ⟨b0, b1, b2, b3, b4, b5, b6, b7, b8, b9, b10, b11, b12, b13, b14, b15, b16, x51, x52, x53, x54, x55, x56, x57, x58, x59, x60, x61, x62, x63, x64, x65, x66, x67, rfl, rfl, hb, cd0, cd1, cd2, cd3, cd4, cd5, cd6, cd7, cd8, cd9, cd10, cd11, cd12, cd13, cd14, cd15, cd16⟩ hf hd
                        have hf' : b2 = false := hf
                        subst hf'
                        clear hf hd
                        try simp only [List.setIfInBounds_toArray, List.set_cons_zero, List.set_cons_succ]
                        intro K hK
                        rw [if_pos (by rfl)]
                        go_simp
                        exact hK.out _ _ ⟨b0, b1, true, b3, b4, b5, b6, b7, b8, b9, b10, b11, b12, b13, b14, b15, b16, x51, x52, (.int .i64 (q : Nat)), x54, x55, x56, x57, x58, x59, x60, x61, x62, x63, x64, x65, x66, x67, (by simp only [Act.put, List.setIfInBounds_toArray, List.set_cons_zero, List.set_cons_succ]), (by simp only [Act.put, List.setIfInBounds_toArray, List.set_cons_zero, List.set_cons_succ]), hb, cd0, cd1, (fun _ => rfl), cd3, cd4, cd5, cd6, cd7, cd8, cd9, cd10, cd11, cd12, cd13, cd14, cd15, cd16⟩
                      · rintro L a w ⟨b0, b1, b2, b3, b4, b5, b6, b7, b8, b9, b10, b11, b12, b13, b14, b15, b16, x51, x52, x53, x54, x55, x56, x57, x58, x59, x60, x61, x62, x63, x64, x65, x66, x67, rfl, rfl, hb, cd0, cd1, cd2, cd3, cd4, cd5, cd6, cd7, cd8, cd9, cd10, cd11, cd12, cd13, cd14, cd15, cd16⟩ hf hd
                        have hf' : b3 = false := hf
                        subst hf'
                        have d1 : b1 = true := hd ⟨1, .data⟩ (by simp) rfl
                        subst d1
                        have d2 : b2 = true := hd ⟨2, .data⟩ (by simp) rfl
                        subst d2
                        obtain rfl := cd1.out rfl
                        obtain rfl := cd2.out rfl
                        clear hf hd
                        try simp only [List.setIfInBounds_toArray, List.set_cons_zero, List.set_cons_succ]
                        intro K hK
                        rw [if_pos (by rfl)]
                        go_simp
                        exact hK.out _ _ ⟨b0, true, true, true, b4, b5, b6, b7, b8, b9, b10, b11, b12, b13, b14, b15, b16, x51, .slice (some ⟨mb, moff, none⟩) mn mc, .int .i64 (q : Nat), (.pointer (some ⟨mb, moff + q * 3, none⟩)), x55, x56, x57, x58, x59, x60, x61, x62, x63, x64, x65, x66, x67, (by simp only [Act.put, List.setIfInBounds_toArray, List.set_cons_zero, List.set_cons_succ]), (by simp only [Act.put, List.setIfInBounds_toArray, List.set_cons_zero, List.set_cons_succ]), hb, cd0, (fun _ => rfl), (fun _ => rfl), (fun _ => rfl), cd4, cd5, cd6, cd7, cd8, cd9, cd10, cd11, cd12, cd13, cd14, cd15, cd16⟩
                      · rintro L a w ⟨b0, b1, b2, b3, b4, b5, b6, b7, b8, b9, b10, b11, b12, b13, b14, b15, b16, x51, x52, x53, x54, x55, x56, x57, x58, x59, x60, x61, x62, x63, x64, x65, x66, x67, rfl, rfl, hb, cd0, cd1, cd2, cd3, cd4, cd5, cd6, cd7, cd8, cd9, cd10, cd11, cd12, cd13, cd14, cd15, cd16⟩ hf hd
                        have hf' : b4 = false := hf
                        subst hf'
                        have d3 : b3 = true := hd ⟨3, .data⟩ (by simp) rfl
                        subst d3
                        obtain rfl := cd3.out rfl
                        clear hf hd
                        try simp only [List.setIfInBounds_toArray, List.set_cons_zero, List.set_cons_succ]
                        have z0 := (hb.cell hmB).trans y0_
                        have z1 := (hb.cell hmB).trans y1_
                        have z2 := (hb.cell hmB).trans y2_
                        intro K hK
                        rw [if_pos (by rfl)]
                        go_simp
                        exact hK.out _ _ ⟨b0, b1, b2, true, true, b5, b6, b7, b8, b9, b10, b11, b12, b13, b14, b15, b16, x51, x52, x53, .pointer (some ⟨mb, moff + q * 3, none⟩), (.agg #[.int .i64 ys, .string (bsOf yt), .bool yx]), x56, x57, x58, x59, x60, x61, x62, x63, x64, x65, x66, x67, (by simp only [Act.put, List.setIfInBounds_toArray, List.set_cons_zero, List.set_cons_succ]), (by simp only [Act.put, List.setIfInBounds_toArray, List.set_cons_zero, List.set_cons_succ]), hb, cd0, cd1, cd2, (fun _ => rfl), (fun _ => rfl), cd5, cd6, cd7, cd8, cd9, cd10, cd11, cd12, cd13, cd14, cd15, cd16⟩
                      · rintro L a w ⟨b0, b1, b2, b3, b4, b5, b6, b7, b8, b9, b10, b11, b12, b13, b14, b15, b16, x51, x52, x53, x54, x55, x56, x57, x58, x59, x60, x61, x62, x63, x64, x65, x66, x67, rfl, rfl, hb, cd0, cd1, cd2, cd3, cd4, cd5, cd6, cd7, cd8, cd9, cd10, cd11, cd12, cd13, cd14, cd15, cd16⟩ hf hd
                        have hf' : b5 = false := hf
                        subst hf'
                        clear hf hd
                        try simp only [List.setIfInBounds_toArray, List.set_cons_zero, List.set_cons_succ]
                        intro K hK
                        rw [if_pos (by rfl)]
                        go_simp
                        exact hK.out _ _ ⟨b0, b1, b2, b3, b4, true, b6, b7, b8, b9, b10, b11, b12, b13, b14, b15, b16, x51, x52, x53, x54, x55, (.pointer (some ⟨p, 0, none⟩)), x57, x58, x59, x60, x61, x62, x63, x64, x65, x66, x67, (by simp only [Act.put, List.setIfInBounds_toArray, List.set_cons_zero, List.set_cons_succ]), (by simp only [Act.put, List.setIfInBounds_toArray, List.set_cons_zero, List.set_cons_succ]), hb, cd0, cd1, cd2, cd3, cd4, (fun _ => rfl), cd6, cd7, cd8, cd9, cd10, cd11, cd12, cd13, cd14, cd15, cd16⟩
                      · rintro L a w ⟨b0, b1, b2, b3, b4, b5, b6, b7, b8, b9, b10, b11, b12, b13, b14, b15, b16, x51, x52, x53, x54, x55, x56, x57, x58, x59, x60, x61, x62, x63, x64, x65, x66, x67, rfl, rfl, hb, cd0, cd1, cd2, cd3, cd4, cd5, cd6, cd7, cd8, cd9, cd10, cd11, cd12, cd13, cd14, cd15, cd16⟩ hf hd
                        have hf' : b6 = false := hf
                        subst hf'
                        have d5 : b5 = true := hd ⟨5, .data⟩ (by simp) rfl
                        subst d5
                        obtain rfl := cd5.out rfl
                        clear hf hd
                        try simp only [List.setIfInBounds_toArray, List.set_cons_zero, List.set_cons_succ]
                        have z0 := (hb.cell hpB).trans c0
                        intro K hK
                        rw [if_pos (by rfl)]
                        go_simp
                        exact hK.out _ _ ⟨b0, b1, b2, b3, b4, true, true, b7, b8, b9, b10, b11, b12, b13, b14, b15, b16, x51, x52, x53, x54, x55, .pointer (some ⟨p, 0, none⟩), (.slice (some ⟨nb, noff, none⟩) tn tc), x58, x59, x60, x61, x62, x63, x64, x65, x66, x67, (by simp only [Act.put, List.setIfInBounds_toArray, List.set_cons_zero, List.set_cons_succ]), (by simp only [Act.put, List.setIfInBounds_toArray, List.set_cons_zero, List.set_cons_succ]), hb, cd0, cd1, cd2, cd3, cd4, (fun _ => rfl), (fun _ => rfl), cd7, cd8, cd9, cd10, cd11, cd12, cd13, cd14, cd15, cd16⟩
                      · rintro L a w ⟨b0, b1, b2, b3, b4, b5, b6, b7, b8, b9, b10, b11, b12, b13, b14, b15, b16, x51, x52, x53, x54, x55, x56, x57, x58, x59, x60, x61, x62, x63, x64, x65, x66, x67, rfl, rfl, hb, cd0, cd1, cd2, cd3, cd4, cd5, cd6, cd7, cd8, cd9, cd10, cd11, cd12, cd13, cd14, cd15, cd16⟩ hf hd
                        have hf' : b7 = false := hf
                        subst hf'
                        clear hf hd
                        try simp only [List.setIfInBounds_toArray, List.set_cons_zero, List.set_cons_succ]
                        intro K hK
                        rw [if_pos (by rfl)]
                        go_simp
                        exact hK.out _ _ ⟨b0, b1, b2, b3, b4, b5, b6, true, b8, b9, b10, b11, b12, b13, b14, b15, b16, x51, x52, x53, x54, x55, x56, x57, (.int .i64 (k : Nat)), x59, x60, x61, x62, x63, x64, x65, x66, x67, (by simp only [Act.put, List.setIfInBounds_toArray, List.set_cons_zero, List.set_cons_succ]), (by simp only [Act.put, List.setIfInBounds_toArray, List.set_cons_zero, List.set_cons_succ]), hb, cd0, cd1, cd2, cd3, cd4, cd5, cd6, (fun _ => rfl), cd8, cd9, cd10, cd11, cd12, cd13, cd14, cd15, cd16⟩
                      · rintro L a w ⟨b0, b1, b2, b3, b4, b5, b6, b7, b8, b9, b10, b11, b12, b13, b14, b15, b16, x51, x52, x53, x54, x55, x56, x57, x58, x59, x60, x61, x62, x63, x64, x65, x66, x67, rfl, rfl, hb, cd0, cd1, cd2, cd3, cd4, cd5, cd6, cd7, cd8, cd9, cd10, cd11, cd12, cd13, cd14, cd15, cd16⟩ hf hd
                        have hf' : b8 = false := hf
                        subst hf'
                        have d6 : b6 = true := hd ⟨6, .data⟩ (by simp) rfl
                        subst d6
                        have d7 : b7 = true := hd ⟨7, .data⟩ (by simp) rfl
                        subst d7
                        obtain rfl := cd6.out rfl
                        obtain rfl := cd7.out rfl
                        clear hf hd
                        try simp only [List.setIfInBounds_toArray, List.set_cons_zero, List.set_cons_succ]
                        intro K hK
                        rw [if_pos (by rfl)]
                        go_simp
                        exact hK.out _ _ ⟨b0, b1, b2, b3, b4, b5, true, true, true, b9, b10, b11, b12, b13, b14, b15, b16, x51, x52, x53, x54, x55, x56, .slice (some ⟨nb, noff, none⟩) tn tc, .int .i64 (k : Nat), (.pointer (some ⟨nb, noff + k * 3, none⟩)), x60, x61, x62, x63, x64, x65, x66, x67, (by simp only [Act.put, List.setIfInBounds_toArray, List.set_cons_zero, List.set_cons_succ]), (by simp only [Act.put, List.setIfInBounds_toArray, List.set_cons_zero, List.set_cons_succ]), hb, cd0, cd1, cd2, cd3, cd4, cd5, (fun _ => rfl), (fun _ => rfl), (fun _ => rfl), cd9, cd10, cd11, cd12, cd13, cd14, cd15, cd16⟩
                      · rintro L a w ⟨b0, b1, b2, b3, b4, b5, b6, b7, b8, b9, b10, b11, b12, b13, b14, b15, b16, x51, x52, x53, x54, x55, x56, x57, x58, x59, x60, x61, x62, x63, x64, x65, x66, x67, rfl, rfl, hb, cd0, cd1, cd2, cd3, cd4, cd5, cd6, cd7, cd8, cd9, cd10, cd11, cd12, cd13, cd14, cd15, cd16⟩ hf hd
                        have hf' : b9 = false := hf
                        subst hf'
                        have d8 : b8 = true := hd ⟨8, .data⟩ (by simp) rfl
                        subst d8
                        obtain rfl := cd8.out rfl
                        clear hf hd
                        try simp only [List.setIfInBounds_toArray, List.set_cons_zero, List.set_cons_succ]
                        have z0 := (hb.cell hnB).trans x0_
                        have z1 := (hb.cell hnB).trans x1_
                        have z2 := (hb.cell hnB).trans x2_
                        intro K hK
                        rw [if_pos (by rfl)]
                        go_simp
                        exact hK.out _ _ ⟨b0, b1, b2, b3, b4, b5, b6, b7, true, true, b10, b11, b12, b13, b14, b15, b16, x51, x52, x53, x54, x55, x56, x57, x58, .pointer (some ⟨nb, noff + k * 3, none⟩), (.agg #[.int .i64 zs, .string (bsOf zt), .bool zx]), x61, x62, x63, x64, x65, x66, x67, (by simp only [Act.put, List.setIfInBounds_toArray, List.set_cons_zero, List.set_cons_succ]), (by simp only [Act.put, List.setIfInBounds_toArray, List.set_cons_zero, List.set_cons_succ]), hb, cd0, cd1, cd2, cd3, cd4, cd5, cd6, cd7, (fun _ => rfl), (fun _ => rfl), cd10, cd11, cd12, cd13, cd14, cd15, cd16⟩
                      · rintro L a w ⟨b0, b1, b2, b3, b4, b5, b6, b7, b8, b9, b10, b11, b12, b13, b14, b15, b16, x51, x52, x53, x54, x55, x56, x57, x58, x59, x60, x61, x62, x63, x64, x65, x66, x67, rfl, rfl, hb, cd0, cd1, cd2, cd3, cd4, cd5, cd6, cd7, cd8, cd9, cd10, cd11, cd12, cd13, cd14, cd15, cd16⟩ hf hd
                        have hf' : b10 = false := hf
                        subst hf'
                        have d4 : b4 = true := hd ⟨4, .data⟩ (by simp) rfl
                        subst d4
                        have d9 : b9 = true := hd ⟨9, .data⟩ (by simp) rfl
                        subst d9
                        obtain rfl := cd4.out rfl
                        obtain rfl := cd9.out rfl
                        clear hf hd
                        try simp only [List.setIfInBounds_toArray, List.set_cons_zero, List.set_cons_succ]
                        intro K hK
                        rw [if_pos (by rfl)]
                        go_simp
                        go_at_call 107
                        refine (HC _).mono ?_
                        rintro e w' ⟨rfl, bx⟩
                        exact hK.out _ _ ⟨b0, b1, b2, b3, true, b5, b6, b7, b8, true, true, b11, b12, b13, b14, b15, b16, x51, x52, x53, x54, .agg #[.int .i64 ys, .string (bsOf yt), .bool yx], x56, x57, x58, x59, .agg #[.int .i64 zs, .string (bsOf zt), .bool zx], (.bool true), x62, x63, x64, x65, x66, x67, (by simp only [Act.put, List.setIfInBounds_toArray, List.set_cons_zero, List.set_cons_succ]), (by simp only [Act.put, List.setIfInBounds_toArray, List.set_cons_zero, List.set_cons_succ]), hb.trans (bx.mono (Nat.le_trans hB0 hb.size)), cd0, cd1, cd2, cd3, (fun _ => rfl), cd5, cd6, cd7, cd8, (fun _ => rfl), (fun _ => rfl), cd11, cd12, cd13, cd14, cd15, cd16⟩
                      · rintro L a w ⟨b0, b1, b2, b3, b4, b5, b6, b7, b8, b9, b10, b11, b12, b13, b14, b15, b16, x51, x52, x53, x54, x55, x56, x57, x58, x59, x60, x61, x62, x63, x64, x65, x66, x67, rfl, rfl, hb, cd0, cd1, cd2, cd3, cd4, cd5, cd6, cd7, cd8, cd9, cd10, cd11, cd12, cd13, cd14, cd15, cd16⟩ hf hd
                        have hf' : b11 = false := hf
                        subst hf'
                        have d10 : b10 = true := hd ⟨10, .data⟩ (by simp) rfl
                        subst d10
                        obtain rfl := cd10.out rfl
                        clear hf hd
                        try simp only [List.setIfInBounds_toArray, List.set_cons_zero, List.set_cons_succ]
                        intro K hK
                        rw [if_pos (by rfl)]
                        go_simp
                        exact hK.out _ _ ⟨b0, b1, b2, b3, b4, b5, b6, b7, b8, b9, true, true, b12, b13, b14, b15, b16, x51, x52, x53, x54, x55, x56, x57, x58, x59, x60, .bool true, (.bool true), x63, x64, x65, x66, x67, (by simp only [Act.put, List.setIfInBounds_toArray, List.set_cons_zero, List.set_cons_succ]), (by simp only [Act.put, List.setIfInBounds_toArray, List.set_cons_zero, List.set_cons_succ]), hb, cd0, cd1, cd2, cd3, cd4, cd5, cd6, cd7, cd8, cd9, (fun _ => rfl), (fun _ => rfl), cd12, cd13, cd14, cd15, cd16⟩
                      · rintro L a w ⟨b0, b1, b2, b3, b4, b5, b6, b7, b8, b9, b10, b11, b12, b13, b14, b15, b16, x51, x52, x53, x54, x55, x56, x57, x58, x59, x60, x61, x62, x63, x64, x65, x66, x67, rfl, rfl, hb, cd0, cd1, cd2, cd3, cd4, cd5, cd6, cd7, cd8, cd9, cd10, cd11, cd12, cd13, cd14, cd15, cd16⟩ hf hd
                        have hf' : b12 = false := hf
                        subst hf'
                        have d11 : b11 = true := hd ⟨11, .guard⟩ (by simp) rfl
                        subst d11
                        obtain rfl := cd11.out rfl
                        clear hf hd
                        try simp only [List.setIfInBounds_toArray, List.set_cons_zero, List.set_cons_succ]
                        intro K hK
                        rw [if_pos (by rfl)]
                        go_simp
                        exact hK.out _ _ ⟨b0, b1, b2, b3, b4, b5, b6, b7, b8, b9, b10, true, true, b13, b14, b15, b16, x51, x52, x53, x54, x55, x56, x57, x58, x59, x60, x61, .bool true, (.slice so sn sc), x64, x65, x66, x67, (by simp only [Act.put, List.setIfInBounds_toArray, List.set_cons_zero, List.set_cons_succ]), (by simp only [Act.put, List.setIfInBounds_toArray, List.set_cons_zero, List.set_cons_succ]), hb, cd0, cd1, cd2, cd3, cd4, cd5, cd6, cd7, cd8, cd9, cd10, (fun _ => rfl), (fun _ => rfl), cd13, cd14, cd15, cd16⟩
                      · rintro L a w ⟨b0, b1, b2, b3, b4, b5, b6, b7, b8, b9, b10, b11, b12, b13, b14, b15, b16, x51, x52, x53, x54, x55, x56, x57, x58, x59, x60, x61, x62, x63, x64, x65, x66, x67, rfl, rfl, hb, cd0, cd1, cd2, cd3, cd4, cd5, cd6, cd7, cd8, cd9, cd10, cd11, cd12, cd13, cd14, cd15, cd16⟩ hf hd
                        have hf' : b13 = false := hf
                        subst hf'
                        have d11 : b11 = true := hd ⟨11, .guard⟩ (by simp) rfl
                        subst d11
                        obtain rfl := cd11.out rfl
                        clear hf hd
                        try simp only [List.setIfInBounds_toArray, List.set_cons_zero, List.set_cons_succ]
                        intro K hK
                        rw [if_pos (by rfl)]
                        go_simp
                        exact hK.out _ _ ⟨b0, b1, b2, b3, b4, b5, b6, b7, b8, b9, b10, true, b12, true, b14, b15, b16, x51, x52, x53, x54, x55, x56, x57, x58, x59, x60, x61, .bool true, x63, (.int .i64 zs), x65, x66, x67, (by simp only [Act.put, List.setIfInBounds_toArray, List.set_cons_zero, List.set_cons_succ]), (by simp only [Act.put, List.setIfInBounds_toArray, List.set_cons_zero, List.set_cons_succ]), hb, cd0, cd1, cd2, cd3, cd4, cd5, cd6, cd7, cd8, cd9, cd10, (fun _ => rfl), cd12, (fun _ => rfl), cd14, cd15, cd16⟩
                      · rintro L a w ⟨b0, b1, b2, b3, b4, b5, b6, b7, b8, b9, b10, b11, b12, b13, b14, b15, b16, x51, x52, x53, x54, x55, x56, x57, x58, x59, x60, x61, x62, x63, x64, x65, x66, x67, rfl, rfl, hb, cd0, cd1, cd2, cd3, cd4, cd5, cd6, cd7, cd8, cd9, cd10, cd11, cd12, cd13, cd14, cd15, cd16⟩ hf hd
                        have hf' : b14 = false := hf
                        subst hf'
                        have d12 : b12 = true := hd ⟨12, .data⟩ (by simp) rfl
                        subst d12
                        have d13 : b13 = true := hd ⟨13, .data⟩ (by simp) rfl
                        subst d13
                        have d11 : b11 = true := hd ⟨11, .chain⟩ (by simp) rfl
                        subst d11
                        obtain rfl := cd12.out rfl
                        obtain rfl := cd13.out rfl
                        obtain rfl := cd11.out rfl
                        clear hf hd
                        try simp only [List.setIfInBounds_toArray, List.set_cons_zero, List.set_cons_succ]
                        intro K hK
                        rw [if_pos (by rfl)]
                        go_simp
                        go_at_call 111
                        refine (HI _ hb).mono ?_
                        rintro e w' ⟨rfl, rfl⟩
                        exact hK.out _ _ ⟨b0, b1, b2, b3, b4, b5, b6, b7, b8, b9, b10, true, true, true, true, b15, b16, x51, x52, x53, x54, x55, x56, x57, x58, x59, x60, x61, .bool true, .slice so sn sc, .int .i64 zs, (.bool true), x66, x67, (by simp only [Act.put, List.setIfInBounds_toArray, List.set_cons_zero, List.set_cons_succ]), (by simp only [Act.put, List.setIfInBounds_toArray, List.set_cons_zero, List.set_cons_succ]), hb, cd0, cd1, cd2, cd3, cd4, cd5, cd6, cd7, cd8, cd9, cd10, (fun _ => rfl), (fun _ => rfl), (fun _ => rfl), (fun _ => rfl), cd15, cd16⟩
                      · rintro L a w ⟨b0, b1, b2, b3, b4, b5, b6, b7, b8, b9, b10, b11, b12, b13, b14, b15, b16, x51, x52, x53, x54, x55, x56, x57, x58, x59, x60, x61, x62, x63, x64, x65, x66, x67, rfl, rfl, hb, cd0, cd1, cd2, cd3, cd4, cd5, cd6, cd7, cd8, cd9, cd10, cd11, cd12, cd13, cd14, cd15, cd16⟩ hf hd
                        have hf' : b15 = false := hf
                        subst hf'
                        have d14 : b14 = true := hd ⟨14, .data⟩ (by simp) rfl
                        subst d14
                        have d11 : b11 = true := hd ⟨11, .guard⟩ (by simp) rfl
                        subst d11
                        obtain rfl := cd14.out rfl
                        obtain rfl := cd11.out rfl
                        clear hf hd
                        try simp only [List.setIfInBounds_toArray, List.set_cons_zero, List.set_cons_succ]
                        intro K hK
                        rw [if_pos (by rfl)]
                        go_simp
                        exact hK.out _ _ ⟨b0, b1, b2, b3, b4, b5, b6, b7, b8, b9, b10, true, b12, b13, true, true, b16, x51, x52, x53, x54, x55, x56, x57, x58, x59, x60, x61, .bool true, x63, x64, .bool true, (.bool false), x67, (by simp only [Act.put, List.setIfInBounds_toArray, List.set_cons_zero, List.set_cons_succ]), (by simp only [Act.put, List.setIfInBounds_toArray, List.set_cons_zero, List.set_cons_succ]), hb, cd0, cd1, cd2, cd3, cd4, cd5, cd6, cd7, cd8, cd9, cd10, (fun _ => rfl), cd12, cd13, (fun _ => rfl), (fun _ => rfl), cd16⟩
                      · rintro L a w ⟨b0, b1, b2, b3, b4, b5, b6, b7, b8, b9, b10, b11, b12, b13, b14, b15, b16, x51, x52, x53, x54, x55, x56, x57, x58, x59, x60, x61, x62, x63, x64, x65, x66, x67, rfl, rfl, hb, cd0, cd1, cd2, cd3, cd4, cd5, cd6, cd7, cd8, cd9, cd10, cd11, cd12, cd13, cd14, cd15, cd16⟩ hf hd
                        have hf' : b16 = false := hf
                        subst hf'
                        have d11 : b11 = true := hd ⟨11, .data⟩ (by simp) rfl
                        subst d11
                        have d15 : b15 = true := hd ⟨15, .data⟩ (by simp) rfl
                        subst d15
                        obtain rfl := cd11.out rfl
                        obtain rfl := cd15.out rfl
                        clear hf hd
                        try simp only [List.setIfInBounds_toArray, List.set_cons_zero, List.set_cons_succ]
                        intro K hK
                        rw [if_pos (by rfl)]
                        go_simp
                        exact hK.out _ _ ⟨b0, b1, b2, b3, b4, b5, b6, b7, b8, b9, b10, true, b12, b13, b14, true, true, x51, x52, x53, x54, x55, x56, x57, x58, x59, x60, x61, .bool true, x63, x64, x65, .bool false, (.bool false), (by simp only [Act.put, List.setIfInBounds_toArray, List.set_cons_zero, List.set_cons_succ]), (by simp only [Act.put, List.setIfInBounds_toArray, List.set_cons_zero, List.set_cons_succ]), hb, cd0, cd1, cd2, cd3, cd4, cd5, cd6, cd7, cd8, cd9, cd10, (fun _ => rfl), cd12, cd13, cd14, (fun _ => rfl), (fun _ => rfl)⟩
                    · rintro act V ⟨b0, b1, b2, b3, b4, b5, b6, b7, b8, b9, b10, b11, b12, b13, b14, b15, b16, x51, x52, x53, x54, x55, x56, x57, x58, x59, x60, x61, x62, x63, x64, x65, x66, x67, hL, rfl, hb, cd0, cd1, cd2, cd3, cd4, cd5, cd6, cd7, cd8, cd9, cd10, cd11, cd12, cd13, cd14, cd15, cd16⟩
                      have hL' : [true, true, true, true, true, true, true, true, true, true, true, true, true, true, true, true, true] = [b0, b1, b2, b3, b4, b5, b6, b7, b8, b9, b10, b11, b12, b13, b14, b15, b16] := congrArg Array.toList hL
                      simp only [List.cons.injEq, and_true] at hL'
                      obtain ⟨rfl, rfl, rfl, rfl, rfl, rfl, rfl, rfl, rfl, rfl, rfl, rfl, rfl, rfl, rfl, rfl, rfl⟩ := hL'
                      obtain rfl := cd0.out rfl
                      obtain rfl := cd1.out rfl
                      obtain rfl := cd2.out rfl
                      obtain rfl := cd3.out rfl
                      obtain rfl := cd4.out rfl
                      obtain rfl := cd5.out rfl
                      obtain rfl := cd6.out rfl
                      obtain rfl := cd7.out rfl
                      obtain rfl := cd8.out rfl
                      obtain rfl := cd9.out rfl
                      obtain rfl := cd10.out rfl
                      obtain rfl := cd11.out rfl
                      obtain rfl := cd12.out rfl
                      obtain rfl := cd13.out rfl
                      obtain rfl := cd14.out rfl
                      obtain rfl := cd15.out rfl
                      obtain rfl := cd16.out rfl
                      clear hL cd0 cd1 cd2 cd3 cd4 cd5 cd6 cd7 cd8 cd9 cd10 cd11 cd12 cd13 cd14 cd15 cd16
                      simp only [List.setIfInBounds_toArray, List.set_cons_zero, List.set_cons_succ]
                      have BV := (Below.refl _ _).drew.trans hb
                      have F2 := Lib.hid (F.out.past BV)
                      have B2 := B.trans (BV.mono B.size)
                      have hE2 := Lib.hid (take_all (P := fun t => clash ⟨ys, yt, yx⟩ t = true → t.s ∈ L) hE.out hzh.out (fun _ => hin.out))
                      clear hb hE F B hzh hclh
                      go_wp2_with fail
                      go_roundw
                      case rel => exact ⟨so, sn, sc, L, oa, N, c, k + 1, rfl, rfl, by go_num, by omega, F2, hsn, hiN, hBf, B2, ha0h, hD, hE2⟩
                      case measure => simp [intOf]; omega
                  · have hin := Lib.hid hi
                    rw [decide_eq_false hi] at HI
                    clear hi
                    refine region_inv (From13A W7.heap.size p mb moff mn mc nb noff tn tc q k so sn sc ys yt yx zs zt zx) (by kernel_rfl) (by kernel_rfl) ?_ ?_ ?_
                    · exact ⟨false, false, false, false, false, false, false, false, false, false, false, false, false, false, false, false, false, u51, u52, u53, u54, u55, u56, u57, u58, u59, u60, u61, u62, u63, u64, u65, u66, u67, rfl, (by simp only [Act.put, List.setIfInBounds_toArray, List.set_cons_zero, List.set_cons_succ]), Below.refl _ _, (fun h => by cases h), (fun h => by cases h), (fun h => by cases h), (fun h => by cases h), (fun h => by cases h), (fun h => by cases h), (fun h => by cases h), (fun h => by cases h), (fun h => by cases h), (fun h => by cases h), (fun h => by cases h), (fun h => by cases h), (fun h => by cases h), (fun h => by cases h), (fun h => by cases h), (fun h => by cases h), (fun h => by cases h)⟩
                    · refine ⟨?_, ?_, ?_, ?_, ?_, ?_, ?_, ?_, ?_, ?_, ?_, ?_, ?_, ?_, ?_, ?_, ?_, trivial⟩
                      · rintro L a w ⟨b0, b1, b2, b3, b4, b5, b6, b7, b8, b9, b10, b11, b12, b13, b14, b15, b16, x51, x52, x53, x54, x55, x56, x57, x58, x59, x60, x61, x62, x63, x64, x65, x66, x67, rfl, rfl, hb, cd0, cd1, cd2, cd3, cd4, cd5, cd6, cd7, cd8, cd9, cd10, cd11, cd12, cd13, cd14, cd15, cd16⟩ hf hd
                        have hf' : b0 = false := hf
                        subst hf'
                        clear hf hd
                        try simp only [List.setIfInBounds_toArray, List.set_cons_zero, List.set_cons_succ]
                        intro K hK
                        rw [if_pos (by rfl)]
                        go_simp
                        exact hK.out _ _ ⟨true, b1, b2, b3, b4, b5, b6, b7, b8, b9, b10, b11, b12, b13, b14, b15, b16, (.pointer (some ⟨p, 1, none⟩)), x52, x53, x54, x55, x56, x57, x58, x59, x60, x61, x62, x63, x64, x65, x66, x67, (by simp only [Act.put, List.setIfInBounds_toArray, List.set_cons_zero, List.set_cons_succ]), (by simp only [Act.put, List.setIfInBounds_toArray, List.set_cons_zero, List.set_cons_succ]), hb, (fun _ => rfl), cd1, cd2, cd3, cd4, cd5, cd6, cd7, cd8, cd9, cd10, cd11, cd12, cd13, cd14, cd15, cd16⟩
                      · rintro L a w ⟨b0, b1, b2, b3, b4, b5, b6, b7, b8, b9, b10, b11, b12, b13, b14, b15, b16, x51, x52, x53, x54, x55, x56, x57, x58, x59, x60, x61, x62, x63, x64, x65, x66, x67, rfl, rfl, hb, cd0, cd1, cd2, cd3, cd4, cd5, cd6, cd7, cd8, cd9, cd10, cd11, cd12, cd13, cd14, cd15, cd16⟩ hf hd
                        have hf' : b1 = false := hf
                        subst hf'
                        have d0 : b0 = true := hd ⟨0, .data⟩ (by simp) rfl
                        subst d0
                        obtain rfl := cd0.out rfl
                        clear hf hd
                        try simp only [List.setIfInBounds_toArray, List.set_cons_zero, List.set_cons_succ]
                        have z0 := (hb.cell hpB).trans c1
                        intro K hK
                        rw [if_pos (by rfl)]
                        go_simp
                        exact hK.out _ _ ⟨true, true, b2, b3, b4, b5, b6, b7, b8, b9, b10, b11, b12, b13, b14, b15, b16, .pointer (some ⟨p, 1, none⟩), (.slice (some ⟨mb, moff, none⟩) mn mc), x53, x54, x55, x56, x57, x58, x59, x60, x61, x62, x63, x64, x65, x66, x67, (by simp only [Act.put, List.setIfInBounds_toArray, List.set_cons_zero, List.set_cons_succ]), (by simp only [Act.put, List.setIfInBounds_toArray, List.set_cons_zero, List.set_cons_succ]), hb, (fun _ => rfl), (fun _ => rfl), cd2, cd3, cd4, cd5, cd6, cd7, cd8, cd9, cd10, cd11, cd12, cd13, cd14, cd15, cd16⟩
                      · rintro L a w ⟨b0, b1, b2, b3, b4, b5, b6, b7, b8, b9, b10, b11, b12, b13, b14, b15, b16, x51, x52, x53, x54, x55, x56, x57, x58, x59, x60, x61, x62, x63, x64, x65, x66, x67, rfl, rfl, hb, cd0, cd1, cd2, cd3, cd4, cd5, cd6, cd7, cd8, cd9, cd10, cd11, cd12, cd13, cd14, cd15, cd16⟩ hf hd
                        have hf' : b2 = false := hf
                        subst hf'
                        clear hf hd
                        try simp only [List.setIfInBounds_toArray, List.set_cons_zero, List.set_cons_succ]
                        intro K hK
                        rw [if_pos (by rfl)]
                        go_simp
                        exact hK.out _ _ ⟨b0, b1, true, b3, b4, b5, b6, b7, b8, b9, b10, b11, b12, b13, b14, b15, b16, x51, x52, (.int .i64 (q : Nat)), x54, x55, x56, x57, x58, x59, x60, x61, x62, x63, x64, x65, x66, x67, (by simp only [Act.put, List.setIfInBounds_toArray, List.set_cons_zero, List.set_cons_succ]), (by simp only [Act.put, List.setIfInBounds_toArray, List.set_cons_zero, List.set_cons_succ]), hb, cd0, cd1, (fun _ => rfl), cd3, cd4, cd5, cd6, cd7, cd8, cd9, cd10, cd11, cd12, cd13, cd14, cd15, cd16⟩
                      · rintro L a w ⟨b0, b1, b2, b3, b4, b5, b6, b7, b8, b9, b10, b11, b12, b13, b14, b15, b16, x51, x52, x53, x54, x55, x56, x57, x58, x59, x60, x61, x62, x63, x64, x65, x66, x67, rfl, rfl, hb, cd0, cd1, cd2, cd3, cd4, cd5, cd6, cd7, cd8, cd9, cd10, cd11, cd12, cd13, cd14, cd15, cd16⟩ hf hd
                        have hf' : b3 = false := hf
                        subst hf'
                        have d1 : b1 = true := hd ⟨1, .data⟩ (by simp) rfl
                        subst d1
                        have d2 : b2 = true := hd ⟨2, .data⟩ (by simp) rfl
                        subst d2
                        obtain rfl := cd1.out rfl
                        obtain rfl := cd2.out rfl
                        clear hf hd
                        try simp only [List.setIfInBounds_toArray, List.set_cons_zero, List.set_cons_succ]
                        intro K hK
                        rw [if_pos (by rfl)]
                        go_simp
                        exact hK.out _ _ ⟨b0, true, true, true, b4, b5, b6, b7, b8, b9, b10, b11, b12, b13, b14, b15, b16, x51, .slice (some ⟨mb, moff, none⟩) mn mc, .int .i64 (q : Nat), (.pointer (some ⟨mb, moff + q * 3, none⟩)), x55, x56, x57, x58, x59, x60, x61, x62, x63, x64, x65, x66, x67, (by simp only [Act.put, List.setIfInBounds_toArray, List.set_cons_zero, List.set_cons_succ]), (by simp only [Act.put, List.setIfInBounds_toArray, List.set_cons_zero, List.set_cons_succ]), hb, cd0, (fun _ => rfl), (fun _ => rfl), (fun _ => rfl), cd4, cd5, cd6, cd7, cd8, cd9, cd10, cd11, cd12, cd13, cd14, cd15, cd16⟩
                      · rintro L a w ⟨b0, b1, b2, b3, b4, b5, b6, b7, b8, b9, b10, b11, b12, b13, b14, b15, b16, x51, x52, x53, x54, x55, x56, x57, x58, x59, x60, x61, x62, x63, x64, x65, x66, x67, rfl, rfl, hb, cd0, cd1, cd2, cd3, cd4, cd5, cd6, cd7, cd8, cd9, cd10, cd11, cd12, cd13, cd14, cd15, cd16⟩ hf hd
                        have hf' : b4 = false := hf
                        subst hf'
                        have d3 : b3 = true := hd ⟨3, .data⟩ (by simp) rfl
                        subst d3
                        obtain rfl := cd3.out rfl
                        clear hf hd
                        try simp only [List.setIfInBounds_toArray, List.set_cons_zero, List.set_cons_succ]
                        have z0 := (hb.cell hmB).trans y0_
                        have z1 := (hb.cell hmB).trans y1_
                        have z2 := (hb.cell hmB).trans y2_
                        intro K hK
                        rw [if_pos (by rfl)]
                        go_simp
                        exact hK.out _ _ ⟨b0, b1, b2, true, true, b5, b6, b7, b8, b9, b10, b11, b12, b13, b14, b15, b16, x51, x52, x53, .pointer (some ⟨mb, moff + q * 3, none⟩), (.agg #[.int .i64 ys, .string (bsOf yt), .bool yx]), x56, x57, x58, x59, x60, x61, x62, x63, x64, x65, x66, x67, (by simp only [Act.put, List.setIfInBounds_toArray, List.set_cons_zero, List.set_cons_succ]), (by simp only [Act.put, List.setIfInBounds_toArray, List.set_cons_zero, List.set_cons_succ]), hb, cd0, cd1, cd2, (fun _ => rfl), (fun _ => rfl), cd5, cd6, cd7, cd8, cd9, cd10, cd11, cd12, cd13, cd14, cd15, cd16⟩
                      · rintro L a w ⟨b0, b1, b2, b3, b4, b5, b6, b7, b8, b9, b10, b11, b12, b13, b14, b15, b16, x51, x52, x53, x54, x55, x56, x57, x58, x59, x60, x61, x62, x63, x64, x65, x66, x67, rfl, rfl, hb, cd0, cd1, cd2, cd3, cd4, cd5, cd6, cd7, cd8, cd9, cd10, cd11, cd12, cd13, cd14, cd15, cd16⟩ hf hd
                        have hf' : b5 = false := hf
                        subst hf'
                        clear hf hd
                        try simp only [List.setIfInBounds_toArray, List.set_cons_zero, List.set_cons_succ]
                        intro K hK
                        rw [if_pos (by rfl)]
                        go_simp
                        exact hK.out _ _ ⟨b0, b1, b2, b3, b4, true, b6, b7, b8, b9, b10, b11, b12, b13, b14, b15, b16, x51, x52, x53, x54, x55, (.pointer (some ⟨p, 0, none⟩)), x57, x58, x59, x60, x61, x62, x63, x64, x65, x66, x67, (by simp only [Act.put, List.setIfInBounds_toArray, List.set_cons_zero, List.set_cons_succ]), (by simp only [Act.put, List.setIfInBounds_toArray, List.set_cons_zero, List.set_cons_succ]), hb, cd0, cd1, cd2, cd3, cd4, (fun _ => rfl), cd6, cd7, cd8, cd9, cd10, cd11, cd12, cd13, cd14, cd15, cd16⟩
                      · rintro L a w ⟨b0, b1, b2, b3, b4, b5, b6, b7, b8, b9, b10, b11, b12, b13, b14, b15, b16, x51, x52, x53, x54, x55, x56, x57, x58, x59, x60, x61, x62, x63, x64, x65, x66, x67, rfl, rfl, hb, cd0, cd1, cd2, cd3, cd4, cd5, cd6, cd7, cd8, cd9, cd10, cd11, cd12, cd13, cd14, cd15, cd16⟩ hf hd
                        have hf' : b6 = false := hf
                        subst hf'
                        have d5 : b5 = true := hd ⟨5, .data⟩ (by simp) rfl
                        subst d5
                        obtain rfl := cd5.out rfl
                        clear hf hd
                        try simp only [List.setIfInBounds_toArray, List.set_cons_zero, List.set_cons_succ]
                        have z0 := (hb.cell hpB).trans c0
                        intro K hK
                        rw [if_pos (by rfl)]
                        go_simp
                        exact hK.out _ _ ⟨b0, b1, b2, b3, b4, true, true, b7, b8, b9, b10, b11, b12, b13, b14, b15, b16, x51, x52, x53, x54, x55, .pointer (some ⟨p, 0, none⟩), (.slice (some ⟨nb, noff, none⟩) tn tc), x58, x59, x60, x61, x62, x63, x64, x65, x66, x67, (by simp only [Act.put, List.setIfInBounds_toArray, List.set_cons_zero, List.set_cons_succ]), (by simp only [Act.put, List.setIfInBounds_toArray, List.set_cons_zero, List.set_cons_succ]), hb, cd0, cd1, cd2, cd3, cd4, (fun _ => rfl), (fun _ => rfl), cd7, cd8, cd9, cd10, cd11, cd12, cd13, cd14, cd15, cd16⟩
                      · rintro L a w ⟨b0, b1, b2, b3, b4, b5, b6, b7, b8, b9, b10, b11, b12, b13, b14, b15, b16, x51, x52, x53, x54, x55, x56, x57, x58, x59, x60, x61, x62, x63, x64, x65, x66, x67, rfl, rfl, hb, cd0, cd1, cd2, cd3, cd4, cd5, cd6, cd7, cd8, cd9, cd10, cd11, cd12, cd13, cd14, cd15, cd16⟩ hf hd
                        have hf' : b7 = false := hf
                        subst hf'
                        clear hf hd
                        try simp only [List.setIfInBounds_toArray, List.set_cons_zero, List.set_cons_succ]
                        intro K hK
                        rw [if_pos (by rfl)]
                        go_simp
                        exact hK.out _ _ ⟨b0, b1, b2, b3, b4, b5, b6, true, b8, b9, b10, b11, b12, b13, b14, b15, b16, x51, x52, x53, x54, x55, x56, x57, (.int .i64 (k : Nat)), x59, x60, x61, x62, x63, x64, x65, x66, x67, (by simp only [Act.put, List.setIfInBounds_toArray, List.set_cons_zero, List.set_cons_succ]), (by simp only [Act.put, List.setIfInBounds_toArray, List.set_cons_zero, List.set_cons_succ]), hb, cd0, cd1, cd2, cd3, cd4, cd5, cd6, (fun _ => rfl), cd8, cd9, cd10, cd11, cd12, cd13, cd14, cd15, cd16⟩
                      · rintro L a w ⟨b0, b1, b2, b3, b4, b5, b6, b7, b8, b9, b10, b11, b12, b13, b14, b15, b16, x51, x52, x53, x54, x55, x56, x57, x58, x59, x60, x61, x62, x63, x64, x65, x66, x67, rfl, rfl, hb, cd0, cd1, cd2, cd3, cd4, cd5, cd6, cd7, cd8, cd9, cd10, cd11, cd12, cd13, cd14, cd15, cd16⟩ hf hd
                        have hf' : b8 = false := hf
                        subst hf'
                        have d6 : b6 = true := hd ⟨6, .data⟩ (by simp) rfl
                        subst d6
                        have d7 : b7 = true := hd ⟨7, .data⟩ (by simp) rfl
                        subst d7
                        obtain rfl := cd6.out rfl
                        obtain rfl := cd7.out rfl
                        clear hf hd
                        try simp only [List.setIfInBounds_toArray, List.set_cons_zero, List.set_cons_succ]
                        intro K hK
                        rw [if_pos (by rfl)]
                        go_simp
                        exact hK.out _ _ ⟨b0, b1, b2, b3, b4, b5, true, true, true, b9, b10, b11, b12, b13, b14, b15, b16, x51, x52, x53, x54, x55, x56, .slice (some ⟨nb, noff, none⟩) tn tc, .int .i64 (k : Nat), (.pointer (some ⟨nb, noff + k * 3, none⟩)), x60, x61, x62, x63, x64, x65, x66, x67, (by simp only [Act.put, List.setIfInBounds_toArray, List.set_cons_zero, List.set_cons_succ]), (by simp only [Act.put, List.setIfInBounds_toArray, List.set_cons_zero, List.set_cons_succ]), hb, cd0, cd1, cd2, cd3, cd4, cd5, (fun _ => rfl), (fun _ => rfl), (fun _ => rfl), cd9, cd10, cd11, cd12, cd13, cd14, cd15, cd16⟩
                      · rintro L a w ⟨b0, b1, b2, b3, b4, b5, b6, b7, b8, b9, b10, b11, b12, b13, b14, b15, b16, x51, x52, x53, x54, x55, x56, x57, x58, x59, x60, x61, x62, x63, x64, x65, x66, x67, rfl, rfl, hb, cd0, cd1, cd2, cd3, cd4, cd5, cd6, cd7, cd8, cd9, cd10, cd11, cd12, cd13, cd14, cd15, cd16⟩ hf hd
                        have hf' : b9 = false := hf
                        subst hf'
                        have d8 : b8 = true := hd ⟨8, .data⟩ (by simp) rfl
                        subst d8
                        obtain rfl := cd8.out rfl
                        clear hf hd
                        try simp only [List.setIfInBounds_toArray, List.set_cons_zero, List.set_cons_succ]
                        have z0 := (hb.cell hnB).trans x0_
                        have z1 := (hb.cell hnB).trans x1_
                        have z2 := (hb.cell hnB).trans x2_
                        intro K hK
                        rw [if_pos (by rfl)]
                        go_simp
                        exact hK.out _ _ ⟨b0, b1, b2, b3, b4, b5, b6, b7, true, true, b10, b11, b12, b13, b14, b15, b16, x51, x52, x53, x54, x55, x56, x57, x58, .pointer (some ⟨nb, noff + k * 3, none⟩), (.agg #[.int .i64 zs, .string (bsOf zt), .bool zx]), x61, x62, x63, x64, x65, x66, x67, (by simp only [Act.put, List.setIfInBounds_toArray, List.set_cons_zero, List.set_cons_succ]), (by simp only [Act.put, List.setIfInBounds_toArray, List.set_cons_zero, List.set_cons_succ]), hb, cd0, cd1, cd2, cd3, cd4, cd5, cd6, cd7, (fun _ => rfl), (fun _ => rfl), cd10, cd11, cd12, cd13, cd14, cd15, cd16⟩
                      · rintro L a w ⟨b0, b1, b2, b3, b4, b5, b6, b7, b8, b9, b10, b11, b12, b13, b14, b15, b16, x51, x52, x53, x54, x55, x56, x57, x58, x59, x60, x61, x62, x63, x64, x65, x66, x67, rfl, rfl, hb, cd0, cd1, cd2, cd3, cd4, cd5, cd6, cd7, cd8, cd9, cd10, cd11, cd12, cd13, cd14, cd15, cd16⟩ hf hd
                        have hf' : b10 = false := hf
                        subst hf'
                        have d4 : b4 = true := hd ⟨4, .data⟩ (by simp) rfl
                        subst d4
                        have d9 : b9 = true := hd ⟨9, .data⟩ (by simp) rfl
                        subst d9
                        obtain rfl := cd4.out rfl
                        obtain rfl := cd9.out rfl
                        clear hf hd
                        try simp only [List.setIfInBounds_toArray, List.set_cons_zero, List.set_cons_succ]
                        intro K hK
                        rw [if_pos (by rfl)]
                        go_simp
                        go_at_call 107
                        refine (HC _).mono ?_
                        rintro e w' ⟨rfl, bx⟩
                        exact hK.out _ _ ⟨b0, b1, b2, b3, true, b5, b6, b7, b8, true, true, b11, b12, b13, b14, b15, b16, x51, x52, x53, x54, .agg #[.int .i64 ys, .string (bsOf yt), .bool yx], x56, x57, x58, x59, .agg #[.int .i64 zs, .string (bsOf zt), .bool zx], (.bool true), x62, x63, x64, x65, x66, x67, (by simp only [Act.put, List.setIfInBounds_toArray, List.set_cons_zero, List.set_cons_succ]), (by simp only [Act.put, List.setIfInBounds_toArray, List.set_cons_zero, List.set_cons_succ]), hb.trans (bx.mono (Nat.le_trans hB0 hb.size)), cd0, cd1, cd2, cd3, (fun _ => rfl), cd5, cd6, cd7, cd8, (fun _ => rfl), (fun _ => rfl), cd11, cd12, cd13, cd14, cd15, cd16⟩
                      · rintro L a w ⟨b0, b1, b2, b3, b4, b5, b6, b7, b8, b9, b10, b11, b12, b13, b14, b15, b16, x51, x52, x53, x54, x55, x56, x57, x58, x59, x60, x61, x62, x63, x64, x65, x66, x67, rfl, rfl, hb, cd0, cd1, cd2, cd3, cd4, cd5, cd6, cd7, cd8, cd9, cd10, cd11, cd12, cd13, cd14, cd15, cd16⟩ hf hd
                        have hf' : b11 = false := hf
                        subst hf'
                        have d10 : b10 = true := hd ⟨10, .data⟩ (by simp) rfl
                        subst d10
                        obtain rfl := cd10.out rfl
                        clear hf hd
                        try simp only [List.setIfInBounds_toArray, List.set_cons_zero, List.set_cons_succ]
                        intro K hK
                        rw [if_pos (by rfl)]
                        go_simp
                        exact hK.out _ _ ⟨b0, b1, b2, b3, b4, b5, b6, b7, b8, b9, true, true, b12, b13, b14, b15, b16, x51, x52, x53, x54, x55, x56, x57, x58, x59, x60, .bool true, (.bool true), x63, x64, x65, x66, x67, (by simp only [Act.put, List.setIfInBounds_toArray, List.set_cons_zero, List.set_cons_succ]), (by simp only [Act.put, List.setIfInBounds_toArray, List.set_cons_zero, List.set_cons_succ]), hb, cd0, cd1, cd2, cd3, cd4, cd5, cd6, cd7, cd8, cd9, (fun _ => rfl), (fun _ => rfl), cd12, cd13, cd14, cd15, cd16⟩
                      · rintro L a w ⟨b0, b1, b2, b3, b4, b5, b6, b7, b8, b9, b10, b11, b12, b13, b14, b15, b16, x51, x52, x53, x54, x55, x56, x57, x58, x59, x60, x61, x62, x63, x64, x65, x66, x67, rfl, rfl, hb, cd0, cd1, cd2, cd3, cd4, cd5, cd6, cd7, cd8, cd9, cd10, cd11, cd12, cd13, cd14, cd15, cd16⟩ hf hd
                        have hf' : b12 = false := hf
                        subst hf'
                        have d11 : b11 = true := hd ⟨11, .guard⟩ (by simp) rfl
                        subst d11
                        obtain rfl := cd11.out rfl
                        clear hf hd
                        try simp only [List.setIfInBounds_toArray, List.set_cons_zero, List.set_cons_succ]
                        intro K hK
                        rw [if_pos (by rfl)]
                        go_simp
                        exact hK.out _ _ ⟨b0, b1, b2, b3, b4, b5, b6, b7, b8, b9, b10, true, true, b13, b14, b15, b16, x51, x52, x53, x54, x55, x56, x57, x58, x59, x60, x61, .bool true, (.slice so sn sc), x64, x65, x66, x67, (by simp only [Act.put, List.setIfInBounds_toArray, List.set_cons_zero, List.set_cons_succ]), (by simp only [Act.put, List.setIfInBounds_toArray, List.set_cons_zero, List.set_cons_succ]), hb, cd0, cd1, cd2, cd3, cd4, cd5, cd6, cd7, cd8, cd9, cd10, (fun _ => rfl), (fun _ => rfl), cd13, cd14, cd15, cd16⟩
                      · rintro L a w ⟨b0, b1, b2, b3, b4, b5, b6, b7, b8, b9, b10, b11, b12, b13, b14, b15, b16, x51, x52, x53, x54, x55, x56, x57, x58, x59, x60, x61, x62, x63, x64, x65, x66, x67, rfl, rfl, hb, cd0, cd1, cd2, cd3, cd4, cd5, cd6, cd7, cd8, cd9, cd10, cd11, cd12, cd13, cd14, cd15, cd16⟩ hf hd
                        have hf' : b13 = false := hf
                        subst hf'
                        have d11 : b11 = true := hd ⟨11, .guard⟩ (by simp) rfl
                        subst d11
                        obtain rfl := cd11.out rfl
                        clear hf hd
                        try simp only [List.setIfInBounds_toArray, List.set_cons_zero, List.set_cons_succ]
                        intro K hK
                        rw [if_pos (by rfl)]
                        go_simp
                        exact hK.out _ _ ⟨b0, b1, b2, b3, b4, b5, b6, b7, b8, b9, b10, true, b12, true, b14, b15, b16, x51, x52, x53, x54, x55, x56, x57, x58, x59, x60, x61, .bool true, x63, (.int .i64 zs), x65, x66, x67, (by simp only [Act.put, List.setIfInBounds_toArray, List.set_cons_zero, List.set_cons_succ]), (by simp only [Act.put, List.setIfInBounds_toArray, List.set_cons_zero, List.set_cons_succ]), hb, cd0, cd1, cd2, cd3, cd4, cd5, cd6, cd7, cd8, cd9, cd10, (fun _ => rfl), cd12, (fun _ => rfl), cd14, cd15, cd16⟩
                      · rintro L a w ⟨b0, b1, b2, b3, b4, b5, b6, b7, b8, b9, b10, b11, b12, b13, b14, b15, b16, x51, x52, x53, x54, x55, x56, x57, x58, x59, x60, x61, x62, x63, x64, x65, x66, x67, rfl, rfl, hb, cd0, cd1, cd2, cd3, cd4, cd5, cd6, cd7, cd8, cd9, cd10, cd11, cd12, cd13, cd14, cd15, cd16⟩ hf hd
                        have hf' : b14 = false := hf
                        subst hf'
                        have d12 : b12 = true := hd ⟨12, .data⟩ (by simp) rfl
                        subst d12
                        have d13 : b13 = true := hd ⟨13, .data⟩ (by simp) rfl
                        subst d13
                        have d11 : b11 = true := hd ⟨11, .chain⟩ (by simp) rfl
                        subst d11
                        obtain rfl := cd12.out rfl
                        obtain rfl := cd13.out rfl
                        obtain rfl := cd11.out rfl
                        clear hf hd
                        try simp only [List.setIfInBounds_toArray, List.set_cons_zero, List.set_cons_succ]
                        intro K hK
                        rw [if_pos (by rfl)]
                        go_simp
                        go_at_call 111
                        refine (HI _ hb).mono ?_
                        rintro e w' ⟨rfl, rfl⟩
                        exact hK.out _ _ ⟨b0, b1, b2, b3, b4, b5, b6, b7, b8, b9, b10, true, true, true, true, b15, b16, x51, x52, x53, x54, x55, x56, x57, x58, x59, x60, x61, .bool true, .slice so sn sc, .int .i64 zs, (.bool false), x66, x67, (by simp only [Act.put, List.setIfInBounds_toArray, List.set_cons_zero, List.set_cons_succ]), (by simp only [Act.put, List.setIfInBounds_toArray, List.set_cons_zero, List.set_cons_succ]), hb, cd0, cd1, cd2, cd3, cd4, cd5, cd6, cd7, cd8, cd9, cd10, (fun _ => rfl), (fun _ => rfl), (fun _ => rfl), (fun _ => rfl), cd15, cd16⟩
                      · rintro L a w ⟨b0, b1, b2, b3, b4, b5, b6, b7, b8, b9, b10, b11, b12, b13, b14, b15, b16, x51, x52, x53, x54, x55, x56, x57, x58, x59, x60, x61, x62, x63, x64, x65, x66, x67, rfl, rfl, hb, cd0, cd1, cd2, cd3, cd4, cd5, cd6, cd7, cd8, cd9, cd10, cd11, cd12, cd13, cd14, cd15, cd16⟩ hf hd
                        have hf' : b15 = false := hf
                        subst hf'
                        have d14 : b14 = true := hd ⟨14, .data⟩ (by simp) rfl
                        subst d14
                        have d11 : b11 = true := hd ⟨11, .guard⟩ (by simp) rfl
                        subst d11
                        obtain rfl := cd14.out rfl
                        obtain rfl := cd11.out rfl
                        clear hf hd
                        try simp only [List.setIfInBounds_toArray, List.set_cons_zero, List.set_cons_succ]
                        intro K hK
                        rw [if_pos (by rfl)]
                        go_simp
                        exact hK.out _ _ ⟨b0, b1, b2, b3, b4, b5, b6, b7, b8, b9, b10, true, b12, b13, true, true, b16, x51, x52, x53, x54, x55, x56, x57, x58, x59, x60, x61, .bool true, x63, x64, .bool false, (.bool true), x67, (by simp only [Act.put, List.setIfInBounds_toArray, List.set_cons_zero, List.set_cons_succ]), (by simp only [Act.put, List.setIfInBounds_toArray, List.set_cons_zero, List.set_cons_succ]), hb, cd0, cd1, cd2, cd3, cd4, cd5, cd6, cd7, cd8, cd9, cd10, (fun _ => rfl), cd12, cd13, (fun _ => rfl), (fun _ => rfl), cd16⟩
                      · rintro L a w ⟨b0, b1, b2, b3, b4, b5, b6, b7, b8, b9, b10, b11, b12, b13, b14, b15, b16, x51, x52, x53, x54, x55, x56, x57, x58, x59, x60, x61, x62, x63, x64, x65, x66, x67, rfl, rfl, hb, cd0, cd1, cd2, cd3, cd4, cd5, cd6, cd7, cd8, cd9, cd10, cd11, cd12, cd13, cd14, cd15, cd16⟩ hf hd
                        have hf' : b16 = false := hf
                        subst hf'
                        have d11 : b11 = true := hd ⟨11, .data⟩ (by simp) rfl
                        subst d11
                        have d15 : b15 = true := hd ⟨15, .data⟩ (by simp) rfl
                        subst d15
                        obtain rfl := cd11.out rfl
                        obtain rfl := cd15.out rfl
                        clear hf hd
                        try simp only [List.setIfInBounds_toArray, List.set_cons_zero, List.set_cons_succ]
                        intro K hK
                        rw [if_pos (by rfl)]
                        go_simp
                        exact hK.out _ _ ⟨b0, b1, b2, b3, b4, b5, b6, b7, b8, b9, b10, true, b12, b13, b14, true, true, x51, x52, x53, x54, x55, x56, x57, x58, x59, x60, x61, .bool true, x63, x64, x65, .bool true, (.bool true), (by simp only [Act.put, List.setIfInBounds_toArray, List.set_cons_zero, List.set_cons_succ]), (by simp only [Act.put, List.setIfInBounds_toArray, List.set_cons_zero, List.set_cons_succ]), hb, cd0, cd1, cd2, cd3, cd4, cd5, cd6, cd7, cd8, cd9, cd10, (fun _ => rfl), cd12, cd13, cd14, (fun _ => rfl), (fun _ => rfl)⟩
                    · rintro act V ⟨b0, b1, b2, b3, b4, b5, b6, b7, b8, b9, b10, b11, b12, b13, b14, b15, b16, x51, x52, x53, x54, x55, x56, x57, x58, x59, x60, x61, x62, x63, x64, x65, x66, x67, hL, rfl, hb, cd0, cd1, cd2, cd3, cd4, cd5, cd6, cd7, cd8, cd9, cd10, cd11, cd12, cd13, cd14, cd15, cd16⟩
                      have hL' : [true, true, true, true, true, true, true, true, true, true, true, true, true, true, true, true, true] = [b0, b1, b2, b3, b4, b5, b6, b7, b8, b9, b10, b11, b12, b13, b14, b15, b16] := congrArg Array.toList hL
                      simp only [List.cons.injEq, and_true] at hL'
                      obtain ⟨rfl, rfl, rfl, rfl, rfl, rfl, rfl, rfl, rfl, rfl, rfl, rfl, rfl, rfl, rfl, rfl, rfl⟩ := hL'
                      obtain rfl := cd0.out rfl
                      obtain rfl := cd1.out rfl
                      obtain rfl := cd2.out rfl
                      obtain rfl := cd3.out rfl
                      obtain rfl := cd4.out rfl
                      obtain rfl := cd5.out rfl
                      obtain rfl := cd6.out rfl
                      obtain rfl := cd7.out rfl
                      obtain rfl := cd8.out rfl
                      obtain rfl := cd9.out rfl
                      obtain rfl := cd10.out rfl
                      obtain rfl := cd11.out rfl
                      obtain rfl := cd12.out rfl
                      obtain rfl := cd13.out rfl
                      obtain rfl := cd14.out rfl
                      obtain rfl := cd15.out rfl
                      obtain rfl := cd16.out rfl
                      clear hL cd0 cd1 cd2 cd3 cd4 cd5 cd6 cd7 cd8 cd9 cd10 cd11 cd12 cd13 cd14 cd15 cd16
                      simp only [List.setIfInBounds_toArray, List.set_cons_zero, List.set_cons_succ]
                      have BV := (Below.refl _ _).drew.trans hb
                      have F2 := F.out.past BV
                      have B2 := B.trans (BV.mono B.size)
                      have hLs := hBf.out.small
                      have hEd : Ed M T _ zs := ⟨_, hyM.out, rfl, _, hzT.out, rfl, hclh.out⟩
                      have hB2 := Lib.hid (hBf.out.add (at_head ha0h.out) hEd hin.out (by omega))
                      have hE2 := Lib.hid (take_all (P := fun t => clash ⟨ys, yt, yx⟩ t = true → t.s ∈ L ++ [zs]) (fun t ht e => List.mem_append.2 (.inl (hE.out t ht e))) hzh.out (fun _ => by simp))
                      have hD2 : Hid (∀ m ∈ M.take q, m.s = ys → ∀ t ∈ T, clash m t = true → t.s ∈ L ++ [zs]) := Lib.hid fun m hm e t ht e2 => List.mem_append.2 (.inl (hD.out m hm e t ht e2))
                      have ha2 := Lib.hid (at_more (y := zs) ha0h.out)
                      have oI : OwnR EI (V.alloc (.cells #[.int .i64 zs] 3)) 3 V.heap.size 1 1 [zs] := OwnR.ofBlk (heap_alloc_new V _) rfl rfl (by omega)
                      have bI : Below V.heap.size V (V.alloc (.cells #[.int .i64 zs] 3)) := (Below.refl _ _).alloc (Nat.le_refl _) _
                      have sI := oI.isR.src (P := Try.prog) Try.underlying73
                      have F4 := Lib.hid (F2.past bI)
                      have B4 := B2.trans (bI.mono B2.size)
                      have hB4 := B4.size
                      have hN1 : sn + 1 ≤ 1000000 := by omega
                      have hN2 : N + 1 ≤ 1000000 := by omega
                      have hdr := Lib.hid (show (s :: (L ++ [zs])).drop (i + 1) = (s :: L).drop (i + 1) ++ [zs] by rw [← List.cons_append, List.drop_append_of_le_length (by simp; omega)])
                      clear hb hE F B hzh hclh hEd hBf hD ha0h hin F2 BV oI
                      go_wp2_with (first
                        | (at_builtin; refine wpList_append_o rfl _ _ 73 73 rfl 3 rowTyI W.heap.size hB4 so sn sc L rfl F4.out.sn _ rfl 1 [zs] sI rfl (by omega) hN1 (sn + 1) rfl ?_; intro so7 c7 w7 o7 g7 b7 q7; have F7 := F4.out.pushS o7 (by omega) g7 q7; have oJ : OwnR EI (w7.alloc (.cells #[.int .i64 zs] 3)) 3 w7.heap.size 1 1 [zs] := OwnR.ofBlk (heap_alloc_new w7 _) rfl rfl (by omega); have bJ : Below w7.heap.size w7 (w7.alloc (.cells #[.int .i64 zs] 3)) := (Below.refl _ _).alloc (Nat.le_refl _) _; have sJ := oJ.isR.src (P := Try.prog) Try.underlying73; have F8 := Lib.hid (F7.past bJ); have B8 := (B4.trans b7).trans (bJ.mono (Nat.le_trans hB4 b7.size)); have hB8 := B8.size; clear o7 g7 q7 b7 F7 oJ bJ)
                        | (at_builtin; refine wpList_append_o rfl _ _ 73 73 rfl 3 rowTyI W.heap.size hB8 oa N c ((s :: L).drop (i + 1)) rfl F8.out.td _ rfl 1 [zs] sJ rfl (by omega) hN2 (N + 1) rfl ?_; intro oa9 c9 w9 o9 g9 b9 q9))
                      go_roundw
                      case rel => exact ⟨so7, sn + 1, c7, L ++ [zs], oa9, N + 1, c9, k + 1, rfl, rfl, by go_num, by omega, Lib.hid (by rw [hdr.out]; exact F8.out.pushT o9 (by omega) g9 q9), by simp; omega, by omega, hB2, B8.trans b9, ha2, hD2, hE2⟩
                      case measure => simp [intOf]; omega
              · have hysb : (y.s == a0) = false := by simp [hys]
                have hD2 := Lib.hid (take_all (P := fun m => m.s = a0 → ∀ t ∈ T, clash m t = true → t.s ∈ L) hD.out hyh.out (fun e => absurd e hys))
                subst hmo
                obtain ⟨ys, yt, yx⟩ := y
                simp only at y0_ y1_ y2_ hysb
                clear hE hD hys
                go_wp2_with fail
                go_roundw
                case rel => exact ⟨so, sn, sc, L, oa, N, c, q + 1, rfl, rfl, by go_num, by omega, F, hsn, hiN, hBf, B, ha0h, hD2⟩
                case measure => simp [intOf]; omega
            · have hlki : ¬ ((k : Int) < (tn : Int)) := by omega
              obtain rfl : k = tn := by omega
              have hE2 := hE.out
              rw [List.take_of_length_le (by omega)] at hE2
              have hD2 := Lib.hid (take_all (P := fun m => m.s = a0 → ∀ t ∈ T, clash m t = true → t.s ∈ L) hD.out hyh.out (fun _ => hE2))
              clear hE hD hE2
              go_wp2_with fail
              go_roundw
              case rel => exact ⟨so, sn, sc, L, oa, N, c, q + 1, rfl, rfl, by go_num, by omega, F, hsn, hiN, hBf, B, ha0h, hD2⟩
              case measure => simp [intOf]; omega
        · have hlqi : ¬ ((q : Int) < (mn : Int)) := by omega
          obtain rfl : q = mn := by omega
          rw [List.take_of_length_le (by omega)] at hD
          have hB2 := Lib.hid (hBf.out.next ha0h.out (fun m hm t ht e => hD.out m (mem_own.1 hm).1 (mem_own.1 hm).2 t ht e))
          clear hD hBf
          go_wp2_with fail
          go_roundw
          case rel => exact ⟨so, sn, sc, L, oa, N, c, i + 1, rfl, rfl, F, hsn, hiN, hB2, B⟩
          case measure => simp [slen]; omega
    · have hlti : ¬ ((0 : Int) < (N : Int)) := by omega
      have hall : Hid (∀ x, x ∈ L ↔ Rch M T s x) := Lib.hid (hBf.out.all (by omega))
      have hsnl := F.out.sn.isR
      go_wp2_with fail
      go_ret
      exact ⟨so, sn, sc, rfl, ⟨L, hsnl, hall.out, by omega⟩, by rw [HP.out]; exact BA.trans (B.mono (Nat.le_of_lt hpW))⟩
end Go.Proofs.Ytllijeciodmckaa
