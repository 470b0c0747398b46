/-
  The document's own locks: Ask (by gen_rlx.py).
-/
import Derived.Test.YtllijeciodmckaaRlV
import Derived.Test.YtllijeciodmckaaOwn3
namespace Go.Proofs.Ytllijeciodmckaa
open Go.RowKit
set_option linter.unusedSimpArgs false
/-- What Ask answers, its holds maybe those of the caller. -/
def RkF (w0 w' : World) (v : Value) (ho : Option Addr) (hn : Nat) (H W : List Hd) : Prop := ∃ ao n c bo m d, v = lkV ao n c bo m d ∧ IsR EHd w' ao n c H ∧ IsR EHd w' bo m d W ∧
  (∀ g, g < w0.heap.size → (0 < hn → ∀ a, ho = some a → a.block ≠ g) → 0 < n → ∀ a, ao = some a → a.block ≠ g) ∧ (0 < m → ∀ a, bo = some a → w0.heap.size ≤ a.block)
def RAskPost (w0 : World) (ho : Option Addr) (hn : Nat) (H W : List Hd) (ab : Bool) (e : Ending) (w' : World) : Prop := ∃ v', e = .returned (.tuple #[v', .bool ab]) ∧ RkF w0 w' v' ho hn H W ∧ Below w0.heap.size w0 w'
theorem At.hit {H : List Hd} {h y : Hd} {i : Nat} (hy : H[i]? = some y) (hs : y.s = h.s) (ht : y.t = h.t) : At (H.take (i + 1)) h ((i : Nat) : Int) :=
  .inr ⟨i, y, rfl, by rw [List.getElem?_take_of_lt (Nat.lt_succ_self i)]; exact hy, hs, ht⟩
theorem At.miss {H : List Hd} {h y : Hd} {i : Nat} {o : Int} (hA : At (H.take i) h o) (hy : H[i]? = some y) (hn : ¬ (y.s = h.s ∧ y.t = h.t)) : At (H.take (i + 1)) h o := by
  rcases hA with ⟨h1, h2⟩ | ⟨j, k, h1, h2, h3⟩
  · exact .inl ⟨h1, take_all (P := fun k => ¬ (k.s = h.s ∧ k.t = h.t)) h2 hy hn⟩
  · refine .inr ⟨j, k, h1, ?_, h3⟩
    have hj : j < i := by
      have := (List.getElem?_eq_some_iff.1 h2).1
      rw [List.length_take] at this
      omega
    rw [List.getElem?_take_of_lt hj] at h2
    rw [List.getElem?_take_of_lt (by omega)]
    exact h2
theorem all_next {H : List Hd} {y : Hd} {i : Nat} (p : Hd → Bool) (hy : H[i]? = some y) : (H.take (i + 1)).all p = ((H.take i).all p && p y) := by
  rw [List.take_add_one, hy, List.all_append]
  simp
theorem all_any (H : List Hd) (h : Hd) : H.any (clash h) = !H.all (fun k => !clash k h) := by
  induction H with
  | nil => rfl
  | cons a H ih => rw [List.any_cons, List.all_cons, ih, clash_comm h a, Bool.not_and, Bool.not_not]
theorem rask_cov {H W : List Hd} {h : Hd} (hc : covers H h = true) : askH H h = H ∧ askW H W h = wo W h.s ∧ askB H h = true := by
  unfold askH askW askB
  rw [hc]
  exact ⟨rfl, rfl, rfl⟩
theorem rask_no {H W : List Hd} {h : Hd} (hc : covers H h = false) (hf : false = H.all (fun k => !clash k h)) : askH H h = H ∧ askW H W h = wo W h.s ++ [h] ∧ askB H h = false := by
  unfold askH askW askB
  rw [hc, all_any, ← hf]
  exact ⟨rfl, rfl, rfl⟩
theorem rask_yes {H W : List Hd} {h : Hd} (hc : covers H h = false) (hf : true = H.all (fun k => !clash k h)) : askH H h = wthH H h ∧ askW H W h = wo W h.s ∧ askB H h = true := by
  unfold askH askW askB
  rw [hc, all_any, ← hf]
  exact ⟨rfl, rfl, rfl⟩
theorem E_set {l : List Hd} {i : Nat} {k : Hd} (hi : i < l.length) (hk : l[i]? = some k) : (EHd.all l).set (i * 3 + 2) (.bool true) = EHd.all (l.set i { k with x := true }) := by
  apply List.ext_getElem?
  intro j
  have hl := EHd.all_length l
  have hl2 := EHd.all_length (l.set i { k with x := true })
  rw [List.length_set] at hl2
  have e3 : EHd.sz = 3 := rfl
  rw [e3] at hl hl2
  by_cases hj : j < l.length * 3
  · obtain ⟨a, b, hb, rfl⟩ : ∃ a b, b < 3 ∧ j = a * 3 + b := ⟨j / 3, j % 3, Nat.mod_lt _ (by decide), by omega⟩
    have ha : a < l.length := by omega
    by_cases e : a = i
    · subst e
      have r1 := Enc.all_get EHd (l.set a { k with x := true }) a b { k with x := true } (List.getElem?_set_self hi) hb
      rw [e3] at r1
      rw [r1]
      by_cases e2 : b = 2
      · subst e2
        rw [List.getElem?_set_self (by omega)]
        rfl
      · rw [List.getElem?_set_ne (by omega)]
        have r2 := Enc.all_get EHd l a b k hk hb
        rw [e3] at r2
        rw [r2]
        have h2 : b = 0 ∨ b = 1 := by omega
        rcases h2 with rfl | rfl <;> rfl
    · rw [List.getElem?_set_ne (by omega)]
      obtain ⟨y, hy⟩ : ∃ y, l[a]? = some y := ⟨l[a], List.getElem?_eq_getElem _⟩
      have r1 := Enc.all_get EHd (l.set i { k with x := true }) a b y (by rw [List.getElem?_set_ne (fun q => e q.symm)]; exact hy) hb
      have r2 := Enc.all_get EHd l a b y hy hb
      rw [e3] at r1 r2
      rw [r1, r2]
  · rw [List.getElem?_eq_none (by rw [List.length_set]; omega), List.getElem?_eq_none (by omega)]
theorem own_setX {w : World} {t : TypeId} {g n cap : Nat} {l : List Hd} (h : OwnR EHd w t g n cap l) (i : Nat) (k : Hd) (hk : l[i]? = some k) :
    OwnR EHd (w.setCell ⟨g, i * 3 + 2, none⟩ (.bool true)) t g n cap (l.set i { k with x := true }) := by
  obtain ⟨cur, hg, hs, ht⟩ := h.row
  have hle := h.le
  have hln := h.len
  have hi := (List.getElem?_eq_some_iff.1 hk).1
  have h3 := Go.Proofs.Ytllijeciodmckaa.heap_setCell_same (i := i * 3 + 2) (v := .bool true) hg
  refine ⟨by rw [List.length_set, hln], hle, h.max, _, h3, by simpa using hs, ?_⟩
  have hcl : cur.toList.length = cap * 3 := by rw [Array.length_toList, hs]; rfl
  simp only [Array.toList_setIfInBounds]
  show _ = EHd.all (l.set i { k with x := true })
  have hlk : l = l.set i k := by
    apply List.ext_getElem?
    intro j
    by_cases e : j = i
    · subst e; rw [List.getElem?_set_self hi, hk]
    · rw [List.getElem?_set_ne (fun q => e q.symm)]
  have e3 : EHd.sz = 3 := rfl
  rw [e3] at ht ⊢
  rw [List.take_set, ht, E_set hi hk]
/-- What stands while the region's operations come up. -/
inductive Ask8T (B : Nat) (p : Nat) (r : Nat) (rb : Nat) (roff : Nat) (hn : Nat) (hc : Nat) (i : Nat) (ys : Int) (yt : List UInt8) (yx : Bool) (s : Int) (t : List UInt8) (x : Bool) (cl : Bool) (a0 : Act) (w0 : World) (L : Array Bool) (a : Act) (w : World) : Prop
  | mk (b0 b1 b2 b3 b4 b5 b6 b7 b8 b9 b10 b11 : Bool) (x38 x39 x40 x41 x42 x43 x44 x45 x46 x47 x48 x7 : Value) (hL : L = #[b0, b1, b2, b3, b4, b5, b6, b7, b8, b9, b10, b11]) (ha : a = ⟨((((((((((((a0.tmps.setIfInBounds 38 x38).setIfInBounds 39 x39).setIfInBounds 40 x40).setIfInBounds 41 x41).setIfInBounds 42 x42).setIfInBounds 43 x43).setIfInBounds 44 x44).setIfInBounds 45 x45).setIfInBounds 46 x46).setIfInBounds 47 x47).setIfInBounds 48 x48).setIfInBounds 7 x7), a0.defers⟩) (hb : Below B w0 w) (cd0 : Hid (b0 = true → x38 = .bool true)) (cd1 : Hid (b1 = true → x39 = .bool true)) (cd2 : Hid (b2 = true → x40 = .pointer (some ⟨p, 0, none⟩))) (cd3 : Hid (b3 = true → x41 = .slice (some ⟨rb, roff, none⟩) hn hc)) (cd4 : Hid (b4 = true → x42 = .int .i64 (i : Nat))) (cd5 : Hid (b5 = true → x43 = .pointer (some ⟨rb, roff + i * 3, none⟩))) (cd6 : Hid (b6 = true → x44 = .agg #[.int .i64 ys, .string (bsOf yt), .bool yx])) (cd7 : Hid (b7 = true → x45 = .agg #[.int .i64 s, .string (bsOf t), .bool x])) (cd8 : Hid (b8 = true → x46 = .bool cl)) (cd9 : Hid (b9 = true → x47 = .bool (!cl))) (cd10 : Hid (b10 = true → x48 = .bool (!cl))) (cd11 : Hid (b11 = true → x7 = .bool (!cl))) (f_o12 : Hid (b11 = true → b0 = true)) (f_s11 : Hid (b11 = false → x7 = .bool true)) : Ask8T B p r rb roff hn hc i ys yt yx s t x cl a0 w0 L a w

/-- What stands while the region's operations come up. -/
inductive Ask8F (B : Nat) (p : Nat) (r : Nat) (rb : Nat) (roff : Nat) (hn : Nat) (hc : Nat) (i : Nat) (ys : Int) (yt : List UInt8) (s : Int) (t : List UInt8) (a0 : Act) (w0 : World) (L : Array Bool) (a : Act) (w : World) : Prop
  | mk (b0 b1 b2 b3 b4 b5 b6 b7 b8 b9 b10 b11 : Bool) (x38 x39 x40 x41 x42 x43 x44 x45 x46 x47 x48 x7 : Value) (hL : L = #[b0, b1, b2, b3, b4, b5, b6, b7, b8, b9, b10, b11]) (ha : a = ⟨((((((((((((a0.tmps.setIfInBounds 38 x38).setIfInBounds 39 x39).setIfInBounds 40 x40).setIfInBounds 41 x41).setIfInBounds 42 x42).setIfInBounds 43 x43).setIfInBounds 44 x44).setIfInBounds 45 x45).setIfInBounds 46 x46).setIfInBounds 47 x47).setIfInBounds 48 x48).setIfInBounds 7 x7), a0.defers⟩) (hb : Below B w0 w) (cd0 : Hid (b0 = true → x38 = .bool false)) (cd1 : Hid (b1 = true → x39 = .bool false)) (cd2 : Hid (b2 = true → x40 = undef)) (cd3 : Hid (b3 = true → x41 = undef)) (cd4 : Hid (b4 = true → x42 = undef)) (cd5 : Hid (b5 = true → x43 = undef)) (cd6 : Hid (b6 = true → x44 = undef)) (cd7 : Hid (b7 = true → x45 = undef)) (cd8 : Hid (b8 = true → x46 = undef)) (cd9 : Hid (b9 = true → x47 = undef)) (cd10 : Hid (b10 = true → x48 = .bool false)) (cd11 : Hid (b11 = true → x7 = .bool false)) (f_o12 : Hid (b11 = true → b0 = true)) (f_s11 : Hid (b11 = false → x7 = .bool false)) : Ask8F B p r rb roff hn hc i ys yt s t a0 w0 L a w

/-- What stands while the region's operations come up. -/
inductive Ask6N (B : Nat) (p : Nat) (r : Nat) (rb : Nat) (roff : Nat) (hn : Nat) (hc : Nat) (i : Nat) (ys : Int) (s : Int) (t : List UInt8) (a0 : Act) (w0 : World) (L : Array Bool) (a : Act) (w : World) : Prop
  | mk (b0 b1 b2 b3 b4 b5 b6 b7 b8 b9 b10 b11 b12 b13 b14 b15 b16 b17 b18 b19 : Bool) (x17 x18 x19 x20 x21 x22 x23 x24 x25 x26 x27 x28 x29 x30 x31 x32 x33 x34 x35 x36 : Value) (hL : L = #[b0, b1, b2, b3, b4, b5, b6, b7, b8, b9, b10, b11, b12, b13, b14, b15, b16, b17, b18, b19]) (ha : a = ⟨((((((((((((((((((((a0.tmps.setIfInBounds 17 x17).setIfInBounds 18 x18).setIfInBounds 19 x19).setIfInBounds 20 x20).setIfInBounds 21 x21).setIfInBounds 22 x22).setIfInBounds 23 x23).setIfInBounds 24 x24).setIfInBounds 25 x25).setIfInBounds 26 x26).setIfInBounds 27 x27).setIfInBounds 28 x28).setIfInBounds 29 x29).setIfInBounds 30 x30).setIfInBounds 31 x31).setIfInBounds 32 x32).setIfInBounds 33 x33).setIfInBounds 34 x34).setIfInBounds 35 x35).setIfInBounds 36 x36), a0.defers⟩) (hb : Below B w0 w) (cd0 : Hid (b0 = true → x17 = .pointer (some ⟨p, 0, none⟩))) (cd1 : Hid (b1 = true → x18 = .slice (some ⟨rb, roff, none⟩) hn hc)) (cd2 : Hid (b2 = true → x19 = .int .i64 (i : Nat))) (cd3 : Hid (b3 = true → x20 = .pointer (some ⟨rb, roff + i * 3, none⟩))) (cd4 : Hid (b4 = true → x21 = .pointer (some ⟨rb, roff + i * 3, none⟩))) (cd5 : Hid (b5 = true → x22 = .int .i64 ys)) (cd6 : Hid (b6 = true → x23 = .pointer (some ⟨r, 0, none⟩))) (cd7 : Hid (b7 = true → x24 = .int .i64 s)) (cd8 : Hid (b8 = true → x25 = .bool false)) (cd9 : Hid (b9 = true → x26 = .bool false)) (cd10 : Hid (b10 = true → x27 = undef)) (cd11 : Hid (b11 = true → x28 = undef)) (cd12 : Hid (b12 = true → x29 = undef)) (cd13 : Hid (b13 = true → x30 = undef)) (cd14 : Hid (b14 = true → x31 = undef)) (cd15 : Hid (b15 = true → x32 = undef)) (cd16 : Hid (b16 = true → x33 = undef)) (cd17 : Hid (b17 = true → x34 = undef)) (cd18 : Hid (b18 = true → x35 = undef)) (cd19 : Hid (b19 = true → x36 = .bool false)) : Ask6N B p r rb roff hn hc i ys s t a0 w0 L a w

/-- What stands while the region's operations come up. -/
inductive Ask6S (B : Nat) (p : Nat) (r : Nat) (rb : Nat) (roff : Nat) (hn : Nat) (hc : Nat) (i : Nat) (yt : List UInt8) (s : Int) (t : List UInt8) (a0 : Act) (w0 : World) (L : Array Bool) (a : Act) (w : World) : Prop
  | mk (b0 b1 b2 b3 b4 b5 b6 b7 b8 b9 b10 b11 b12 b13 b14 b15 b16 b17 b18 b19 : Bool) (x17 x18 x19 x20 x21 x22 x23 x24 x25 x26 x27 x28 x29 x30 x31 x32 x33 x34 x35 x36 : Value) (hL : L = #[b0, b1, b2, b3, b4, b5, b6, b7, b8, b9, b10, b11, b12, b13, b14, b15, b16, b17, b18, b19]) (ha : a = ⟨((((((((((((((((((((a0.tmps.setIfInBounds 17 x17).setIfInBounds 18 x18).setIfInBounds 19 x19).setIfInBounds 20 x20).setIfInBounds 21 x21).setIfInBounds 22 x22).setIfInBounds 23 x23).setIfInBounds 24 x24).setIfInBounds 25 x25).setIfInBounds 26 x26).setIfInBounds 27 x27).setIfInBounds 28 x28).setIfInBounds 29 x29).setIfInBounds 30 x30).setIfInBounds 31 x31).setIfInBounds 32 x32).setIfInBounds 33 x33).setIfInBounds 34 x34).setIfInBounds 35 x35).setIfInBounds 36 x36), a0.defers⟩) (hb : Below B w0 w) (cd0 : Hid (b0 = true → x17 = .pointer (some ⟨p, 0, none⟩))) (cd1 : Hid (b1 = true → x18 = .slice (some ⟨rb, roff, none⟩) hn hc)) (cd2 : Hid (b2 = true → x19 = .int .i64 (i : Nat))) (cd3 : Hid (b3 = true → x20 = .pointer (some ⟨rb, roff + i * 3, none⟩))) (cd4 : Hid (b4 = true → x21 = .pointer (some ⟨rb, roff + i * 3, none⟩))) (cd5 : Hid (b5 = true → x22 = .int .i64 s)) (cd6 : Hid (b6 = true → x23 = .pointer (some ⟨r, 0, none⟩))) (cd7 : Hid (b7 = true → x24 = .int .i64 s)) (cd8 : Hid (b8 = true → x25 = .bool true)) (cd9 : Hid (b9 = true → x26 = .bool true)) (cd10 : Hid (b10 = true → x27 = .pointer (some ⟨p, 0, none⟩))) (cd11 : Hid (b11 = true → x28 = .slice (some ⟨rb, roff, none⟩) hn hc)) (cd12 : Hid (b12 = true → x29 = .int .i64 (i : Nat))) (cd13 : Hid (b13 = true → x30 = .pointer (some ⟨rb, roff + i * 3, none⟩))) (cd14 : Hid (b14 = true → x31 = .pointer (some ⟨rb, roff + i * 3 + 1, none⟩))) (cd15 : Hid (b15 = true → x32 = .string (bsOf yt))) (cd16 : Hid (b16 = true → x33 = .pointer (some ⟨r, 1, none⟩))) (cd17 : Hid (b17 = true → x34 = .string (bsOf t))) (cd18 : Hid (b18 = true → x35 = .bool false)) (cd19 : Hid (b19 = true → x36 = .bool false)) : Ask6S B p r rb roff hn hc i yt s t a0 w0 L a w

/-- What stands while the region's operations come up. -/
inductive Ask6B (B : Nat) (p : Nat) (r : Nat) (rb : Nat) (roff : Nat) (hn : Nat) (hc : Nat) (i : Nat) (s : Int) (t : List UInt8) (a0 : Act) (w0 : World) (L : Array Bool) (a : Act) (w : World) : Prop
  | mk (b0 b1 b2 b3 b4 b5 b6 b7 b8 b9 b10 b11 b12 b13 b14 b15 b16 b17 b18 b19 : Bool) (x17 x18 x19 x20 x21 x22 x23 x24 x25 x26 x27 x28 x29 x30 x31 x32 x33 x34 x35 x36 : Value) (hL : L = #[b0, b1, b2, b3, b4, b5, b6, b7, b8, b9, b10, b11, b12, b13, b14, b15, b16, b17, b18, b19]) (ha : a = ⟨((((((((((((((((((((a0.tmps.setIfInBounds 17 x17).setIfInBounds 18 x18).setIfInBounds 19 x19).setIfInBounds 20 x20).setIfInBounds 21 x21).setIfInBounds 22 x22).setIfInBounds 23 x23).setIfInBounds 24 x24).setIfInBounds 25 x25).setIfInBounds 26 x26).setIfInBounds 27 x27).setIfInBounds 28 x28).setIfInBounds 29 x29).setIfInBounds 30 x30).setIfInBounds 31 x31).setIfInBounds 32 x32).setIfInBounds 33 x33).setIfInBounds 34 x34).setIfInBounds 35 x35).setIfInBounds 36 x36), a0.defers⟩) (hb : Below B w0 w) (cd0 : Hid (b0 = true → x17 = .pointer (some ⟨p, 0, none⟩))) (cd1 : Hid (b1 = true → x18 = .slice (some ⟨rb, roff, none⟩) hn hc)) (cd2 : Hid (b2 = true → x19 = .int .i64 (i : Nat))) (cd3 : Hid (b3 = true → x20 = .pointer (some ⟨rb, roff + i * 3, none⟩))) (cd4 : Hid (b4 = true → x21 = .pointer (some ⟨rb, roff + i * 3, none⟩))) (cd5 : Hid (b5 = true → x22 = .int .i64 s)) (cd6 : Hid (b6 = true → x23 = .pointer (some ⟨r, 0, none⟩))) (cd7 : Hid (b7 = true → x24 = .int .i64 s)) (cd8 : Hid (b8 = true → x25 = .bool true)) (cd9 : Hid (b9 = true → x26 = .bool true)) (cd10 : Hid (b10 = true → x27 = .pointer (some ⟨p, 0, none⟩))) (cd11 : Hid (b11 = true → x28 = .slice (some ⟨rb, roff, none⟩) hn hc)) (cd12 : Hid (b12 = true → x29 = .int .i64 (i : Nat))) (cd13 : Hid (b13 = true → x30 = .pointer (some ⟨rb, roff + i * 3, none⟩))) (cd14 : Hid (b14 = true → x31 = .pointer (some ⟨rb, roff + i * 3 + 1, none⟩))) (cd15 : Hid (b15 = true → x32 = .string (bsOf t))) (cd16 : Hid (b16 = true → x33 = .pointer (some ⟨r, 1, none⟩))) (cd17 : Hid (b17 = true → x34 = .string (bsOf t))) (cd18 : Hid (b18 = true → x35 = .bool true)) (cd19 : Hid (b19 = true → x36 = .bool true)) : Ask6B B p r rb roff hn hc i s t a0 w0 L a w

/-- What stands while the region's operations come up. -/
inductive Ask13 (B : Nat) (p : Nat) (r : Nat) (g : Nat) (S0 : Nat) (ho : Option Addr) (hn : Nat) (hc : Nat) (wq : Option Addr) (wn : Nat) (wc : Nat) (s : Int) (t : List UInt8) (x : Bool) (W : List Hd) (a0 : Act) (w0 : World) (L : Array Bool) (a : Act) (w : World) : Prop
  | mk (b0 b1 b2 b3 b4 b5 b6 b7 b8 b9 : Bool) (x73 x74 x75 x76 x77 x78 x79 x80 x81 : Value) (a1 : Option Addr) (n1 : Nat) (c1 : Nat) (gb : Nat) (g9 : Nat) (c9 : Nat) (hL : L = #[b0, b1, b2, b3, b4, b5, b6, b7, b8, b9]) (ha : a = ⟨(((((((((a0.tmps.setIfInBounds 73 x73).setIfInBounds 74 x74).setIfInBounds 75 x75).setIfInBounds 76 x76).setIfInBounds 77 x77).setIfInBounds 78 x78).setIfInBounds 79 x79).setIfInBounds 80 x80).setIfInBounds 81 x81), a0.defers⟩) (hb : Below B w0 w) (cd0 : Hid (b0 = true → x73 = .pointer (some ⟨p, 1, none⟩))) (cd1 : Hid (b1 = true → x74 = .slice wq wn wc)) (cd2 : Hid (b2 = true → x75 = .pointer (some ⟨r, 0, none⟩))) (cd3 : Hid (b3 = true → x76 = .int .i64 s)) (cd4 : Hid (b4 = true → x77 = .slice a1 n1 c1)) (cd5 : Hid (b5 = true → x78 = .agg #[.int .i64 s, .string (bsOf t), .bool x])) (cd6 : Hid (b6 = true → x79 = .slice (some ⟨gb, 0, none⟩) 1 1)) (cd7 : Hid (b7 = true → x80 = .slice (some ⟨g9, 0, none⟩) (n1 + 1) c9)) (cd8 : Hid (b8 = true → x81 = .pointer (some ⟨p, 1, none⟩))) (f_v : Hid (b9 = false → LkB w p ho hn hc wq wn wc 99)) (f_zh : Hid (HdB w r (⟨s, t, x⟩ : Hd) 112)) (f_zt : Hid (LkB w g none 0 0 none 0 0 99)) (f_m : Hid (b4 = true → b7 = false → TxtR EHd w 112 S0 a1 n1 c1 (wo W s))) (f_bl : Hid (b6 = true → b7 = false → OwnR EHd w 112 gb 1 1 [(⟨s, t, x⟩ : Hd)])) (f_rr : Hid (b7 = true → TxtR EHd w 112 S0 (some ⟨g9, 0, none⟩) (n1 + 1) c9 (wo W s ++ [(⟨s, t, x⟩ : Hd)]))) (f_o : Hid (b9 = true → LkB w p ho hn hc (some ⟨g9, 0, none⟩) (n1 + 1) c9 99)) (f_q4 : Hid (b7 = true → b4 = true)) (f_q6 : Hid (b7 = true → b6 = true)) (f_q44 : Hid (b9 = true → b4 = true)) (f_q66 : Hid (b9 = true → b6 = true)) (f_q77 : Hid (b9 = true → b7 = true)) (f_q1 : Hid (b9 = true → b1 = true)) (f_q1a : Hid (b4 = true → b1 = true)) (w_7_4 : Hid (b7 = true → b4 = true)) : Ask13 B p r g S0 ho hn hc wq wn wc s t x W a0 w0 L a w
end Go.Proofs.Ytllijeciodmckaa
