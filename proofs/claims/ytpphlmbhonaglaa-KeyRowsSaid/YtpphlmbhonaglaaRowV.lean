/-
  Rows of values: how one lies in cells; what is written of one, and of a row; row.valueBytes.
-/
import Derived.Test.YtpphlmbhonaglaaRow
import Derived.Test.YtpphlmbhonaglaaSmall
import Derived.Test.YtpphlmbhonaglaaVAt
namespace Go.Proofs.Ytpphlmbhonaglaa
open Go.RowKit

/-- A value. -/
structure V where
  k : Int
  n : Int
  s : ByteArray
def V.val (v : V) : Value := vv v.k v.n v.s
def V0 : V := ⟨0, 0, ⟨#[]⟩⟩
def EV : Enc V where
  sz := 3
  f v := [.int .i64 v.k, .int .i64 v.n, .string v.s]
  len _ := rfl
  one v u hu := by
    simp only [List.mem_cons, List.not_mem_nil, or_false] at hu
    rcases hu with rfl | rfl | rfl <;> rfl
theorem info_val : (Try.prog.info? 39).map (fun i => (i.zero, i.size, i.bytes)) = some (some (.agg #[.int .i64 0, .int .i64 0, .string ⟨#[]⟩]), 3, 32) := by kernel_rfl
theorem rowTyV : RowTy EV Try.prog 22 39 V0 := by
  obtain ⟨i, hi, hz, hs, hb⟩ := info_parts info_val
  exact ⟨Try.underlying22, i, _, hi, hz, hs, rfl, by rw [hb]; decide⟩
/-- The cells of the value at place i. -/
theorem cells_v {w : World} {b off : Nat} {l : List V} (h : ∀ j u, (EV.all l)[j]? = some u → w.cell? ⟨b, off + j, none⟩ = some u) (i : Nat) (v : V) (hv : l[i]? = some v) :
    w.cell? ⟨b, off + i * 3, none⟩ = some (.int .i64 v.k) ∧ w.cell? ⟨b, off + i * 3 + 1, none⟩ = some (.int .i64 v.n) ∧ w.cell? ⟨b, off + i * 3 + 2, none⟩ = some (.string v.s) := by
  have g := fun j (hj : j < 3) => EV.all_get l i j v hv hj
  exact ⟨h _ _ (g 0 (by decide)), h _ _ (g 1 (by decide)), h _ _ (g 2 (by decide))⟩
/-- What is written of a value. -/
def encV (v : V) : List UInt8 := le 1 (XU v.k) ++ (if v.k = 1 then le 1 (XU v.n) else if v.k = 2 then le 8 (XU v.n) else if v.k = 3 then tx v.s.data.toList else [])
def encVs (l : List V) : List UInt8 := l.flatMap encV
def encR (l : List V) : List UInt8 := le 1 (XU (l.length : Nat)) ++ encVs l
theorem encVs_nil : encVs [] = [] := rfl
theorem encVs_cons (v : V) (l : List V) : encVs (v :: l) = encV v ++ encVs l := rfl
theorem encVs_snoc (l : List V) (v : V) : encVs (l ++ [v]) = encVs l ++ encV v := by simp [encVs]
theorem encVs_take (l : List V) (i : Nat) (v : V) (h : l[i]? = some v) : encVs (l.take (i + 1)) = encVs (l.take i) ++ encV v := by
  obtain ⟨hj, rfl⟩ := List.getElem?_eq_some_iff.1 h
  rw [List.take_succ_eq_append_getElem hj, encVs_snoc]
theorem tx_length (s : List UInt8) : (tx s).length ≤ 65537 := by
  unfold tx
  rw [List.length_append, le_length, List.length_take]
  omega
theorem encV_length (v : V) : (encV v).length ≤ 65538 := by
  have := tx_length v.s.data.toList
  unfold encV
  rw [List.length_append, le_length]
  split
  · rw [le_length]; omega
  split
  · rw [le_length]; omega
  split
  · omega
  · simp
theorem encVs_length (l : List V) : (encVs l).length ≤ 65538 * l.length := by
  induction l with
  | nil => simp [encVs]
  | cons v l ih =>
    have := encV_length v
    rw [encVs_cons, List.length_append, List.length_cons]
    omega
set_option maxHeartbeats 1000000 in
theorem valueBytes_any (v : V) (w : World) : Calls Try.prog 26 #[v.val] w (Fresh w (encV v).length (encV v)) := by
  obtain ⟨k, n, s⟩ := v
  show Calls Try.prog 26 #[vv k n s] w _
  have b0 : ∀ o, Below w.heap.size w (w.alloc o) := fun o => (Below.refl _ _).alloc (Nat.le_refl _) o
  by_cases k1 : k = 1
  · subst k1
    have E : encV ⟨1, n, s⟩ = le 1 (XU 1) ++ le 1 (XU n) := rfl
    rw [E, List.length_append, le_length, le_length]
    clear E
    go_enter Try.func26, Try.ntmps26
    go_wp2_with (first
      | (go_at_call 25; (with_reducible refine (byte_nil _ _).mono ?_); rintro e w1 ⟨g1, c1, rfl, o1, b1, q1⟩; have B1 := (b0 _).trans (b1.mono (b0 _).size); obtain ⟨z0, z1, z2, -, -, -, -⟩ := (VAt.new w _ _ _).past b1)
      | (go_at_call 25; (with_reducible refine (byte_any _ 1 c1 _ n w1 o1.isB (by omega)).mono ?_); rintro e w2 ⟨g2, c2, rfl, o2, b2, q2⟩; have B2 := B1.trans (b2.mono B1.size)))
    go_ret
    exact ⟨g2, c2, rfl, o2, B2, by have := B1.size; omega⟩
  by_cases k2 : k = 2
  · subst k2
    have E : encV ⟨2, n, s⟩ = le 1 (XU 2) ++ le 8 (XU n) := rfl
    rw [E, List.length_append, le_length, le_length]
    clear E
    go_enter Try.func26, Try.ntmps26
    go_wp2_with (first
      | (go_at_call 25; (with_reducible refine (byte_nil _ _).mono ?_); rintro e w1 ⟨g1, c1, rfl, o1, b1, q1⟩; have B1 := (b0 _).trans (b1.mono (b0 _).size); obtain ⟨z0, z1, z2, -, -, -, -⟩ := (VAt.new w _ _ _).past b1)
      | (go_at_call 53; (with_reducible refine (int_any _ 1 c1 _ n w1 o1.isB (by omega)).mono ?_); rintro e w2 ⟨g2, c2, rfl, o2, b2, q2⟩; have B2 := B1.trans (b2.mono B1.size)))
    go_ret
    exact ⟨g2, c2, rfl, o2, B2, by have := B1.size; omega⟩
  by_cases k3 : k = 3
  · subst k3
    have E : encV ⟨3, n, s⟩ = le 1 (XU 3) ++ tx s.data.toList := rfl
    rw [E, List.length_append, le_length]
    clear E
    go_enter Try.func26, Try.ntmps26
    go_wp2_with (first
      | (go_at_call 25; (with_reducible refine (byte_nil _ _).mono ?_); rintro e w1 ⟨g1, c1, rfl, o1, b1, q1⟩; have B1 := (b0 _).trans (b1.mono (b0 _).size); obtain ⟨z0, z1, z2, -, -, -, -⟩ := (VAt.new w _ _ _).past b1)
      | (go_at_call 54; (with_reducible refine (text_any _ 1 c1 _ s w1 o1.isB (by omega)).mono ?_); rintro e w2 ⟨g2, c2, rfl, o2, b2, q2⟩; have B2 := B1.trans (b2.mono B1.size)))
    go_ret
    exact ⟨g2, c2, rfl, o2, B2, by have := B1.size; omega⟩
  · have h1 : (k == 1) = false := by simp [k1]
    have h2 : (k == 2) = false := by simp [k2]
    have h3 : (k == 3) = false := by simp [k3]
    have E : encV ⟨k, n, s⟩ = le 1 (XU k) := by unfold encV; rw [if_neg k1, if_neg k2, if_neg k3, List.append_nil]
    rw [E, le_length]
    clear E k1 k2 k3
    go_enter Try.func26, Try.ntmps26
    go_wp2_with (go_at_call 25; (with_reducible refine (byte_nil _ _).mono ?_); rintro e w1 ⟨g1, c1, rfl, o1, b1, q1⟩; have B1 := (b0 _).trans (b1.mono (b0 _).size); obtain ⟨z0, z1, z2, -, -, -, -⟩ := (VAt.new w _ _ _).past b1)
    go_ret
    exact ⟨g1, c1, rfl, o1, B1, by have := (b0 (.cells #[.int .i64 k, .int .i64 n, .string s] 39)).size; omega⟩
set_option maxHeartbeats 1000000 in
theorem bytes_any (ao : Option Addr) (n cap : Nat) (l : List V) (w : World) (h : IsR EV w ao n cap l) (hn : n ≤ 300) :
    Calls Try.prog 11 #[.slice ao n cap] w (Fresh w (encR l).length (encR l)) := by
  have hln := h.len
  go_enter Try.func11, Try.ntmps11
  go_wp2_with (go_at_call 25; (with_reducible refine (byte_nil _ _).mono ?_); rintro e w1 ⟨g1, c1, rfl, o1, b1, q1⟩)
  go_loopw [3, 11] (fun b i wr => ∃ j g' cap' : Nat, j ≤ n ∧ i = .int .i64 (j : Nat) ∧ b = .slice (some ⟨g', 0, none⟩) (1 + (encVs (l.take j)).length) cap' ∧ OwnB wr 5 g' (1 + (encVs (l.take j)).length) cap' (le 1 (XU (n : Nat)) ++ encVs (l.take j)) ∧ Below w.heap.size w wr ∧ w.heap.size ≤ g') (fun _ i _ => n - (intOf i).toNat)
  case atStart => exact ⟨0, g1, c1, by omega, rfl, by simp [encVs], by simpa [encVs] using o1, b1, q1⟩
  case round =>
    obtain ⟨j, g', cap', hj, rfl, rfl, ho, hB, hg⟩ := hrel
    clear o1 b1 q1
    have LJ := encVs_length (l.take j)
    rw [List.length_take] at LJ
    by_cases hlt : j < n
    · obtain ⟨v, hv⟩ : ∃ v, l[j]? = some v := ⟨l[j]'(by omega), List.getElem?_eq_getElem _⟩
      obtain ⟨b, off, rfl, hb, hc⟩ := h.open (by omega) (by decide)
      obtain ⟨c0, c1, c2⟩ := cells_v hc j v hv
      rw [← hB.cell hb] at c0 c1 c2
      have hvb := valueBytes_any v
      have LV := encV_length v
      have HT := Lib.hid (encVs_take l j v hv)
      obtain ⟨k, m, s⟩ := v
      simp only at c0 c1 c2
      simp only [V.val] at hvb
      clear hc
      have LE : (encVs (l.take (j + 1))).length = (encVs (l.take j)).length + (encV ⟨k, m, s⟩).length := by rw [HT.out, List.length_append]
      have LE' := Lib.hid LE
      have AE : Hid (le 1 (XU (n : Nat)) ++ encVs (l.take j) ++ encV ⟨k, m, s⟩ = le 1 (XU (n : Nat)) ++ encVs (l.take (j + 1))) := by rw [HT.out, List.append_assoc]; exact rfl
      clear LE HT
      generalize encV ⟨k, m, s⟩ = t at hvb LV LE' AE
      go_wp2_with (first
        | (go_at_call 26; (with_reducible refine (hvb _).mono ?_); rintro e w2 ⟨g2, c2, rfl, o2, b2, q2⟩; have X := Below.alloc (Below.refl wr.heap.size wr) (Nat.le_refl _) (.cells #[.int .i64 k, .int .i64 m, .string s] 39); have B2 := X.trans (b2.mono X.size))
        | (at_builtin; refine wpList_append_ob rfl _ _ 24 24 rfl 5 byteTy g' (1 + (encVs (l.take j)).length) cap' _ rfl (ho.below B2 ho.lt) _ rfl t.length t (o2.isB.src byteTy.ht) (1 + (encVs (l.take (j + 1))).length) (by rw [LE'.out]; omega) _ AE.out (by rw [LE'.out]; omega) ?_; intro g3 c3 w3 o3 p3 q3))
      have s2 := B2.size
      have s1 := hB.size
      go_roundw
      case rel => exact ⟨j + 1, g3, c3, by omega, by go_num, rfl, o3, (hB.trans (B2.mono s1)).trans (p3.below hg (by omega)), by omega⟩
      case measure => simp [intOf]; omega
    · go_wp2_with fail
      go_ret
      obtain rfl : j = n := by omega
      rw [List.take_of_length_le (by omega)] at ho
      have e : encR l = le 1 (XU (j : Nat)) ++ encVs l := by unfold encR; rw [hln]
      rw [e, List.length_append, le_length]
      rw [List.take_of_length_le (by omega)]
      exact ⟨g', cap', rfl, ho, hB, hg⟩
end Go.Proofs.Ytpphlmbhonaglaa
