/-
  The reference's led (by gen_rled.py).
-/
import Derived.Test.YtpphlmbhonaglaaDoorHAt
import Derived.Test.YtpphlmbhonaglaaDoorChk
namespace Go.Proofs.YtpphlmbhonaglaaDoor
open Go.RowKit
set_option linter.unusedSimpArgs false

/-- What led answers: whether the proof is as long as the way, and, if so, where it leads. -/
def LedF (lf : List UInt8) (n i : Nat) (p : List (List UInt8)) (x : List UInt8) (b : Bool) : Prop := b = (p.length == (Mk.dirs n i).length) ∧ (b = true → x = Mk.led two lf (Mk.dirs n i) p)
theorem ledF_left (lf : List UInt8) (n k i : Nat) (p q : List (List UInt8)) (x last : List UInt8) (b : Bool) (hk : k = Mk.part n) (hi : i < k) (hp : p = q ++ [last]) (hn : 2 ≤ n) (h : LedF lf k i q x b) : LedF lf n i p (two x last) b := by
  obtain ⟨h1, h2⟩ := h
  subst hp
  unfold LedF
  rw [Mk.dirs_left n i hn (by omega), ← hk]
  refine ⟨by rw [h1]; simp, fun hb => ?_⟩
  have hl : q.length = (Mk.dirs k i).length := by rw [hb] at h1; simpa using h1.symm
  rw [Mk.led_append _ _ _ _ _ _ hl.symm, ← h2 hb]
  rfl
theorem ledF_right (lf : List UInt8) (n k r i' : Nat) (p q : List (List UInt8)) (x last : List UInt8) (b : Bool) (hk : k = Mk.part n) (hr : n = k + r) (hp : p = q ++ [last]) (hn : 2 ≤ n) (h : LedF lf r i' q x b) : LedF lf n (k + i') p (two last x) b := by
  obtain ⟨h1, h2⟩ := h
  subst hp
  unfold LedF
  rw [Mk.dirs_right n (k + i') hn (by omega), ← hk, Nat.add_sub_cancel_left, show n - k = r by omega]
  refine ⟨by rw [h1]; simp, fun hb => ?_⟩
  have hl : q.length = (Mk.dirs r i').length := by rw [hb] at h1; simpa using h1.symm
  rw [Mk.led_append _ _ _ _ _ _ hl.symm, ← h2 hb]
  rfl
theorem take_last {α : Type} (p : List α) (m : Nat) (h : p.length = m + 1) (d : α) : p = p.take m ++ [p.getD m d] := by
  conv => lhs; rw [← List.take_append_drop m p]
  congr 1
  have hm : m < p.length := by omega
  rw [List.drop_eq_getElem_cons hm, List.drop_eq_nil_of_le (by omega)]
  simp [List.getD, hm]
/-- What stands while the region's operations come up: which have (b), what their slots hold (x), what the world holds. -/
inductive LedL (lf : List UInt8) (r : Nat) (i : Nat) (k : Nat) (aq : Option Addr) (m : Nat) (c0 : Nat) (q : List (List UInt8)) (ap : Addr) (g4 : Nat) (a0 : Act) (w0 : World) (L : Array Bool) (a : Act) (w : World) : Prop
  | mk (b0 b1 b2 b3 b4 b5 b6 b7 b8 b9 b10 b11 b12 b13 b14 : Bool) (x38 x39 x40 x41 x42 x43 x44 x45 x46 x37 x47 x48 x12 x13 : Value) (X : List UInt8) (bb : Bool) (gx : Nat) (hL : L = #[b0, b1, b2, b3, b4, b5, b6, b7, b8, b9, b10, b11, b12, b13, b14]) (ha : a = ⟨((((((((((((((a0.tmps.setIfInBounds 38 x38).setIfInBounds 39 x39).setIfInBounds 40 x40).setIfInBounds 41 x41).setIfInBounds 42 x42).setIfInBounds 43 x43).setIfInBounds 44 x44).setIfInBounds 45 x45).setIfInBounds 46 x46).setIfInBounds 37 x37).setIfInBounds 47 x47).setIfInBounds 48 x48).setIfInBounds 12 x12).setIfInBounds 13 x13), a0.defers⟩) (hb : Below w0.heap.size w0 w) (cd0 : Hid (b0 = true → x38 = .agg (bcs lf).toArray)) (cd1 : Hid (b1 = true → x39 = .int .i64 i)) (cd2 : Hid (b2 = true → x40 = .int .i64 k)) (cd3 : Hid (b3 = true → x41 = .slice (some ap) (m + 1) c0)) (cd4 : Hid (b4 = true → x42 = .slice (some ap) (m + 1) c0)) (cd5 : Hid (b5 = true → x43 = .int .i64 ((m : Int) + 1))) (cd6 : Hid (b6 = true → x44 = .int .i64 m)) (cd7 : Hid (b7 = true → x45 = .slice aq m c0)) (cd8 : Hid (b8 = true → x46 = .tuple #[.agg (bcs X).toArray, .bool bb] ∧ X.length = 32 ∧ LedF lf k i q X bb)) (cd9 : Hid (b9 = true → x37 = .tuple #[.agg (bcs X).toArray, .bool bb])) (cd10 : Hid (b10 = true → x47 = .agg (bcs X).toArray)) (cd11 : Hid (b11 = true → x48 = .bool bb)) (cd12 : Hid (b12 = true → x12 = .pointer (some ⟨gx, 0, none⟩))) (cd14 : Hid (b14 = true → x13 = .bool bb)) (v_gx : Hid (b12 = true → w0.heap.size ≤ gx ∧ HAt w gx (bif b13 then X else List.replicate 32 0))) (s_gx : Hid (b13 = true → b12 = true)) (r_gx : Hid (b13 = true → b8 = true)) (w_9_8 : Hid (b9 = true → b8 = true)) (w_10_8 : Hid (b10 = true → b8 = true)) (w_11_8 : Hid (b11 = true → b8 = true)) (w_14_8 : Hid (b14 = true → b8 = true)) : LedL lf r i k aq m c0 q ap g4 a0 w0 L a w
/-- What stands while the region's operations come up: which have (b), what their slots hold (x), what the world holds. -/
inductive LedR (lf : List UInt8) (r : Nat) (i' : Nat) (k : Nat) (aq : Option Addr) (m : Nat) (c0 : Nat) (q : List (List UInt8)) (ap : Addr) (g4 : Nat) (a0 : Act) (w0 : World) (L : Array Bool) (a : Act) (w : World) : Prop
  | mk (b0 b1 b2 b3 b4 b5 b6 b7 b8 b9 b10 b11 b12 b13 b14 b15 b16 b17 b18 : Bool) (x54 x55 x56 x57 x58 x59 x60 x61 x62 x63 x64 x65 x66 x53 x67 x68 x14 x15 : Value) (X : List UInt8) (bb : Bool) (gx : Nat) (hL : L = #[b0, b1, b2, b3, b4, b5, b6, b7, b8, b9, b10, b11, b12, b13, b14, b15, b16, b17, b18]) (ha : a = ⟨((((((((((((((((((a0.tmps.setIfInBounds 54 x54).setIfInBounds 55 x55).setIfInBounds 56 x56).setIfInBounds 57 x57).setIfInBounds 58 x58).setIfInBounds 59 x59).setIfInBounds 60 x60).setIfInBounds 61 x61).setIfInBounds 62 x62).setIfInBounds 63 x63).setIfInBounds 64 x64).setIfInBounds 65 x65).setIfInBounds 66 x66).setIfInBounds 53 x53).setIfInBounds 67 x67).setIfInBounds 68 x68).setIfInBounds 14 x14).setIfInBounds 15 x15), a0.defers⟩) (hb : Below w0.heap.size w0 w) (cd0 : Hid (b0 = true → x54 = .agg (bcs lf).toArray)) (cd1 : Hid (b1 = true → x55 = .int .i64 ((k : Int) + (i' : Int)))) (cd2 : Hid (b2 = true → x56 = .int .i64 k)) (cd3 : Hid (b3 = true → x57 = .int .i64 i')) (cd4 : Hid (b4 = true → x58 = .int .i64 ((k : Int) + (r : Int)))) (cd5 : Hid (b5 = true → x59 = .int .i64 k)) (cd6 : Hid (b6 = true → x60 = .int .i64 r)) (cd7 : Hid (b7 = true → x61 = .slice (some ap) (m + 1) c0)) (cd8 : Hid (b8 = true → x62 = .slice (some ap) (m + 1) c0)) (cd9 : Hid (b9 = true → x63 = .int .i64 ((m : Int) + 1))) (cd10 : Hid (b10 = true → x64 = .int .i64 m)) (cd11 : Hid (b11 = true → x65 = .slice aq m c0)) (cd12 : Hid (b12 = true → x66 = .tuple #[.agg (bcs X).toArray, .bool bb] ∧ X.length = 32 ∧ LedF lf r i' q X bb)) (cd13 : Hid (b13 = true → x53 = .tuple #[.agg (bcs X).toArray, .bool bb])) (cd14 : Hid (b14 = true → x67 = .agg (bcs X).toArray)) (cd15 : Hid (b15 = true → x68 = .bool bb)) (cd16 : Hid (b16 = true → x14 = .pointer (some ⟨gx, 0, none⟩))) (cd18 : Hid (b18 = true → x15 = .bool bb)) (v_gx : Hid (b16 = true → w0.heap.size ≤ gx ∧ HAt w gx (bif b17 then X else List.replicate 32 0))) (s_gx : Hid (b17 = true → b16 = true)) (r_gx : Hid (b17 = true → b12 = true)) (w_13_12 : Hid (b13 = true → b12 = true)) (w_14_12 : Hid (b14 = true → b12 = true)) (w_15_12 : Hid (b15 = true → b12 = true)) (w_18_12 : Hid (b18 = true → b12 = true)) : LedR lf r i' k aq m c0 q ap g4 a0 w0 L a w
set_option maxRecDepth 100000 in
set_option maxHeartbeats 2000000 in
theorem rled_base (lf : List UInt8) (n i : Nat) (a0 : Option Addr) (n0 c0 : Nat) (p : List (List UInt8)) (w : World) (LF : lf.length = 32) (hP : IsH w a0 n0 c0 p) (hn1 : 1 ≤ n) (hi : i < n) (hb : n = 1 ∨ n0 = 0) :
    Calls Tryd.prog 18 #[.agg (bcs lf).toArray, .int .i64 (i : Int), .int .i64 (n : Int), .slice a0 n0 c0] w fun e w' => ∃ x b, e = .returned (.tuple #[.agg (bcs x).toArray, .bool b]) ∧ x.length = 32 ∧ LedF lf n i p x b ∧ Below w.heap.size w w' := by
  have sa : Hid ((bcs lf).toArray.size = 32) := by simp [Hid, bcs_length, LF]
  have u24 := Tryd.underlying27
  have b0 : Below w.heap.size w (w.alloc (.cells (bcs lf).toArray 27)) := (Below.refl _ _).alloc (Nat.le_refl _) _
  have t4 : HAt (w.alloc (.cells (bcs lf).toArray 27)) w.heap.size lf := ⟨heap_alloc_new w _, LF⟩
  have PL := Lib.hid hP.len
  clear hP
  by_cases hn : n = 1
  · subst hn
    obtain rfl : i = 0 := by omega
    have FIN : Hid (LedF lf 1 0 p lf (((n0 : Nat) : Int) == 0)) := by
      refine ⟨?_, fun _ => ?_⟩
      · rw [Mk.dirs_one 1 0 (by omega), PL.out]
        cases n0 <;> simp <;> omega
      · rw [Mk.dirs_one 1 0 (by omega)]
        rfl
    clear hb PL
    go_enter Tryd.func18, Tryd.ntmps18
    go_wp2_with (first
      | (with_reducible refine wpList_alloc_blk (o := ⟨some 8, _, _, _, _, _⟩) rfl 27 rfl _ zeroHash ?_; intro w1 g8 h1 b1 q1)
      | ((with_reducible refine wpList_load_at rfl 27 _ rfl ⟨w.heap.size, 0, none⟩ ?_ lf (t4.past b1).at_ _ _ u24 (hash_size _ LF) ?_); (rfl))
      | ((with_reducible refine wpList_store_blk rfl 27 _ _ rfl g8 _ (bcs lf).toArray ?_ ?_ _ h1 32 sizeHash (by simp [bcs_length]) (by simp [bcs_length, LF]) (bcs_all _) ?_); (rfl); (rfl); (intro w8 h9 b9)))
    refine bodyPost_ret (v := .tuple #[.agg (bcs lf).toArray, .bool (((n0 : Nat) : Int) == 0)]) (results_cell_tmp rfl _ _ g8 _ _ (0, 0) _ rfl h9.out Tryd.underlying27 rfl (by rw [sizeHash]; simp [bcs_length, LF]) _ rfl) rfl ⟨_, _, rfl, LF, FIN.out, ?_⟩
    exact (b0.trans (b1.mono b0.size)).grown b9 (b0.trans (b1.mono b0.size)).size (fun k hk => by cases hk; exact Nat.le_trans b0.size q1)
  · obtain rfl : n0 = 0 := by omega
    have hnn : ((n : Int) == 1) = false := by simp; omega
    have FIN : Hid (LedF lf n i p lf false) := by
      refine ⟨?_, fun h => by cases h⟩
      have : 1 ≤ (Mk.dirs n i).length := by
        by_cases hk : i < Mk.part n
        · rw [Mk.dirs_left n i (by omega) hk]; simp
        · rw [Mk.dirs_right n i (by omega) (by omega)]; simp
      rw [PL.out]
      generalize (Mk.dirs n i).length = d at this
      cases d with
      | zero => omega
      | succ d => rfl
    clear hb PL
    go_enter Tryd.func18, Tryd.ntmps18
    go_wp2_with (first
      | (with_reducible refine wpList_alloc_blk (o := ⟨some 8, _, _, _, _, _⟩) rfl 27 rfl _ zeroHash ?_; intro w1 g8 h1 b1 q1)
      | ((with_reducible refine wpList_load_at rfl 27 _ rfl ⟨w.heap.size, 0, none⟩ ?_ lf (t4.past b1).at_ _ _ u24 (hash_size _ LF) ?_); (rfl))
      | ((with_reducible refine wpList_store_blk rfl 27 _ _ rfl g8 _ (bcs lf).toArray ?_ ?_ _ h1 32 sizeHash (by simp [bcs_length]) (by simp [bcs_length, LF]) (bcs_all _) ?_); (rfl); (rfl); (intro w8 h9 b9)))
    refine bodyPost_ret (v := .tuple #[.agg (bcs lf).toArray, .bool false]) (results_cell_tmp rfl _ _ g8 _ _ (0, 0) _ rfl h9.out Tryd.underlying27 rfl (by rw [sizeHash]; simp [bcs_length, LF]) _ rfl) rfl ⟨_, _, rfl, LF, FIN.out, ?_⟩
    exact (b0.trans (b1.mono b0.size)).grown b9 (b0.trans (b1.mono b0.size)).size (fun k hk => by cases hk; exact Nat.le_trans b0.size q1)
set_option maxRecDepth 100000 in
set_option maxHeartbeats 8000000 in
theorem rled_n : ∀ N, ∀ (lf : List UInt8) (n i : Nat) (a0 : Option Addr) (n0 c0 : Nat) (p : List (List UInt8)) (w : World), n0 ≤ N → lf.length = 32 → IsH w a0 n0 c0 p → n0 ≤ 100 → 1 ≤ n → i < n → n ≤ 1048576 →
    Calls Tryd.prog 18 #[.agg (bcs lf).toArray, .int .i64 (i : Int), .int .i64 (n : Int), .slice a0 n0 c0] w fun e w' => ∃ x b, e = .returned (.tuple #[.agg (bcs x).toArray, .bool b]) ∧ x.length = 32 ∧ LedF lf n i p x b ∧ Below w.heap.size w w' := by
  intro N
  induction N with
  | zero =>
    intro lf n i a0 n0 c0 p w hN LF hP _ hn1 hi _
    exact rled_base lf n i a0 n0 c0 p w LF hP hn1 hi (.inr (by omega))
  | succ N ih =>
    intro lf n i a0 n0 c0 p w hN LF hP hn0 hn1 hi hn2
    have IH := Lib.hid ih
    clear ih
    have sa : Hid ((bcs lf).toArray.size = 32) := by simp [Hid, bcs_length, LF]
    have u24 := Tryd.underlying27
    by_cases hn : n = 1
    · exact rled_base lf n i a0 n0 c0 p w LF hP hn1 hi (.inl hn)
    · have hnn : ((n : Int) == 1) = false := by simp; omega
      by_cases hp0 : n0 = 0
      · exact rled_base lf n i a0 n0 c0 p w LF hP hn1 hi (.inr hp0)
      · obtain ⟨m, rfl⟩ : ∃ m, n0 = m + 1 := ⟨n0 - 1, by omega⟩
        obtain ⟨ap, rfl⟩ := hP.has (by omega)
        obtain ⟨k, hk⟩ : ∃ k, k = Mk.part n := ⟨_, rfl⟩
        have hk1 : 1 ≤ k := by rw [hk]; exact Mk.part_pos n
        have hk2 : k < n := by rw [hk]; exact Mk.part_lt (by omega)
        obtain ⟨r, rfl⟩ : ∃ r, n = k + r := ⟨n - k, by omega⟩
        have HK := Lib.hid hk
        obtain ⟨aq, hcQ, hQ⟩ := IsH_head hP m (by omega)
        have CQ := Lib.hid hcQ
        have hat := hP.at_ ap rfl m (by omega)
        have h32 := hP.one m (by omega)
        have PL := Lib.hid hP.len
        have PE := Lib.hid (take_last p m hP.len [])
        generalize hL : p.getD m [] = last at hat h32 PE
        generalize hq : p.take m = q at hQ PE
        have QL := Lib.hid hQ.len
        clear hL hq hcQ hk hP
        have b0 : Below w.heap.size w (w.alloc (.cells (bcs lf).toArray 27)) := (Below.refl _ _).alloc (Nat.le_refl _) _
        have t4 : HAt (w.alloc (.cells (bcs lf).toArray 27)) w.heap.size lf := ⟨heap_alloc_new w _, LF⟩
        have g1 : ((m : Int) + 1 == 0) = false := by simp; omega
        have g2 : ((k : Int) + (r : Int) == 1) = false := by simp; omega
        by_cases hik : i < k
        · have hik' : (i : Int) < (k : Int) := by omega
          go_enter Tryd.func18, Tryd.ntmps18
          go_wp2_with (first | (with_reducible refine wpList_alloc_blk (o := ⟨some 8, _, _, _, _, _⟩) rfl 27 rfl _ zeroHash ?_; intro w1 g8 h1 b1 q1))
          have epart := part_any (k + r) w1 (by omega) (by omega)
          rw [← HK.out] at epart
          refine epart.mono ?_
          rintro e w' ⟨rfl, rfl⟩
          have hat1 := (hat.past b0)
          have hat2 := hat1.past b1
          go_wp2_with (first
            | ((with_reducible refine wpList_load_at rfl 27 _ rfl (ap.add (m * 32)) ?_ last hat2 _ _ u24 (hash_size _ h32) ?_); (rfl))
            | (with_reducible refine wpList_alloc_blk (o := ⟨some 11, _, _, _, _, _⟩) rfl 27 rfl _ zeroHash ?_; intro w2 g11 h2 b2 q2)
            | ((with_reducible refine wpList_store_blk rfl 27 _ _ rfl g11 _ (bcs last).toArray ?_ ?_ _ h2 32 sizeHash (by simp [bcs_length]) (by simp [bcs_length, h32]) (bcs_all _) ?_); (rfl); (rfl); (intro w3 h3 b3)))
          have B1 := b0.trans (b1.mono b0.size)
          have B2 := B1.trans (b2.mono B1.size)
          have B3 := B2.grown b3 B2.size (fun k hk => by cases hk; exact Nat.le_trans B1.size q2)
          have z1 := b0.size
          have z2 := t4.lt
          have h4 : HAt w3.drew w.heap.size lf := (((t4.past b1).past b2).grown b3 (fun e => by have := Option.some.inj e; have := b1.size; omega)).past (Below.refl _ _).drew
          have h8 : HAt w3.drew g8 (List.replicate 32 0) := ((HAt.past ⟨h1.out, by simp⟩ b2).grown b3 (fun e => by have := Option.some.inj e; have := (Array.getElem?_eq_some_iff.1 h1.out).1; omega)).past (Below.refl _ _).drew
          have h11 : HAt w3.drew g11 last := HAt.past ⟨h3.out, h32⟩ (Below.refl _ _).drew
          replace B3 := B3.drew
          replace hQ := hQ.past B3
          have e4 : w.heap.size ≠ g8 := fun e => by rw [← e] at q1; simp at q1; omega
          have e11 : g8 ≠ g11 := fun e => by have := (Array.getElem?_eq_some_iff.1 h1.out).1; omega
          have q8 : w.heap.size ≤ g8 := Nat.le_trans z1 q1
          have B3' := Lib.hid B3
          clear B1 B2 b0 b1 b2 b3 t4 h1 h2 h3 hat hat1 hat2 q1 q2 z1 z2 B3 epart
          generalize w.heap.size = g4 at h4 e4 ⊢
          refine region_inv (LedL lf r i k aq m c0 q ap g4) (by kernel_rfl) (by kernel_rfl) ?_ ?_ ?_
          · exact ⟨false, false, false, false, false, false, false, false, false, false, false, false, false, false, false, undef, undef, undef, undef, undef, undef, undef, undef, undef, undef, undef, undef, undef, undef, [], false, 0, rfl, (by simp only [Act.put, List.setIfInBounds_toArray, List.set_cons_zero, List.set_cons_succ]), Below.refl _ _, (fun h => by cases h), (fun h => by cases h), (fun h => by cases h), (fun h => by cases h), (fun h => by cases h), (fun h => by cases h), (fun h => by cases h), (fun h => by cases h), (fun h => by cases h), (fun h => by cases h), (fun h => by cases h), (fun h => by cases h), (fun h => by cases h), (fun h => by cases h), (fun h => by cases h), (fun h => by cases h), (fun h => by cases h), (fun h => by cases h), (fun h => by cases h), (fun h => by cases h), (fun h => by cases h)⟩
          · refine ⟨?_, ?_, ?_, ?_, ?_, ?_, ?_, ?_, ?_, ?_, ?_, ?_, ?_, ?_, ?_, trivial⟩
            · rintro L a w ⟨b0, b1, b2, b3, b4, b5, b6, b7, b8, b9, b10, b11, b12, b13, b14, x38, x39, x40, x41, x42, x43, x44, x45, x46, x37, x47, x48, x12, x13, X, bb, gx, rfl, rfl, hb, cd0, cd1, cd2, cd3, cd4, cd5, cd6, cd7, cd8, cd9, cd10, cd11, cd12, cd14, v_gx, s_gx, r_gx, w_9_8, w_10_8, w_11_8, w_14_8⟩ hf hd
              have hf' : b0 = false := hf
              subst hf'
              clear hf hd
              try simp only [List.setIfInBounds_toArray, List.set_cons_zero, List.set_cons_succ]
              intro K hK
              rw [if_pos (by rfl)]
              refine wp_load_at 27 _ rfl ⟨g4, 0, none⟩ rfl lf (h4.past hb).at_ _ _ u24 (hash_size _ LF) ?_
              exact hK.out _ _ ⟨true, b1, b2, b3, b4, b5, b6, b7, b8, b9, b10, b11, b12, b13, b14, (.agg (bcs lf).toArray), x39, x40, x41, x42, x43, x44, x45, x46, x37, x47, x48, x12, x13, X, bb, gx, (by simp only [Act.put, List.setIfInBounds_toArray, List.set_cons_zero, List.set_cons_succ]), (by simp only [Act.put, List.setIfInBounds_toArray, List.set_cons_zero, List.set_cons_succ]), hb, (fun _ => rfl), cd1, cd2, cd3, cd4, cd5, cd6, cd7, cd8, cd9, cd10, cd11, cd12, cd14, v_gx, s_gx, r_gx, w_9_8, w_10_8, w_11_8, w_14_8⟩
            · rintro L a w ⟨b0, b1, b2, b3, b4, b5, b6, b7, b8, b9, b10, b11, b12, b13, b14, x38, x39, x40, x41, x42, x43, x44, x45, x46, x37, x47, x48, x12, x13, X, bb, gx, rfl, rfl, hb, cd0, cd1, cd2, cd3, cd4, cd5, cd6, cd7, cd8, cd9, cd10, cd11, cd12, cd14, v_gx, s_gx, r_gx, w_9_8, w_10_8, w_11_8, w_14_8⟩ hf hd
              have hf' : b1 = false := hf
              subst hf'
              clear hf hd
              try simp only [List.setIfInBounds_toArray, List.set_cons_zero, List.set_cons_succ]
              intro K hK
              rw [if_pos (by rfl)]
              go_simp
              exact hK.out _ _ ⟨b0, true, b2, b3, b4, b5, b6, b7, b8, b9, b10, b11, b12, b13, b14, x38, (.int .i64 i), x40, x41, x42, x43, x44, x45, x46, x37, x47, x48, x12, x13, X, bb, gx, (by simp only [Act.put, List.setIfInBounds_toArray, List.set_cons_zero, List.set_cons_succ]), (by simp only [Act.put, List.setIfInBounds_toArray, List.set_cons_zero, List.set_cons_succ]), hb, cd0, (fun _ => rfl), cd2, cd3, cd4, cd5, cd6, cd7, cd8, cd9, cd10, cd11, cd12, cd14, v_gx, s_gx, r_gx, w_9_8, w_10_8, w_11_8, w_14_8⟩
            · rintro L a w ⟨b0, b1, b2, b3, b4, b5, b6, b7, b8, b9, b10, b11, b12, b13, b14, x38, x39, x40, x41, x42, x43, x44, x45, x46, x37, x47, x48, x12, x13, X, bb, gx, rfl, rfl, hb, cd0, cd1, cd2, cd3, cd4, cd5, cd6, cd7, cd8, cd9, cd10, cd11, cd12, cd14, v_gx, s_gx, r_gx, w_9_8, w_10_8, w_11_8, w_14_8⟩ hf hd
              have hf' : b2 = false := hf
              subst hf'
              clear hf hd
              try simp only [List.setIfInBounds_toArray, List.set_cons_zero, List.set_cons_succ]
              intro K hK
              rw [if_pos (by rfl)]
              go_simp
              exact hK.out _ _ ⟨b0, b1, true, b3, b4, b5, b6, b7, b8, b9, b10, b11, b12, b13, b14, x38, x39, (.int .i64 k), x41, x42, x43, x44, x45, x46, x37, x47, x48, x12, x13, X, bb, gx, (by simp only [Act.put, List.setIfInBounds_toArray, List.set_cons_zero, List.set_cons_succ]), (by simp only [Act.put, List.setIfInBounds_toArray, List.set_cons_zero, List.set_cons_succ]), hb, cd0, cd1, (fun _ => rfl), cd3, cd4, cd5, cd6, cd7, cd8, cd9, cd10, cd11, cd12, cd14, v_gx, s_gx, r_gx, w_9_8, w_10_8, w_11_8, w_14_8⟩
            · rintro L a w ⟨b0, b1, b2, b3, b4, b5, b6, b7, b8, b9, b10, b11, b12, b13, b14, x38, x39, x40, x41, x42, x43, x44, x45, x46, x37, x47, x48, x12, x13, X, bb, gx, rfl, rfl, hb, cd0, cd1, cd2, cd3, cd4, cd5, cd6, cd7, cd8, cd9, cd10, cd11, cd12, cd14, v_gx, s_gx, r_gx, w_9_8, w_10_8, w_11_8, w_14_8⟩ hf hd
              have hf' : b3 = false := hf
              subst hf'
              clear hf hd
              try simp only [List.setIfInBounds_toArray, List.set_cons_zero, List.set_cons_succ]
              intro K hK
              rw [if_pos (by rfl)]
              go_simp
              exact hK.out _ _ ⟨b0, b1, b2, true, b4, b5, b6, b7, b8, b9, b10, b11, b12, b13, b14, x38, x39, x40, (.slice (some ap) (m + 1) c0), x42, x43, x44, x45, x46, x37, x47, x48, x12, x13, X, bb, gx, (by simp only [Act.put, List.setIfInBounds_toArray, List.set_cons_zero, List.set_cons_succ]), (by simp only [Act.put, List.setIfInBounds_toArray, List.set_cons_zero, List.set_cons_succ]), hb, cd0, cd1, cd2, (fun _ => rfl), cd4, cd5, cd6, cd7, cd8, cd9, cd10, cd11, cd12, cd14, v_gx, s_gx, r_gx, w_9_8, w_10_8, w_11_8, w_14_8⟩
            · rintro L a w ⟨b0, b1, b2, b3, b4, b5, b6, b7, b8, b9, b10, b11, b12, b13, b14, x38, x39, x40, x41, x42, x43, x44, x45, x46, x37, x47, x48, x12, x13, X, bb, gx, rfl, rfl, hb, cd0, cd1, cd2, cd3, cd4, cd5, cd6, cd7, cd8, cd9, cd10, cd11, cd12, cd14, v_gx, s_gx, r_gx, w_9_8, w_10_8, w_11_8, w_14_8⟩ hf hd
              have hf' : b4 = false := hf
              subst hf'
              clear hf hd
              try simp only [List.setIfInBounds_toArray, List.set_cons_zero, List.set_cons_succ]
              intro K hK
              rw [if_pos (by rfl)]
              go_simp
              exact hK.out _ _ ⟨b0, b1, b2, b3, true, b5, b6, b7, b8, b9, b10, b11, b12, b13, b14, x38, x39, x40, x41, (.slice (some ap) (m + 1) c0), x43, x44, x45, x46, x37, x47, x48, x12, x13, X, bb, gx, (by simp only [Act.put, List.setIfInBounds_toArray, List.set_cons_zero, List.set_cons_succ]), (by simp only [Act.put, List.setIfInBounds_toArray, List.set_cons_zero, List.set_cons_succ]), hb, cd0, cd1, cd2, cd3, (fun _ => rfl), cd5, cd6, cd7, cd8, cd9, cd10, cd11, cd12, cd14, v_gx, s_gx, r_gx, w_9_8, w_10_8, w_11_8, w_14_8⟩
            · rintro L a w ⟨b0, b1, b2, b3, b4, b5, b6, b7, b8, b9, b10, b11, b12, b13, b14, x38, x39, x40, x41, x42, x43, x44, x45, x46, x37, x47, x48, x12, x13, X, bb, gx, rfl, rfl, hb, cd0, cd1, cd2, cd3, cd4, cd5, cd6, cd7, cd8, cd9, cd10, cd11, cd12, cd14, v_gx, s_gx, r_gx, w_9_8, w_10_8, w_11_8, w_14_8⟩ hf hd
              have hf' : b5 = false := hf
              subst hf'
              have d4 : b4 = true := hd ⟨4, .data⟩ (by simp) rfl
              subst d4
              obtain rfl := cd4.out rfl
              clear hf hd
              try simp only [List.setIfInBounds_toArray, List.set_cons_zero, List.set_cons_succ]
              intro K hK
              rw [if_pos (by rfl)]
              go_simp
              exact hK.out _ _ ⟨b0, b1, b2, b3, true, true, b6, b7, b8, b9, b10, b11, b12, b13, b14, x38, x39, x40, x41, .slice (some ap) (m + 1) c0, (.int .i64 ((m : Int) + 1)), x44, x45, x46, x37, x47, x48, x12, x13, X, bb, gx, (by simp only [Act.put, List.setIfInBounds_toArray, List.set_cons_zero, List.set_cons_succ]), (by simp only [Act.put, List.setIfInBounds_toArray, List.set_cons_zero, List.set_cons_succ]), hb, cd0, cd1, cd2, cd3, (fun _ => rfl), (fun _ => rfl), cd6, cd7, cd8, cd9, cd10, cd11, cd12, cd14, v_gx, s_gx, r_gx, w_9_8, w_10_8, w_11_8, w_14_8⟩
            · rintro L a w ⟨b0, b1, b2, b3, b4, b5, b6, b7, b8, b9, b10, b11, b12, b13, b14, x38, x39, x40, x41, x42, x43, x44, x45, x46, x37, x47, x48, x12, x13, X, bb, gx, rfl, rfl, hb, cd0, cd1, cd2, cd3, cd4, cd5, cd6, cd7, cd8, cd9, cd10, cd11, cd12, cd14, v_gx, s_gx, r_gx, w_9_8, w_10_8, w_11_8, w_14_8⟩ hf hd
              have hf' : b6 = false := hf
              subst hf'
              have d5 : b5 = true := hd ⟨5, .data⟩ (by simp) rfl
              subst d5
              obtain rfl := cd5.out rfl
              clear hf hd
              try simp only [List.setIfInBounds_toArray, List.set_cons_zero, List.set_cons_succ]
              intro K hK
              rw [if_pos (by rfl)]
              have wm : IntKind.i64.wrap ((m : Int)) = (m : Int) := (IntWalk.i64_in _ (by omega)).trans (by omega)
              go_simp
              exact hK.out _ _ ⟨b0, b1, b2, b3, b4, true, true, b7, b8, b9, b10, b11, b12, b13, b14, x38, x39, x40, x41, x42, .int .i64 ((m : Int) + 1), (.int .i64 m), x45, x46, x37, x47, x48, x12, x13, X, bb, gx, (by simp only [Act.put, List.setIfInBounds_toArray, List.set_cons_zero, List.set_cons_succ]), (by simp only [Act.put, List.setIfInBounds_toArray, List.set_cons_zero, List.set_cons_succ]), hb, cd0, cd1, cd2, cd3, cd4, (fun _ => rfl), (fun _ => rfl), cd7, cd8, cd9, cd10, cd11, cd12, cd14, v_gx, s_gx, r_gx, w_9_8, w_10_8, w_11_8, w_14_8⟩
            · rintro L a w ⟨b0, b1, b2, b3, b4, b5, b6, b7, b8, b9, b10, b11, b12, b13, b14, x38, x39, x40, x41, x42, x43, x44, x45, x46, x37, x47, x48, x12, x13, X, bb, gx, rfl, rfl, hb, cd0, cd1, cd2, cd3, cd4, cd5, cd6, cd7, cd8, cd9, cd10, cd11, cd12, cd14, v_gx, s_gx, r_gx, w_9_8, w_10_8, w_11_8, w_14_8⟩ hf hd
              have hf' : b7 = false := hf
              subst hf'
              have d3 : b3 = true := hd ⟨3, .data⟩ (by simp) rfl
              subst d3
              have d6 : b6 = true := hd ⟨6, .data⟩ (by simp) rfl
              subst d6
              obtain rfl := cd3.out rfl
              obtain rfl := cd6.out rfl
              clear hf hd
              try simp only [List.setIfInBounds_toArray, List.set_cons_zero, List.set_cons_succ]
              intro K hK
              rw [if_pos (by rfl)]
              have hcv := CQ.out w
              go_simp
              exact hK.out _ _ ⟨b0, b1, b2, true, b4, b5, true, true, b8, b9, b10, b11, b12, b13, b14, x38, x39, x40, .slice (some ap) (m + 1) c0, x42, x43, .int .i64 m, (.slice aq m c0), x46, x37, x47, x48, x12, x13, X, bb, gx, (by simp only [Act.put, List.setIfInBounds_toArray, List.set_cons_zero, List.set_cons_succ]), (by simp only [Act.put, List.setIfInBounds_toArray, List.set_cons_zero, List.set_cons_succ]), hb, cd0, cd1, cd2, (fun _ => rfl), cd4, cd5, (fun _ => rfl), (fun _ => rfl), cd8, cd9, cd10, cd11, cd12, cd14, v_gx, s_gx, r_gx, w_9_8, w_10_8, w_11_8, w_14_8⟩
            · rintro L a w ⟨b0, b1, b2, b3, b4, b5, b6, b7, b8, b9, b10, b11, b12, b13, b14, x38, x39, x40, x41, x42, x43, x44, x45, x46, x37, x47, x48, x12, x13, X, bb, gx, rfl, rfl, hb, cd0, cd1, cd2, cd3, cd4, cd5, cd6, cd7, cd8, cd9, cd10, cd11, cd12, cd14, v_gx, s_gx, r_gx, w_9_8, w_10_8, w_11_8, w_14_8⟩ hf hd
              have hf' : b8 = false := hf
              subst hf'
              have d0 : b0 = true := hd ⟨0, .data⟩ (by simp) rfl
              subst d0
              have d1 : b1 = true := hd ⟨1, .data⟩ (by simp) rfl
              subst d1
              have d2 : b2 = true := hd ⟨2, .data⟩ (by simp) rfl
              subst d2
              have d7 : b7 = true := hd ⟨7, .data⟩ (by simp) rfl
              subst d7
              obtain rfl := cd0.out rfl
              obtain rfl := cd1.out rfl
              obtain rfl := cd2.out rfl
              obtain rfl := cd7.out rfl
              clear hf hd
              try simp only [List.setIfInBounds_toArray, List.set_cons_zero, List.set_cons_succ]
              intro K hK
              rw [if_pos (by rfl)]
              go_simp
              go_at_call 18
              refine (IH.out lf k i aq m c0 q _ ?_ ?_ ?_ ?_ ?_ ?_ ?_).mono ?_
              · omega
              · exact LF
              · exact hQ.past hb
              · omega
              · omega
              · omega
              · omega
              rintro e w2 ⟨X', b', rfl, lx, fx, bx⟩
              have e_9 : b9 = false := by cases hq : b9 with | false => rfl | true => exact absurd (w_9_8.out hq) (by simp)
              subst e_9
              have e_10 : b10 = false := by cases hq : b10 with | false => rfl | true => exact absurd (w_10_8.out hq) (by simp)
              subst e_10
              have e_11 : b11 = false := by cases hq : b11 with | false => rfl | true => exact absurd (w_11_8.out hq) (by simp)
              subst e_11
              have e_14 : b14 = false := by cases hq : b14 with | false => rfl | true => exact absurd (w_14_8.out hq) (by simp)
              subst e_14
              have e_gx : b13 = false := by cases hq : b13 with | false => rfl | true => exact absurd (r_gx.out hq) (by simp)
              subst e_gx
              exact hK.out _ _ ⟨true, true, true, b3, b4, b5, b6, true, true, false, false, false, b12, false, false, .agg (bcs lf).toArray, .int .i64 i, .int .i64 k, x41, x42, x43, x44, .slice aq m c0, (.tuple #[.agg (bcs (X')).toArray, .bool (b')]), x37, x47, x48, x12, x13, X', b', gx, (by simp only [Act.put, List.setIfInBounds_toArray, List.set_cons_zero, List.set_cons_succ]), (by simp only [Act.put, List.setIfInBounds_toArray, List.set_cons_zero, List.set_cons_succ]), hb.trans (bx.mono hb.size), (fun _ => rfl), (fun _ => rfl), (fun _ => rfl), cd3, cd4, cd5, cd6, (fun _ => rfl), (fun _ => ⟨rfl, lx, fx⟩), (fun h => by cases h), (fun h => by cases h), (fun h => by cases h), cd12, (fun h => by cases h), (fun h => ⟨(v_gx.out h).1, (v_gx.out h).2.past bx⟩), s_gx, (fun _ => rfl), (fun _ => rfl), (fun _ => rfl), (fun _ => rfl), (fun _ => rfl)⟩
            · rintro L a w ⟨b0, b1, b2, b3, b4, b5, b6, b7, b8, b9, b10, b11, b12, b13, b14, x38, x39, x40, x41, x42, x43, x44, x45, x46, x37, x47, x48, x12, x13, X, bb, gx, rfl, rfl, hb, cd0, cd1, cd2, cd3, cd4, cd5, cd6, cd7, cd8, cd9, cd10, cd11, cd12, cd14, v_gx, s_gx, r_gx, w_9_8, w_10_8, w_11_8, w_14_8⟩ hf hd
              have hf' : b9 = false := hf
              subst hf'
              have d8 : b8 = true := hd ⟨8, .data⟩ (by simp) rfl
              subst d8
              obtain ⟨rfl, q8_0, q8_1⟩ := cd8.out rfl
              clear hf hd
              try simp only [List.setIfInBounds_toArray, List.set_cons_zero, List.set_cons_succ]
              intro K hK
              rw [if_pos (by rfl)]
              go_simp
              exact hK.out _ _ ⟨b0, b1, b2, b3, b4, b5, b6, b7, true, true, b10, b11, b12, b13, b14, x38, x39, x40, x41, x42, x43, x44, x45, .tuple #[.agg (bcs X).toArray, .bool bb], (.tuple #[.agg (bcs X).toArray, .bool bb]), x47, x48, x12, x13, X, bb, gx, (by simp only [Act.put, List.setIfInBounds_toArray, List.set_cons_zero, List.set_cons_succ]), (by simp only [Act.put, List.setIfInBounds_toArray, List.set_cons_zero, List.set_cons_succ]), hb, cd0, cd1, cd2, cd3, cd4, cd5, cd6, cd7, (fun _ => ⟨rfl, q8_0, q8_1⟩), (fun _ => rfl), cd10, cd11, cd12, cd14, v_gx, s_gx, (fun _ => rfl), (fun _ => rfl), (fun _ => rfl), (fun _ => rfl), (fun _ => rfl)⟩
            · rintro L a w ⟨b0, b1, b2, b3, b4, b5, b6, b7, b8, b9, b10, b11, b12, b13, b14, x38, x39, x40, x41, x42, x43, x44, x45, x46, x37, x47, x48, x12, x13, X, bb, gx, rfl, rfl, hb, cd0, cd1, cd2, cd3, cd4, cd5, cd6, cd7, cd8, cd9, cd10, cd11, cd12, cd14, v_gx, s_gx, r_gx, w_9_8, w_10_8, w_11_8, w_14_8⟩ hf hd
              have hf' : b10 = false := hf
              subst hf'
              have d9 : b9 = true := hd ⟨9, .data⟩ (by simp) rfl
              subst d9
              obtain rfl := cd9.out rfl
              clear hf hd
              try simp only [List.setIfInBounds_toArray, List.set_cons_zero, List.set_cons_succ]
              intro K hK
              rw [if_pos (by rfl)]
              go_simp
              exact hK.out _ _ ⟨b0, b1, b2, b3, b4, b5, b6, b7, b8, true, true, b11, b12, b13, b14, x38, x39, x40, x41, x42, x43, x44, x45, x46, .tuple #[.agg (bcs X).toArray, .bool bb], (.agg (bcs X).toArray), x48, x12, x13, X, bb, gx, (by simp only [Act.put, List.setIfInBounds_toArray, List.set_cons_zero, List.set_cons_succ]), (by simp only [Act.put, List.setIfInBounds_toArray, List.set_cons_zero, List.set_cons_succ]), hb, cd0, cd1, cd2, cd3, cd4, cd5, cd6, cd7, cd8, (fun _ => rfl), (fun _ => rfl), cd11, cd12, cd14, v_gx, s_gx, r_gx, w_9_8, (fun _ => w_9_8.out rfl), w_11_8, w_14_8⟩
            · rintro L a w ⟨b0, b1, b2, b3, b4, b5, b6, b7, b8, b9, b10, b11, b12, b13, b14, x38, x39, x40, x41, x42, x43, x44, x45, x46, x37, x47, x48, x12, x13, X, bb, gx, rfl, rfl, hb, cd0, cd1, cd2, cd3, cd4, cd5, cd6, cd7, cd8, cd9, cd10, cd11, cd12, cd14, v_gx, s_gx, r_gx, w_9_8, w_10_8, w_11_8, w_14_8⟩ hf hd
              have hf' : b11 = false := hf
              subst hf'
              have d9 : b9 = true := hd ⟨9, .data⟩ (by simp) rfl
              subst d9
              obtain rfl := cd9.out rfl
              clear hf hd
              try simp only [List.setIfInBounds_toArray, List.set_cons_zero, List.set_cons_succ]
              intro K hK
              rw [if_pos (by rfl)]
              go_simp
              exact hK.out _ _ ⟨b0, b1, b2, b3, b4, b5, b6, b7, b8, true, b10, true, b12, b13, b14, x38, x39, x40, x41, x42, x43, x44, x45, x46, .tuple #[.agg (bcs X).toArray, .bool bb], x47, (.bool bb), x12, x13, X, bb, gx, (by simp only [Act.put, List.setIfInBounds_toArray, List.set_cons_zero, List.set_cons_succ]), (by simp only [Act.put, List.setIfInBounds_toArray, List.set_cons_zero, List.set_cons_succ]), hb, cd0, cd1, cd2, cd3, cd4, cd5, cd6, cd7, cd8, (fun _ => rfl), cd10, (fun _ => rfl), cd12, cd14, v_gx, s_gx, r_gx, w_9_8, w_10_8, (fun _ => w_9_8.out rfl), w_14_8⟩
            · rintro L a w ⟨b0, b1, b2, b3, b4, b5, b6, b7, b8, b9, b10, b11, b12, b13, b14, x38, x39, x40, x41, x42, x43, x44, x45, x46, x37, x47, x48, x12, x13, X, bb, gx, rfl, rfl, hb, cd0, cd1, cd2, cd3, cd4, cd5, cd6, cd7, cd8, cd9, cd10, cd11, cd12, cd14, v_gx, s_gx, r_gx, w_9_8, w_10_8, w_11_8, w_14_8⟩ hf hd
              have hf' : b12 = false := hf
              subst hf'
              clear hf hd
              try simp only [List.setIfInBounds_toArray, List.set_cons_zero, List.set_cons_succ]
              intro K hK
              rw [if_pos (by rfl)]
              refine wp_alloc_blk 27 rfl _ zeroHash fun w2 gn hz bx hge => ?_
              exact hK.out _ _ ⟨b0, b1, b2, b3, b4, b5, b6, b7, b8, b9, b10, b11, true, b13, b14, x38, x39, x40, x41, x42, x43, x44, x45, x46, x37, x47, x48, (.pointer (some ⟨gn, 0, none⟩)), x13, X, bb, gn, (by simp only [Act.put, List.setIfInBounds_toArray, List.set_cons_zero, List.set_cons_succ]), (by simp only [Act.put, List.setIfInBounds_toArray, List.set_cons_zero, List.set_cons_succ]), hb.trans (bx.mono hb.size), cd0, cd1, cd2, cd3, cd4, cd5, cd6, cd7, cd8, cd9, cd10, cd11, (fun _ => rfl), cd14, (fun _ => ⟨Nat.le_trans hb.size hge, by cases hq : b13 with | false => exact ⟨hz.out, by simp⟩ | true => exact absurd (s_gx.out hq) (by simp)⟩), (fun _ => rfl), r_gx, w_9_8, w_10_8, w_11_8, w_14_8⟩
            · rintro L a w ⟨b0, b1, b2, b3, b4, b5, b6, b7, b8, b9, b10, b11, b12, b13, b14, x38, x39, x40, x41, x42, x43, x44, x45, x46, x37, x47, x48, x12, x13, X, bb, gx, rfl, rfl, hb, cd0, cd1, cd2, cd3, cd4, cd5, cd6, cd7, cd8, cd9, cd10, cd11, cd12, cd14, v_gx, s_gx, r_gx, w_9_8, w_10_8, w_11_8, w_14_8⟩ hf hd
              have hf' : b13 = false := hf
              subst hf'
              have d12 : b12 = true := hd ⟨12, .data⟩ (by simp) rfl
              subst d12
              have d10 : b10 = true := hd ⟨10, .data⟩ (by simp) rfl
              subst d10
              have d8 : b8 = true := hd ⟨8, .chain⟩ (by simp) rfl
              subst d8
              have d0 : b0 = true := hd ⟨0, .phase⟩ (by simp) rfl
              subst d0
              have d1 : b1 = true := hd ⟨1, .phase⟩ (by simp) rfl
              subst d1
              have d2 : b2 = true := hd ⟨2, .phase⟩ (by simp) rfl
              subst d2
              have d3 : b3 = true := hd ⟨3, .phase⟩ (by simp) rfl
              subst d3
              have d4 : b4 = true := hd ⟨4, .phase⟩ (by simp) rfl
              subst d4
              have d5 : b5 = true := hd ⟨5, .phase⟩ (by simp) rfl
              subst d5
              have d6 : b6 = true := hd ⟨6, .phase⟩ (by simp) rfl
              subst d6
              have d7 : b7 = true := hd ⟨7, .phase⟩ (by simp) rfl
              subst d7
              have d9 : b9 = true := hd ⟨9, .phase⟩ (by simp) rfl
              subst d9
              obtain rfl := cd12.out rfl
              obtain rfl := cd10.out rfl
              obtain ⟨rfl, q8_0, q8_1⟩ := cd8.out rfl
              obtain rfl := cd0.out rfl
              obtain rfl := cd1.out rfl
              obtain rfl := cd2.out rfl
              obtain rfl := cd3.out rfl
              obtain rfl := cd4.out rfl
              obtain rfl := cd5.out rfl
              obtain rfl := cd6.out rfl
              obtain rfl := cd7.out rfl
              obtain rfl := cd9.out rfl
              clear hf hd
              try simp only [List.setIfInBounds_toArray, List.set_cons_zero, List.set_cons_succ]
              obtain ⟨vg, va⟩ := v_gx.out rfl
              replace va : HAt w gx (List.replicate 32 0) := va
              intro K hK
              rw [if_pos (by rfl)]
              refine wp_store_blk 27 _ _ rfl gx _ (bcs (X)).toArray rfl rfl _ (Lib.hid va.blk) 32 sizeHash (by simp [bcs_length, va.len]) (by simp [bcs_length, q8_0]) (bcs_all _) fun w2 h8 b8 => ?_
              exact hK.out _ _ ⟨true, true, true, true, true, true, true, true, true, true, true, b11, true, true, b14, .agg (bcs lf).toArray, .int .i64 i, .int .i64 k, .slice (some ap) (m + 1) c0, .slice (some ap) (m + 1) c0, .int .i64 ((m : Int) + 1), .int .i64 m, .slice aq m c0, .tuple #[.agg (bcs X).toArray, .bool bb], .tuple #[.agg (bcs X).toArray, .bool bb], .agg (bcs X).toArray, x48, .pointer (some ⟨gx, 0, none⟩), x13, X, bb, gx, (by simp only [Act.put, List.setIfInBounds_toArray, List.set_cons_zero, List.set_cons_succ]), (by simp only [Act.put, List.setIfInBounds_toArray, List.set_cons_zero, List.set_cons_succ]), hb.grown b8 hb.size (fun k hk => by cases hk; exact vg), (fun _ => rfl), (fun _ => rfl), (fun _ => rfl), (fun _ => rfl), (fun _ => rfl), (fun _ => rfl), (fun _ => rfl), (fun _ => rfl), (fun _ => ⟨rfl, q8_0, q8_1⟩), (fun _ => rfl), (fun _ => rfl), cd11, (fun _ => rfl), cd14, (fun _ => ⟨vg, h8.out, q8_0⟩), (fun _ => rfl), (fun _ => rfl), (fun _ => rfl), (fun _ => rfl), (fun _ => rfl), (fun _ => rfl)⟩
            · rintro L a w ⟨b0, b1, b2, b3, b4, b5, b6, b7, b8, b9, b10, b11, b12, b13, b14, x38, x39, x40, x41, x42, x43, x44, x45, x46, x37, x47, x48, x12, x13, X, bb, gx, rfl, rfl, hb, cd0, cd1, cd2, cd3, cd4, cd5, cd6, cd7, cd8, cd9, cd10, cd11, cd12, cd14, v_gx, s_gx, r_gx, w_9_8, w_10_8, w_11_8, w_14_8⟩ hf hd
              have hf' : b14 = false := hf
              subst hf'
              have d11 : b11 = true := hd ⟨11, .data⟩ (by simp) rfl
              subst d11
              have d13 : b13 = true := hd ⟨13, .chain⟩ (by simp) rfl
              subst d13
              have d0 : b0 = true := hd ⟨0, .phase⟩ (by simp) rfl
              subst d0
              have d1 : b1 = true := hd ⟨1, .phase⟩ (by simp) rfl
              subst d1
              have d2 : b2 = true := hd ⟨2, .phase⟩ (by simp) rfl
              subst d2
              have d3 : b3 = true := hd ⟨3, .phase⟩ (by simp) rfl
              subst d3
              have d4 : b4 = true := hd ⟨4, .phase⟩ (by simp) rfl
              subst d4
              have d5 : b5 = true := hd ⟨5, .phase⟩ (by simp) rfl
              subst d5
              have d6 : b6 = true := hd ⟨6, .phase⟩ (by simp) rfl
              subst d6
              have d7 : b7 = true := hd ⟨7, .phase⟩ (by simp) rfl
              subst d7
              have d8 : b8 = true := hd ⟨8, .phase⟩ (by simp) rfl
              subst d8
              have d9 : b9 = true := hd ⟨9, .phase⟩ (by simp) rfl
              subst d9
              have d10 : b10 = true := hd ⟨10, .phase⟩ (by simp) rfl
              subst d10
              have d12 : b12 = true := hd ⟨12, .phase⟩ (by simp) rfl
              subst d12
              obtain rfl := cd11.out rfl
              obtain rfl := cd0.out rfl
              obtain rfl := cd1.out rfl
              obtain rfl := cd2.out rfl
              obtain rfl := cd3.out rfl
              obtain rfl := cd4.out rfl
              obtain rfl := cd5.out rfl
              obtain rfl := cd6.out rfl
              obtain rfl := cd7.out rfl
              obtain ⟨rfl, q8_0, q8_1⟩ := cd8.out rfl
              obtain rfl := cd9.out rfl
              obtain rfl := cd10.out rfl
              obtain rfl := cd12.out rfl
              clear hf hd
              try simp only [List.setIfInBounds_toArray, List.set_cons_zero, List.set_cons_succ]
              intro K hK
              rw [if_pos (by rfl)]
              go_simp
              exact hK.out _ _ ⟨true, true, true, true, true, true, true, true, true, true, true, true, true, true, true, .agg (bcs lf).toArray, .int .i64 i, .int .i64 k, .slice (some ap) (m + 1) c0, .slice (some ap) (m + 1) c0, .int .i64 ((m : Int) + 1), .int .i64 m, .slice aq m c0, .tuple #[.agg (bcs X).toArray, .bool bb], .tuple #[.agg (bcs X).toArray, .bool bb], .agg (bcs X).toArray, .bool bb, .pointer (some ⟨gx, 0, none⟩), (.bool bb), X, bb, gx, (by simp only [Act.put, List.setIfInBounds_toArray, List.set_cons_zero, List.set_cons_succ]), (by simp only [Act.put, List.setIfInBounds_toArray, List.set_cons_zero, List.set_cons_succ]), hb, (fun _ => rfl), (fun _ => rfl), (fun _ => rfl), (fun _ => rfl), (fun _ => rfl), (fun _ => rfl), (fun _ => rfl), (fun _ => rfl), (fun _ => ⟨rfl, q8_0, q8_1⟩), (fun _ => rfl), (fun _ => rfl), (fun _ => rfl), (fun _ => rfl), (fun _ => rfl), v_gx, (fun _ => rfl), (fun _ => rfl), (fun _ => rfl), (fun _ => rfl), (fun _ => rfl), (fun _ => rfl)⟩
          · rintro a w ⟨b0, b1, b2, b3, b4, b5, b6, b7, b8, b9, b10, b11, b12, b13, b14, x38, x39, x40, x41, x42, x43, x44, x45, x46, x37, x47, x48, x12, x13, X, bb, gx, hL, rfl, hb, cd0, cd1, cd2, cd3, cd4, cd5, cd6, cd7, cd8, cd9, cd10, cd11, cd12, cd14, v_gx, s_gx, r_gx, w_9_8, w_10_8, w_11_8, w_14_8⟩
            have hL' : [true, true, true, true, true, true, true, true, true, true, true, true, true, true, true] = [b0, b1, b2, b3, b4, b5, b6, b7, b8, b9, b10, b11, b12, b13, b14] := congrArg Array.toList hL
            simp only [List.cons.injEq, and_true] at hL'
            obtain ⟨rfl, rfl, rfl, rfl, rfl, rfl, rfl, rfl, rfl, rfl, rfl, rfl, rfl, rfl, rfl⟩ := hL'
            obtain rfl := cd0.out rfl
            obtain rfl := cd1.out rfl
            obtain rfl := cd2.out rfl
            obtain rfl := cd3.out rfl
            obtain rfl := cd4.out rfl
            obtain rfl := cd5.out rfl
            obtain rfl := cd6.out rfl
            obtain rfl := cd7.out rfl
            obtain ⟨rfl, q8_0, q8_1⟩ := cd8.out rfl
            obtain rfl := cd9.out rfl
            obtain rfl := cd10.out rfl
            obtain rfl := cd11.out rfl
            obtain rfl := cd12.out rfl
            obtain rfl := cd14.out rfl
            obtain ⟨vg_gx, va_gx⟩ := v_gx.out rfl
            simp only [cond_true] at va_gx
            clear hL
            simp only [List.setIfInBounds_toArray, List.set_cons_zero, List.set_cons_succ]
            have HA := va_gx
            have HB := h11.past hb
            have H8 := h8.past hb
            have BB := B3'.out.trans (hb.mono B3'.out.size)
            clear h4 h11
            go_wp2_with (first
              | ((with_reducible refine wpList_load_at rfl 27 _ rfl ⟨gx, 0, none⟩ ?_ X HA.at_ _ _ u24 (hash_size _ q8_0) ?_); (rfl))
              | ((with_reducible refine wpList_load_at rfl 27 _ rfl ⟨g11, 0, none⟩ ?_ last HB.at_ _ _ u24 (hash_size _ h32) ?_); (rfl))
              | (go_at_call 29; (with_reducible refine (rtwo_any X last _ q8_0 h32).mono ?_); rintro e w5 ⟨rfl, b5⟩; have H85 := Lib.hid (H8.past b5).blk)
              | ((with_reducible refine wpList_store_blk rfl 27 _ _ rfl g8 _ (bcs (two X last)).toArray ?_ ?_ _ H85 32 sizeHash (by simp [bcs_length]) (by simp [bcs_length, two_length]) (bcs_all _) ?_); (rfl); (rfl); (intro w8 h9 b9)))
            refine bodyPost_ret (v := .tuple #[.agg (bcs (two X last)).toArray, .bool bb]) (results_cell_tmp rfl _ _ g8 _ _ (0, 0) _ rfl h9.out Tryd.underlying27 rfl (by rw [sizeHash]; simp [bcs_length, two_length]) _ rfl) rfl ⟨_, bb, rfl, two_length _ _, ledF_left lf (k + r) k i p q X last bb HK.out hik PE.out (by omega) q8_1, ?_⟩
            have B5 := BB.trans (b5.mono BB.size)
            exact B5.grown b9 B5.size (fun k hk => by cases hk; exact q8)
        · obtain ⟨i', rfl⟩ : ∃ i', i = k + i' := ⟨i - k, by omega⟩
          have hik' : ¬ (k : Int) + (i' : Int) < (k : Int) := by omega
          go_enter Tryd.func18, Tryd.ntmps18
          go_wp2_with (first | (with_reducible refine wpList_alloc_blk (o := ⟨some 8, _, _, _, _, _⟩) rfl 27 rfl _ zeroHash ?_; intro w1 g8 h1 b1 q1))
          have epart := part_any (k + r) w1 (by omega) (by omega)
          rw [← HK.out] at epart
          refine epart.mono ?_
          rintro e w' ⟨rfl, rfl⟩
          have hat1 := (hat.past b0)
          have hat2 := hat1.past b1
          go_wp2_with (first
            | ((with_reducible refine wpList_load_at rfl 27 _ rfl (ap.add (m * 32)) ?_ last hat2 _ _ u24 (hash_size _ h32) ?_); (rfl))
            | (with_reducible refine wpList_alloc_blk (o := ⟨some 11, _, _, _, _, _⟩) rfl 27 rfl _ zeroHash ?_; intro w2 g11 h2 b2 q2)
            | ((with_reducible refine wpList_store_blk rfl 27 _ _ rfl g11 _ (bcs last).toArray ?_ ?_ _ h2 32 sizeHash (by simp [bcs_length]) (by simp [bcs_length, h32]) (bcs_all _) ?_); (rfl); (rfl); (intro w3 h3 b3)))
          have B1 := b0.trans (b1.mono b0.size)
          have B2 := B1.trans (b2.mono B1.size)
          have B3 := B2.grown b3 B2.size (fun k hk => by cases hk; exact Nat.le_trans B1.size q2)
          have z1 := b0.size
          have z2 := t4.lt
          have h4 : HAt w3.drew w.heap.size lf := (((t4.past b1).past b2).grown b3 (fun e => by have := Option.some.inj e; have := b1.size; omega)).past (Below.refl _ _).drew
          have h8 : HAt w3.drew g8 (List.replicate 32 0) := ((HAt.past ⟨h1.out, by simp⟩ b2).grown b3 (fun e => by have := Option.some.inj e; have := (Array.getElem?_eq_some_iff.1 h1.out).1; omega)).past (Below.refl _ _).drew
          have h11 : HAt w3.drew g11 last := HAt.past ⟨h3.out, h32⟩ (Below.refl _ _).drew
          replace B3 := B3.drew
          replace hQ := hQ.past B3
          have e4 : w.heap.size ≠ g8 := fun e => by rw [← e] at q1; simp at q1; omega
          have e11 : g8 ≠ g11 := fun e => by have := (Array.getElem?_eq_some_iff.1 h1.out).1; omega
          have q8 : w.heap.size ≤ g8 := Nat.le_trans z1 q1
          have B3' := Lib.hid B3
          clear B1 B2 b0 b1 b2 b3 t4 h1 h2 h3 hat hat1 hat2 q1 q2 z1 z2 B3 epart
          generalize w.heap.size = g4 at h4 e4 ⊢
          refine region_inv (LedR lf r i' k aq m c0 q ap g4) (by kernel_rfl) (by kernel_rfl) ?_ ?_ ?_
          · exact ⟨false, false, false, false, false, false, false, false, false, false, false, false, false, false, false, false, false, false, false, undef, undef, undef, undef, undef, undef, undef, undef, undef, undef, undef, undef, undef, undef, undef, undef, undef, undef, [], false, 0, rfl, (by simp only [Act.put, List.setIfInBounds_toArray, List.set_cons_zero, List.set_cons_succ]), Below.refl _ _, (fun h => by cases h), (fun h => by cases h), (fun h => by cases h), (fun h => by cases h), (fun h => by cases h), (fun h => by cases h), (fun h => by cases h), (fun h => by cases h), (fun h => by cases h), (fun h => by cases h), (fun h => by cases h), (fun h => by cases h), (fun h => by cases h), (fun h => by cases h), (fun h => by cases h), (fun h => by cases h), (fun h => by cases h), (fun h => by cases h), (fun h => by cases h), (fun h => by cases h), (fun h => by cases h), (fun h => by cases h), (fun h => by cases h), (fun h => by cases h), (fun h => by cases h)⟩
          · refine ⟨?_, ?_, ?_, ?_, ?_, ?_, ?_, ?_, ?_, ?_, ?_, ?_, ?_, ?_, ?_, ?_, ?_, ?_, ?_, trivial⟩
            · rintro L a w ⟨b0, b1, b2, b3, b4, b5, b6, b7, b8, b9, b10, b11, b12, b13, b14, b15, b16, b17, b18, x54, x55, x56, x57, x58, x59, x60, x61, x62, x63, x64, x65, x66, x53, x67, x68, x14, x15, X, bb, gx, rfl, rfl, hb, cd0, cd1, cd2, cd3, cd4, cd5, cd6, cd7, cd8, cd9, cd10, cd11, cd12, cd13, cd14, cd15, cd16, cd18, v_gx, s_gx, r_gx, w_13_12, w_14_12, w_15_12, w_18_12⟩ hf hd
              have hf' : b0 = false := hf
              subst hf'
              clear hf hd
              try simp only [List.setIfInBounds_toArray, List.set_cons_zero, List.set_cons_succ]
              intro K hK
              rw [if_pos (by rfl)]
              refine wp_load_at 27 _ rfl ⟨g4, 0, none⟩ rfl lf (h4.past hb).at_ _ _ u24 (hash_size _ LF) ?_
              exact hK.out _ _ ⟨true, b1, b2, b3, b4, b5, b6, b7, b8, b9, b10, b11, b12, b13, b14, b15, b16, b17, b18, (.agg (bcs lf).toArray), x55, x56, x57, x58, x59, x60, x61, x62, x63, x64, x65, x66, x53, x67, x68, x14, x15, X, bb, gx, (by simp only [Act.put, List.setIfInBounds_toArray, List.set_cons_zero, List.set_cons_succ]), (by simp only [Act.put, List.setIfInBounds_toArray, List.set_cons_zero, List.set_cons_succ]), hb, (fun _ => rfl), cd1, cd2, cd3, cd4, cd5, cd6, cd7, cd8, cd9, cd10, cd11, cd12, cd13, cd14, cd15, cd16, cd18, v_gx, s_gx, r_gx, w_13_12, w_14_12, w_15_12, w_18_12⟩
            · rintro L a w ⟨b0, b1, b2, b3, b4, b5, b6, b7, b8, b9, b10, b11, b12, b13, b14, b15, b16, b17, b18, x54, x55, x56, x57, x58, x59, x60, x61, x62, x63, x64, x65, x66, x53, x67, x68, x14, x15, X, bb, gx, rfl, rfl, hb, cd0, cd1, cd2, cd3, cd4, cd5, cd6, cd7, cd8, cd9, cd10, cd11, cd12, cd13, cd14, cd15, cd16, cd18, v_gx, s_gx, r_gx, w_13_12, w_14_12, w_15_12, w_18_12⟩ hf hd
              have hf' : b1 = false := hf
              subst hf'
              clear hf hd
              try simp only [List.setIfInBounds_toArray, List.set_cons_zero, List.set_cons_succ]
              intro K hK
              rw [if_pos (by rfl)]
              go_simp
              exact hK.out _ _ ⟨b0, true, b2, b3, b4, b5, b6, b7, b8, b9, b10, b11, b12, b13, b14, b15, b16, b17, b18, x54, (.int .i64 ((k : Int) + (i' : Int))), x56, x57, x58, x59, x60, x61, x62, x63, x64, x65, x66, x53, x67, x68, x14, x15, X, bb, gx, (by simp only [Act.put, List.setIfInBounds_toArray, List.set_cons_zero, List.set_cons_succ]), (by simp only [Act.put, List.setIfInBounds_toArray, List.set_cons_zero, List.set_cons_succ]), hb, cd0, (fun _ => rfl), cd2, cd3, cd4, cd5, cd6, cd7, cd8, cd9, cd10, cd11, cd12, cd13, cd14, cd15, cd16, cd18, v_gx, s_gx, r_gx, w_13_12, w_14_12, w_15_12, w_18_12⟩
            · rintro L a w ⟨b0, b1, b2, b3, b4, b5, b6, b7, b8, b9, b10, b11, b12, b13, b14, b15, b16, b17, b18, x54, x55, x56, x57, x58, x59, x60, x61, x62, x63, x64, x65, x66, x53, x67, x68, x14, x15, X, bb, gx, rfl, rfl, hb, cd0, cd1, cd2, cd3, cd4, cd5, cd6, cd7, cd8, cd9, cd10, cd11, cd12, cd13, cd14, cd15, cd16, cd18, v_gx, s_gx, r_gx, w_13_12, w_14_12, w_15_12, w_18_12⟩ hf hd
              have hf' : b2 = false := hf
              subst hf'
              clear hf hd
              try simp only [List.setIfInBounds_toArray, List.set_cons_zero, List.set_cons_succ]
              intro K hK
              rw [if_pos (by rfl)]
              go_simp
              exact hK.out _ _ ⟨b0, b1, true, b3, b4, b5, b6, b7, b8, b9, b10, b11, b12, b13, b14, b15, b16, b17, b18, x54, x55, (.int .i64 k), x57, x58, x59, x60, x61, x62, x63, x64, x65, x66, x53, x67, x68, x14, x15, X, bb, gx, (by simp only [Act.put, List.setIfInBounds_toArray, List.set_cons_zero, List.set_cons_succ]), (by simp only [Act.put, List.setIfInBounds_toArray, List.set_cons_zero, List.set_cons_succ]), hb, cd0, cd1, (fun _ => rfl), cd3, cd4, cd5, cd6, cd7, cd8, cd9, cd10, cd11, cd12, cd13, cd14, cd15, cd16, cd18, v_gx, s_gx, r_gx, w_13_12, w_14_12, w_15_12, w_18_12⟩
            · rintro L a w ⟨b0, b1, b2, b3, b4, b5, b6, b7, b8, b9, b10, b11, b12, b13, b14, b15, b16, b17, b18, x54, x55, x56, x57, x58, x59, x60, x61, x62, x63, x64, x65, x66, x53, x67, x68, x14, x15, X, bb, gx, rfl, rfl, hb, cd0, cd1, cd2, cd3, cd4, cd5, cd6, cd7, cd8, cd9, cd10, cd11, cd12, cd13, cd14, cd15, cd16, cd18, v_gx, s_gx, r_gx, w_13_12, w_14_12, w_15_12, w_18_12⟩ hf hd
              have hf' : b3 = false := hf
              subst hf'
              have d1 : b1 = true := hd ⟨1, .data⟩ (by simp) rfl
              subst d1
              have d2 : b2 = true := hd ⟨2, .data⟩ (by simp) rfl
              subst d2
              obtain rfl := cd1.out rfl
              obtain rfl := cd2.out rfl
              clear hf hd
              try simp only [List.setIfInBounds_toArray, List.set_cons_zero, List.set_cons_succ]
              intro K hK
              rw [if_pos (by rfl)]
              have wm : IntKind.i64.wrap ((k : Int) + (i' : Int) - (k : Int)) = (i' : Int) := (IntWalk.i64_in _ (by omega)).trans (by omega)
              go_simp
              exact hK.out _ _ ⟨b0, true, true, true, b4, b5, b6, b7, b8, b9, b10, b11, b12, b13, b14, b15, b16, b17, b18, x54, .int .i64 ((k : Int) + (i' : Int)), .int .i64 k, (.int .i64 i'), x58, x59, x60, x61, x62, x63, x64, x65, x66, x53, x67, x68, x14, x15, X, bb, gx, (by simp only [Act.put, List.setIfInBounds_toArray, List.set_cons_zero, List.set_cons_succ]), (by simp only [Act.put, List.setIfInBounds_toArray, List.set_cons_zero, List.set_cons_succ]), hb, cd0, (fun _ => rfl), (fun _ => rfl), (fun _ => rfl), cd4, cd5, cd6, cd7, cd8, cd9, cd10, cd11, cd12, cd13, cd14, cd15, cd16, cd18, v_gx, s_gx, r_gx, w_13_12, w_14_12, w_15_12, w_18_12⟩
            · rintro L a w ⟨b0, b1, b2, b3, b4, b5, b6, b7, b8, b9, b10, b11, b12, b13, b14, b15, b16, b17, b18, x54, x55, x56, x57, x58, x59, x60, x61, x62, x63, x64, x65, x66, x53, x67, x68, x14, x15, X, bb, gx, rfl, rfl, hb, cd0, cd1, cd2, cd3, cd4, cd5, cd6, cd7, cd8, cd9, cd10, cd11, cd12, cd13, cd14, cd15, cd16, cd18, v_gx, s_gx, r_gx, w_13_12, w_14_12, w_15_12, w_18_12⟩ hf hd
              have hf' : b4 = false := hf
              subst hf'
              clear hf hd
              try simp only [List.setIfInBounds_toArray, List.set_cons_zero, List.set_cons_succ]
              intro K hK
              rw [if_pos (by rfl)]
              go_simp
              exact hK.out _ _ ⟨b0, b1, b2, b3, true, b5, b6, b7, b8, b9, b10, b11, b12, b13, b14, b15, b16, b17, b18, x54, x55, x56, x57, (.int .i64 ((k : Int) + (r : Int))), x59, x60, x61, x62, x63, x64, x65, x66, x53, x67, x68, x14, x15, X, bb, gx, (by simp only [Act.put, List.setIfInBounds_toArray, List.set_cons_zero, List.set_cons_succ]), (by simp only [Act.put, List.setIfInBounds_toArray, List.set_cons_zero, List.set_cons_succ]), hb, cd0, cd1, cd2, cd3, (fun _ => rfl), cd5, cd6, cd7, cd8, cd9, cd10, cd11, cd12, cd13, cd14, cd15, cd16, cd18, v_gx, s_gx, r_gx, w_13_12, w_14_12, w_15_12, w_18_12⟩
            · rintro L a w ⟨b0, b1, b2, b3, b4, b5, b6, b7, b8, b9, b10, b11, b12, b13, b14, b15, b16, b17, b18, x54, x55, x56, x57, x58, x59, x60, x61, x62, x63, x64, x65, x66, x53, x67, x68, x14, x15, X, bb, gx, rfl, rfl, hb, cd0, cd1, cd2, cd3, cd4, cd5, cd6, cd7, cd8, cd9, cd10, cd11, cd12, cd13, cd14, cd15, cd16, cd18, v_gx, s_gx, r_gx, w_13_12, w_14_12, w_15_12, w_18_12⟩ hf hd
              have hf' : b5 = false := hf
              subst hf'
              clear hf hd
              try simp only [List.setIfInBounds_toArray, List.set_cons_zero, List.set_cons_succ]
              intro K hK
              rw [if_pos (by rfl)]
              go_simp
              exact hK.out _ _ ⟨b0, b1, b2, b3, b4, true, b6, b7, b8, b9, b10, b11, b12, b13, b14, b15, b16, b17, b18, x54, x55, x56, x57, x58, (.int .i64 k), x60, x61, x62, x63, x64, x65, x66, x53, x67, x68, x14, x15, X, bb, gx, (by simp only [Act.put, List.setIfInBounds_toArray, List.set_cons_zero, List.set_cons_succ]), (by simp only [Act.put, List.setIfInBounds_toArray, List.set_cons_zero, List.set_cons_succ]), hb, cd0, cd1, cd2, cd3, cd4, (fun _ => rfl), cd6, cd7, cd8, cd9, cd10, cd11, cd12, cd13, cd14, cd15, cd16, cd18, v_gx, s_gx, r_gx, w_13_12, w_14_12, w_15_12, w_18_12⟩
            · rintro L a w ⟨b0, b1, b2, b3, b4, b5, b6, b7, b8, b9, b10, b11, b12, b13, b14, b15, b16, b17, b18, x54, x55, x56, x57, x58, x59, x60, x61, x62, x63, x64, x65, x66, x53, x67, x68, x14, x15, X, bb, gx, rfl, rfl, hb, cd0, cd1, cd2, cd3, cd4, cd5, cd6, cd7, cd8, cd9, cd10, cd11, cd12, cd13, cd14, cd15, cd16, cd18, v_gx, s_gx, r_gx, w_13_12, w_14_12, w_15_12, w_18_12⟩ hf hd
              have hf' : b6 = false := hf
              subst hf'
              have d4 : b4 = true := hd ⟨4, .data⟩ (by simp) rfl
              subst d4
              have d5 : b5 = true := hd ⟨5, .data⟩ (by simp) rfl
              subst d5
              obtain rfl := cd4.out rfl
              obtain rfl := cd5.out rfl
              clear hf hd
              try simp only [List.setIfInBounds_toArray, List.set_cons_zero, List.set_cons_succ]
              intro K hK
              rw [if_pos (by rfl)]
              have wm : IntKind.i64.wrap ((k : Int) + (r : Int) - (k : Int)) = (r : Int) := (IntWalk.i64_in _ (by omega)).trans (by omega)
              go_simp
              exact hK.out _ _ ⟨b0, b1, b2, b3, true, true, true, b7, b8, b9, b10, b11, b12, b13, b14, b15, b16, b17, b18, x54, x55, x56, x57, .int .i64 ((k : Int) + (r : Int)), .int .i64 k, (.int .i64 r), x61, x62, x63, x64, x65, x66, x53, x67, x68, x14, x15, X, bb, gx, (by simp only [Act.put, List.setIfInBounds_toArray, List.set_cons_zero, List.set_cons_succ]), (by simp only [Act.put, List.setIfInBounds_toArray, List.set_cons_zero, List.set_cons_succ]), hb, cd0, cd1, cd2, cd3, (fun _ => rfl), (fun _ => rfl), (fun _ => rfl), cd7, cd8, cd9, cd10, cd11, cd12, cd13, cd14, cd15, cd16, cd18, v_gx, s_gx, r_gx, w_13_12, w_14_12, w_15_12, w_18_12⟩
            · rintro L a w ⟨b0, b1, b2, b3, b4, b5, b6, b7, b8, b9, b10, b11, b12, b13, b14, b15, b16, b17, b18, x54, x55, x56, x57, x58, x59, x60, x61, x62, x63, x64, x65, x66, x53, x67, x68, x14, x15, X, bb, gx, rfl, rfl, hb, cd0, cd1, cd2, cd3, cd4, cd5, cd6, cd7, cd8, cd9, cd10, cd11, cd12, cd13, cd14, cd15, cd16, cd18, v_gx, s_gx, r_gx, w_13_12, w_14_12, w_15_12, w_18_12⟩ hf hd
              have hf' : b7 = false := hf
              subst hf'
              clear hf hd
              try simp only [List.setIfInBounds_toArray, List.set_cons_zero, List.set_cons_succ]
              intro K hK
              rw [if_pos (by rfl)]
              go_simp
              exact hK.out _ _ ⟨b0, b1, b2, b3, b4, b5, b6, true, b8, b9, b10, b11, b12, b13, b14, b15, b16, b17, b18, x54, x55, x56, x57, x58, x59, x60, (.slice (some ap) (m + 1) c0), x62, x63, x64, x65, x66, x53, x67, x68, x14, x15, X, bb, gx, (by simp only [Act.put, List.setIfInBounds_toArray, List.set_cons_zero, List.set_cons_succ]), (by simp only [Act.put, List.setIfInBounds_toArray, List.set_cons_zero, List.set_cons_succ]), hb, cd0, cd1, cd2, cd3, cd4, cd5, cd6, (fun _ => rfl), cd8, cd9, cd10, cd11, cd12, cd13, cd14, cd15, cd16, cd18, v_gx, s_gx, r_gx, w_13_12, w_14_12, w_15_12, w_18_12⟩
            · rintro L a w ⟨b0, b1, b2, b3, b4, b5, b6, b7, b8, b9, b10, b11, b12, b13, b14, b15, b16, b17, b18, x54, x55, x56, x57, x58, x59, x60, x61, x62, x63, x64, x65, x66, x53, x67, x68, x14, x15, X, bb, gx, rfl, rfl, hb, cd0, cd1, cd2, cd3, cd4, cd5, cd6, cd7, cd8, cd9, cd10, cd11, cd12, cd13, cd14, cd15, cd16, cd18, v_gx, s_gx, r_gx, w_13_12, w_14_12, w_15_12, w_18_12⟩ hf hd
              have hf' : b8 = false := hf
              subst hf'
              clear hf hd
              try simp only [List.setIfInBounds_toArray, List.set_cons_zero, List.set_cons_succ]
              intro K hK
              rw [if_pos (by rfl)]
              go_simp
              exact hK.out _ _ ⟨b0, b1, b2, b3, b4, b5, b6, b7, true, b9, b10, b11, b12, b13, b14, b15, b16, b17, b18, x54, x55, x56, x57, x58, x59, x60, x61, (.slice (some ap) (m + 1) c0), x63, x64, x65, x66, x53, x67, x68, x14, x15, X, bb, gx, (by simp only [Act.put, List.setIfInBounds_toArray, List.set_cons_zero, List.set_cons_succ]), (by simp only [Act.put, List.setIfInBounds_toArray, List.set_cons_zero, List.set_cons_succ]), hb, cd0, cd1, cd2, cd3, cd4, cd5, cd6, cd7, (fun _ => rfl), cd9, cd10, cd11, cd12, cd13, cd14, cd15, cd16, cd18, v_gx, s_gx, r_gx, w_13_12, w_14_12, w_15_12, w_18_12⟩
            · rintro L a w ⟨b0, b1, b2, b3, b4, b5, b6, b7, b8, b9, b10, b11, b12, b13, b14, b15, b16, b17, b18, x54, x55, x56, x57, x58, x59, x60, x61, x62, x63, x64, x65, x66, x53, x67, x68, x14, x15, X, bb, gx, rfl, rfl, hb, cd0, cd1, cd2, cd3, cd4, cd5, cd6, cd7, cd8, cd9, cd10, cd11, cd12, cd13, cd14, cd15, cd16, cd18, v_gx, s_gx, r_gx, w_13_12, w_14_12, w_15_12, w_18_12⟩ hf hd
              have hf' : b9 = false := hf
              subst hf'
              have d8 : b8 = true := hd ⟨8, .data⟩ (by simp) rfl
              subst d8
              obtain rfl := cd8.out rfl
              clear hf hd
              try simp only [List.setIfInBounds_toArray, List.set_cons_zero, List.set_cons_succ]
              intro K hK
              rw [if_pos (by rfl)]
              go_simp
              exact hK.out _ _ ⟨b0, b1, b2, b3, b4, b5, b6, b7, true, true, b10, b11, b12, b13, b14, b15, b16, b17, b18, x54, x55, x56, x57, x58, x59, x60, x61, .slice (some ap) (m + 1) c0, (.int .i64 ((m : Int) + 1)), x64, x65, x66, x53, x67, x68, x14, x15, X, bb, gx, (by simp only [Act.put, List.setIfInBounds_toArray, List.set_cons_zero, List.set_cons_succ]), (by simp only [Act.put, List.setIfInBounds_toArray, List.set_cons_zero, List.set_cons_succ]), hb, cd0, cd1, cd2, cd3, cd4, cd5, cd6, cd7, (fun _ => rfl), (fun _ => rfl), cd10, cd11, cd12, cd13, cd14, cd15, cd16, cd18, v_gx, s_gx, r_gx, w_13_12, w_14_12, w_15_12, w_18_12⟩
            · rintro L a w ⟨b0, b1, b2, b3, b4, b5, b6, b7, b8, b9, b10, b11, b12, b13, b14, b15, b16, b17, b18, x54, x55, x56, x57, x58, x59, x60, x61, x62, x63, x64, x65, x66, x53, x67, x68, x14, x15, X, bb, gx, rfl, rfl, hb, cd0, cd1, cd2, cd3, cd4, cd5, cd6, cd7, cd8, cd9, cd10, cd11, cd12, cd13, cd14, cd15, cd16, cd18, v_gx, s_gx, r_gx, w_13_12, w_14_12, w_15_12, w_18_12⟩ hf hd
              have hf' : b10 = false := hf
              subst hf'
              have d9 : b9 = true := hd ⟨9, .data⟩ (by simp) rfl
              subst d9
              obtain rfl := cd9.out rfl
              clear hf hd
              try simp only [List.setIfInBounds_toArray, List.set_cons_zero, List.set_cons_succ]
              intro K hK
              rw [if_pos (by rfl)]
              have wm : IntKind.i64.wrap ((m : Int)) = (m : Int) := (IntWalk.i64_in _ (by omega)).trans (by omega)
              go_simp
              exact hK.out _ _ ⟨b0, b1, b2, b3, b4, b5, b6, b7, b8, true, true, b11, b12, b13, b14, b15, b16, b17, b18, x54, x55, x56, x57, x58, x59, x60, x61, x62, .int .i64 ((m : Int) + 1), (.int .i64 m), x65, x66, x53, x67, x68, x14, x15, X, bb, gx, (by simp only [Act.put, List.setIfInBounds_toArray, List.set_cons_zero, List.set_cons_succ]), (by simp only [Act.put, List.setIfInBounds_toArray, List.set_cons_zero, List.set_cons_succ]), hb, cd0, cd1, cd2, cd3, cd4, cd5, cd6, cd7, cd8, (fun _ => rfl), (fun _ => rfl), cd11, cd12, cd13, cd14, cd15, cd16, cd18, v_gx, s_gx, r_gx, w_13_12, w_14_12, w_15_12, w_18_12⟩
            · rintro L a w ⟨b0, b1, b2, b3, b4, b5, b6, b7, b8, b9, b10, b11, b12, b13, b14, b15, b16, b17, b18, x54, x55, x56, x57, x58, x59, x60, x61, x62, x63, x64, x65, x66, x53, x67, x68, x14, x15, X, bb, gx, rfl, rfl, hb, cd0, cd1, cd2, cd3, cd4, cd5, cd6, cd7, cd8, cd9, cd10, cd11, cd12, cd13, cd14, cd15, cd16, cd18, v_gx, s_gx, r_gx, w_13_12, w_14_12, w_15_12, w_18_12⟩ hf hd
              have hf' : b11 = false := hf
              subst hf'
              have d7 : b7 = true := hd ⟨7, .data⟩ (by simp) rfl
              subst d7
              have d10 : b10 = true := hd ⟨10, .data⟩ (by simp) rfl
              subst d10
              obtain rfl := cd7.out rfl
              obtain rfl := cd10.out rfl
              clear hf hd
              try simp only [List.setIfInBounds_toArray, List.set_cons_zero, List.set_cons_succ]
              intro K hK
              rw [if_pos (by rfl)]
              have hcv := CQ.out w
              go_simp
              exact hK.out _ _ ⟨b0, b1, b2, b3, b4, b5, b6, true, b8, b9, true, true, b12, b13, b14, b15, b16, b17, b18, x54, x55, x56, x57, x58, x59, x60, .slice (some ap) (m + 1) c0, x62, x63, .int .i64 m, (.slice aq m c0), x66, x53, x67, x68, x14, x15, X, bb, gx, (by simp only [Act.put, List.setIfInBounds_toArray, List.set_cons_zero, List.set_cons_succ]), (by simp only [Act.put, List.setIfInBounds_toArray, List.set_cons_zero, List.set_cons_succ]), hb, cd0, cd1, cd2, cd3, cd4, cd5, cd6, (fun _ => rfl), cd8, cd9, (fun _ => rfl), (fun _ => rfl), cd12, cd13, cd14, cd15, cd16, cd18, v_gx, s_gx, r_gx, w_13_12, w_14_12, w_15_12, w_18_12⟩
            · rintro L a w ⟨b0, b1, b2, b3, b4, b5, b6, b7, b8, b9, b10, b11, b12, b13, b14, b15, b16, b17, b18, x54, x55, x56, x57, x58, x59, x60, x61, x62, x63, x64, x65, x66, x53, x67, x68, x14, x15, X, bb, gx, rfl, rfl, hb, cd0, cd1, cd2, cd3, cd4, cd5, cd6, cd7, cd8, cd9, cd10, cd11, cd12, cd13, cd14, cd15, cd16, cd18, v_gx, s_gx, r_gx, w_13_12, w_14_12, w_15_12, w_18_12⟩ hf hd
              have hf' : b12 = false := hf
              subst hf'
              have d0 : b0 = true := hd ⟨0, .data⟩ (by simp) rfl
              subst d0
              have d3 : b3 = true := hd ⟨3, .data⟩ (by simp) rfl
              subst d3
              have d6 : b6 = true := hd ⟨6, .data⟩ (by simp) rfl
              subst d6
              have d11 : b11 = true := hd ⟨11, .data⟩ (by simp) rfl
              subst d11
              obtain rfl := cd0.out rfl
              obtain rfl := cd3.out rfl
              obtain rfl := cd6.out rfl
              obtain rfl := cd11.out rfl
              clear hf hd
              try simp only [List.setIfInBounds_toArray, List.set_cons_zero, List.set_cons_succ]
              intro K hK
              rw [if_pos (by rfl)]
              go_simp
              go_at_call 18
              refine (IH.out lf r i' aq m c0 q _ ?_ ?_ ?_ ?_ ?_ ?_ ?_).mono ?_
              · omega
              · exact LF
              · exact hQ.past hb
              · omega
              · omega
              · omega
              · omega
              rintro e w2 ⟨X', b', rfl, lx, fx, bx⟩
              have e_13 : b13 = false := by cases hq : b13 with | false => rfl | true => exact absurd (w_13_12.out hq) (by simp)
              subst e_13
              have e_14 : b14 = false := by cases hq : b14 with | false => rfl | true => exact absurd (w_14_12.out hq) (by simp)
              subst e_14
              have e_15 : b15 = false := by cases hq : b15 with | false => rfl | true => exact absurd (w_15_12.out hq) (by simp)
              subst e_15
              have e_18 : b18 = false := by cases hq : b18 with | false => rfl | true => exact absurd (w_18_12.out hq) (by simp)
              subst e_18
              have e_gx : b17 = false := by cases hq : b17 with | false => rfl | true => exact absurd (r_gx.out hq) (by simp)
              subst e_gx
              exact hK.out _ _ ⟨true, b1, b2, true, b4, b5, true, b7, b8, b9, b10, true, true, false, false, false, b16, false, false, .agg (bcs lf).toArray, x55, x56, .int .i64 i', x58, x59, .int .i64 r, x61, x62, x63, x64, .slice aq m c0, (.tuple #[.agg (bcs (X')).toArray, .bool (b')]), x53, x67, x68, x14, x15, X', b', gx, (by simp only [Act.put, List.setIfInBounds_toArray, List.set_cons_zero, List.set_cons_succ]), (by simp only [Act.put, List.setIfInBounds_toArray, List.set_cons_zero, List.set_cons_succ]), hb.trans (bx.mono hb.size), (fun _ => rfl), cd1, cd2, (fun _ => rfl), cd4, cd5, (fun _ => rfl), cd7, cd8, cd9, cd10, (fun _ => rfl), (fun _ => ⟨rfl, lx, fx⟩), (fun h => by cases h), (fun h => by cases h), (fun h => by cases h), cd16, (fun h => by cases h), (fun h => ⟨(v_gx.out h).1, (v_gx.out h).2.past bx⟩), s_gx, (fun _ => rfl), (fun _ => rfl), (fun _ => rfl), (fun _ => rfl), (fun _ => rfl)⟩
            · rintro L a w ⟨b0, b1, b2, b3, b4, b5, b6, b7, b8, b9, b10, b11, b12, b13, b14, b15, b16, b17, b18, x54, x55, x56, x57, x58, x59, x60, x61, x62, x63, x64, x65, x66, x53, x67, x68, x14, x15, X, bb, gx, rfl, rfl, hb, cd0, cd1, cd2, cd3, cd4, cd5, cd6, cd7, cd8, cd9, cd10, cd11, cd12, cd13, cd14, cd15, cd16, cd18, v_gx, s_gx, r_gx, w_13_12, w_14_12, w_15_12, w_18_12⟩ hf hd
              have hf' : b13 = false := hf
              subst hf'
              have d12 : b12 = true := hd ⟨12, .data⟩ (by simp) rfl
              subst d12
              obtain ⟨rfl, q12_0, q12_1⟩ := cd12.out rfl
              clear hf hd
              try simp only [List.setIfInBounds_toArray, List.set_cons_zero, List.set_cons_succ]
              intro K hK
              rw [if_pos (by rfl)]
              go_simp
              exact hK.out _ _ ⟨b0, b1, b2, b3, b4, b5, b6, b7, b8, b9, b10, b11, true, true, b14, b15, b16, b17, b18, x54, x55, x56, x57, x58, x59, x60, x61, x62, x63, x64, x65, .tuple #[.agg (bcs X).toArray, .bool bb], (.tuple #[.agg (bcs X).toArray, .bool bb]), x67, x68, x14, x15, X, bb, gx, (by simp only [Act.put, List.setIfInBounds_toArray, List.set_cons_zero, List.set_cons_succ]), (by simp only [Act.put, List.setIfInBounds_toArray, List.set_cons_zero, List.set_cons_succ]), hb, cd0, cd1, cd2, cd3, cd4, cd5, cd6, cd7, cd8, cd9, cd10, cd11, (fun _ => ⟨rfl, q12_0, q12_1⟩), (fun _ => rfl), cd14, cd15, cd16, cd18, v_gx, s_gx, (fun _ => rfl), (fun _ => rfl), (fun _ => rfl), (fun _ => rfl), (fun _ => rfl)⟩
            · rintro L a w ⟨b0, b1, b2, b3, b4, b5, b6, b7, b8, b9, b10, b11, b12, b13, b14, b15, b16, b17, b18, x54, x55, x56, x57, x58, x59, x60, x61, x62, x63, x64, x65, x66, x53, x67, x68, x14, x15, X, bb, gx, rfl, rfl, hb, cd0, cd1, cd2, cd3, cd4, cd5, cd6, cd7, cd8, cd9, cd10, cd11, cd12, cd13, cd14, cd15, cd16, cd18, v_gx, s_gx, r_gx, w_13_12, w_14_12, w_15_12, w_18_12⟩ hf hd
              have hf' : b14 = false := hf
              subst hf'
              have d13 : b13 = true := hd ⟨13, .data⟩ (by simp) rfl
              subst d13
              obtain rfl := cd13.out rfl
              clear hf hd
              try simp only [List.setIfInBounds_toArray, List.set_cons_zero, List.set_cons_succ]
              intro K hK
              rw [if_pos (by rfl)]
              go_simp
              exact hK.out _ _ ⟨b0, b1, b2, b3, b4, b5, b6, b7, b8, b9, b10, b11, b12, true, true, b15, b16, b17, b18, x54, x55, x56, x57, x58, x59, x60, x61, x62, x63, x64, x65, x66, .tuple #[.agg (bcs X).toArray, .bool bb], (.agg (bcs X).toArray), x68, x14, x15, X, bb, gx, (by simp only [Act.put, List.setIfInBounds_toArray, List.set_cons_zero, List.set_cons_succ]), (by simp only [Act.put, List.setIfInBounds_toArray, List.set_cons_zero, List.set_cons_succ]), hb, cd0, cd1, cd2, cd3, cd4, cd5, cd6, cd7, cd8, cd9, cd10, cd11, cd12, (fun _ => rfl), (fun _ => rfl), cd15, cd16, cd18, v_gx, s_gx, r_gx, w_13_12, (fun _ => w_13_12.out rfl), w_15_12, w_18_12⟩
            · rintro L a w ⟨b0, b1, b2, b3, b4, b5, b6, b7, b8, b9, b10, b11, b12, b13, b14, b15, b16, b17, b18, x54, x55, x56, x57, x58, x59, x60, x61, x62, x63, x64, x65, x66, x53, x67, x68, x14, x15, X, bb, gx, rfl, rfl, hb, cd0, cd1, cd2, cd3, cd4, cd5, cd6, cd7, cd8, cd9, cd10, cd11, cd12, cd13, cd14, cd15, cd16, cd18, v_gx, s_gx, r_gx, w_13_12, w_14_12, w_15_12, w_18_12⟩ hf hd
              have hf' : b15 = false := hf
              subst hf'
              have d13 : b13 = true := hd ⟨13, .data⟩ (by simp) rfl
              subst d13
              obtain rfl := cd13.out rfl
              clear hf hd
              try simp only [List.setIfInBounds_toArray, List.set_cons_zero, List.set_cons_succ]
              intro K hK
              rw [if_pos (by rfl)]
              go_simp
              exact hK.out _ _ ⟨b0, b1, b2, b3, b4, b5, b6, b7, b8, b9, b10, b11, b12, true, b14, true, b16, b17, b18, x54, x55, x56, x57, x58, x59, x60, x61, x62, x63, x64, x65, x66, .tuple #[.agg (bcs X).toArray, .bool bb], x67, (.bool bb), x14, x15, X, bb, gx, (by simp only [Act.put, List.setIfInBounds_toArray, List.set_cons_zero, List.set_cons_succ]), (by simp only [Act.put, List.setIfInBounds_toArray, List.set_cons_zero, List.set_cons_succ]), hb, cd0, cd1, cd2, cd3, cd4, cd5, cd6, cd7, cd8, cd9, cd10, cd11, cd12, (fun _ => rfl), cd14, (fun _ => rfl), cd16, cd18, v_gx, s_gx, r_gx, w_13_12, w_14_12, (fun _ => w_13_12.out rfl), w_18_12⟩
            · rintro L a w ⟨b0, b1, b2, b3, b4, b5, b6, b7, b8, b9, b10, b11, b12, b13, b14, b15, b16, b17, b18, x54, x55, x56, x57, x58, x59, x60, x61, x62, x63, x64, x65, x66, x53, x67, x68, x14, x15, X, bb, gx, rfl, rfl, hb, cd0, cd1, cd2, cd3, cd4, cd5, cd6, cd7, cd8, cd9, cd10, cd11, cd12, cd13, cd14, cd15, cd16, cd18, v_gx, s_gx, r_gx, w_13_12, w_14_12, w_15_12, w_18_12⟩ hf hd
              have hf' : b16 = false := hf
              subst hf'
              clear hf hd
              try simp only [List.setIfInBounds_toArray, List.set_cons_zero, List.set_cons_succ]
              intro K hK
              rw [if_pos (by rfl)]
              refine wp_alloc_blk 27 rfl _ zeroHash fun w2 gn hz bx hge => ?_
              exact hK.out _ _ ⟨b0, b1, b2, b3, b4, b5, b6, b7, b8, b9, b10, b11, b12, b13, b14, b15, true, b17, b18, x54, x55, x56, x57, x58, x59, x60, x61, x62, x63, x64, x65, x66, x53, x67, x68, (.pointer (some ⟨gn, 0, none⟩)), x15, X, bb, gn, (by simp only [Act.put, List.setIfInBounds_toArray, List.set_cons_zero, List.set_cons_succ]), (by simp only [Act.put, List.setIfInBounds_toArray, List.set_cons_zero, List.set_cons_succ]), hb.trans (bx.mono hb.size), cd0, cd1, cd2, cd3, cd4, cd5, cd6, cd7, cd8, cd9, cd10, cd11, cd12, cd13, cd14, cd15, (fun _ => rfl), cd18, (fun _ => ⟨Nat.le_trans hb.size hge, by cases hq : b17 with | false => exact ⟨hz.out, by simp⟩ | true => exact absurd (s_gx.out hq) (by simp)⟩), (fun _ => rfl), r_gx, w_13_12, w_14_12, w_15_12, w_18_12⟩
            · rintro L a w ⟨b0, b1, b2, b3, b4, b5, b6, b7, b8, b9, b10, b11, b12, b13, b14, b15, b16, b17, b18, x54, x55, x56, x57, x58, x59, x60, x61, x62, x63, x64, x65, x66, x53, x67, x68, x14, x15, X, bb, gx, rfl, rfl, hb, cd0, cd1, cd2, cd3, cd4, cd5, cd6, cd7, cd8, cd9, cd10, cd11, cd12, cd13, cd14, cd15, cd16, cd18, v_gx, s_gx, r_gx, w_13_12, w_14_12, w_15_12, w_18_12⟩ hf hd
              have hf' : b17 = false := hf
              subst hf'
              have d16 : b16 = true := hd ⟨16, .data⟩ (by simp) rfl
              subst d16
              have d14 : b14 = true := hd ⟨14, .data⟩ (by simp) rfl
              subst d14
              have d12 : b12 = true := hd ⟨12, .chain⟩ (by simp) rfl
              subst d12
              have d0 : b0 = true := hd ⟨0, .phase⟩ (by simp) rfl
              subst d0
              have d1 : b1 = true := hd ⟨1, .phase⟩ (by simp) rfl
              subst d1
              have d2 : b2 = true := hd ⟨2, .phase⟩ (by simp) rfl
              subst d2
              have d3 : b3 = true := hd ⟨3, .phase⟩ (by simp) rfl
              subst d3
              have d4 : b4 = true := hd ⟨4, .phase⟩ (by simp) rfl
              subst d4
              have d5 : b5 = true := hd ⟨5, .phase⟩ (by simp) rfl
              subst d5
              have d6 : b6 = true := hd ⟨6, .phase⟩ (by simp) rfl
              subst d6
              have d7 : b7 = true := hd ⟨7, .phase⟩ (by simp) rfl
              subst d7
              have d8 : b8 = true := hd ⟨8, .phase⟩ (by simp) rfl
              subst d8
              have d9 : b9 = true := hd ⟨9, .phase⟩ (by simp) rfl
              subst d9
              have d10 : b10 = true := hd ⟨10, .phase⟩ (by simp) rfl
              subst d10
              have d11 : b11 = true := hd ⟨11, .phase⟩ (by simp) rfl
              subst d11
              have d13 : b13 = true := hd ⟨13, .phase⟩ (by simp) rfl
              subst d13
              obtain rfl := cd16.out rfl
              obtain rfl := cd14.out rfl
              obtain ⟨rfl, q12_0, q12_1⟩ := cd12.out rfl
              obtain rfl := cd0.out rfl
              obtain rfl := cd1.out rfl
              obtain rfl := cd2.out rfl
              obtain rfl := cd3.out rfl
              obtain rfl := cd4.out rfl
              obtain rfl := cd5.out rfl
              obtain rfl := cd6.out rfl
              obtain rfl := cd7.out rfl
              obtain rfl := cd8.out rfl
              obtain rfl := cd9.out rfl
              obtain rfl := cd10.out rfl
              obtain rfl := cd11.out rfl
              obtain rfl := cd13.out rfl
              clear hf hd
              try simp only [List.setIfInBounds_toArray, List.set_cons_zero, List.set_cons_succ]
              obtain ⟨vg, va⟩ := v_gx.out rfl
              replace va : HAt w gx (List.replicate 32 0) := va
              intro K hK
              rw [if_pos (by rfl)]
              refine wp_store_blk 27 _ _ rfl gx _ (bcs (X)).toArray rfl rfl _ (Lib.hid va.blk) 32 sizeHash (by simp [bcs_length, va.len]) (by simp [bcs_length, q12_0]) (bcs_all _) fun w2 h8 b8 => ?_
              exact hK.out _ _ ⟨true, true, true, true, true, true, true, true, true, true, true, true, true, true, true, b15, true, true, b18, .agg (bcs lf).toArray, .int .i64 ((k : Int) + (i' : Int)), .int .i64 k, .int .i64 i', .int .i64 ((k : Int) + (r : Int)), .int .i64 k, .int .i64 r, .slice (some ap) (m + 1) c0, .slice (some ap) (m + 1) c0, .int .i64 ((m : Int) + 1), .int .i64 m, .slice aq m c0, .tuple #[.agg (bcs X).toArray, .bool bb], .tuple #[.agg (bcs X).toArray, .bool bb], .agg (bcs X).toArray, x68, .pointer (some ⟨gx, 0, none⟩), x15, X, bb, gx, (by simp only [Act.put, List.setIfInBounds_toArray, List.set_cons_zero, List.set_cons_succ]), (by simp only [Act.put, List.setIfInBounds_toArray, List.set_cons_zero, List.set_cons_succ]), hb.grown b8 hb.size (fun k hk => by cases hk; exact vg), (fun _ => rfl), (fun _ => rfl), (fun _ => rfl), (fun _ => rfl), (fun _ => rfl), (fun _ => rfl), (fun _ => rfl), (fun _ => rfl), (fun _ => rfl), (fun _ => rfl), (fun _ => rfl), (fun _ => rfl), (fun _ => ⟨rfl, q12_0, q12_1⟩), (fun _ => rfl), (fun _ => rfl), cd15, (fun _ => rfl), cd18, (fun _ => ⟨vg, h8.out, q12_0⟩), (fun _ => rfl), (fun _ => rfl), (fun _ => rfl), (fun _ => rfl), (fun _ => rfl), (fun _ => rfl)⟩
            · rintro L a w ⟨b0, b1, b2, b3, b4, b5, b6, b7, b8, b9, b10, b11, b12, b13, b14, b15, b16, b17, b18, x54, x55, x56, x57, x58, x59, x60, x61, x62, x63, x64, x65, x66, x53, x67, x68, x14, x15, X, bb, gx, rfl, rfl, hb, cd0, cd1, cd2, cd3, cd4, cd5, cd6, cd7, cd8, cd9, cd10, cd11, cd12, cd13, cd14, cd15, cd16, cd18, v_gx, s_gx, r_gx, w_13_12, w_14_12, w_15_12, w_18_12⟩ hf hd
              have hf' : b18 = false := hf
              subst hf'
              have d15 : b15 = true := hd ⟨15, .data⟩ (by simp) rfl
              subst d15
              have d17 : b17 = true := hd ⟨17, .chain⟩ (by simp) rfl
              subst d17
              have d0 : b0 = true := hd ⟨0, .phase⟩ (by simp) rfl
              subst d0
              have d1 : b1 = true := hd ⟨1, .phase⟩ (by simp) rfl
              subst d1
              have d2 : b2 = true := hd ⟨2, .phase⟩ (by simp) rfl
              subst d2
              have d3 : b3 = true := hd ⟨3, .phase⟩ (by simp) rfl
              subst d3
              have d4 : b4 = true := hd ⟨4, .phase⟩ (by simp) rfl
              subst d4
              have d5 : b5 = true := hd ⟨5, .phase⟩ (by simp) rfl
              subst d5
              have d6 : b6 = true := hd ⟨6, .phase⟩ (by simp) rfl
              subst d6
              have d7 : b7 = true := hd ⟨7, .phase⟩ (by simp) rfl
              subst d7
              have d8 : b8 = true := hd ⟨8, .phase⟩ (by simp) rfl
              subst d8
              have d9 : b9 = true := hd ⟨9, .phase⟩ (by simp) rfl
              subst d9
              have d10 : b10 = true := hd ⟨10, .phase⟩ (by simp) rfl
              subst d10
              have d11 : b11 = true := hd ⟨11, .phase⟩ (by simp) rfl
              subst d11
              have d12 : b12 = true := hd ⟨12, .phase⟩ (by simp) rfl
              subst d12
              have d13 : b13 = true := hd ⟨13, .phase⟩ (by simp) rfl
              subst d13
              have d14 : b14 = true := hd ⟨14, .phase⟩ (by simp) rfl
              subst d14
              have d16 : b16 = true := hd ⟨16, .phase⟩ (by simp) rfl
              subst d16
              obtain rfl := cd15.out rfl
              obtain rfl := cd0.out rfl
              obtain rfl := cd1.out rfl
              obtain rfl := cd2.out rfl
              obtain rfl := cd3.out rfl
              obtain rfl := cd4.out rfl
              obtain rfl := cd5.out rfl
              obtain rfl := cd6.out rfl
              obtain rfl := cd7.out rfl
              obtain rfl := cd8.out rfl
              obtain rfl := cd9.out rfl
              obtain rfl := cd10.out rfl
              obtain rfl := cd11.out rfl
              obtain ⟨rfl, q12_0, q12_1⟩ := cd12.out rfl
              obtain rfl := cd13.out rfl
              obtain rfl := cd14.out rfl
              obtain rfl := cd16.out rfl
              clear hf hd
              try simp only [List.setIfInBounds_toArray, List.set_cons_zero, List.set_cons_succ]
              intro K hK
              rw [if_pos (by rfl)]
              go_simp
              exact hK.out _ _ ⟨true, true, true, true, true, true, true, true, true, true, true, true, true, true, true, true, true, true, true, .agg (bcs lf).toArray, .int .i64 ((k : Int) + (i' : Int)), .int .i64 k, .int .i64 i', .int .i64 ((k : Int) + (r : Int)), .int .i64 k, .int .i64 r, .slice (some ap) (m + 1) c0, .slice (some ap) (m + 1) c0, .int .i64 ((m : Int) + 1), .int .i64 m, .slice aq m c0, .tuple #[.agg (bcs X).toArray, .bool bb], .tuple #[.agg (bcs X).toArray, .bool bb], .agg (bcs X).toArray, .bool bb, .pointer (some ⟨gx, 0, none⟩), (.bool bb), X, bb, gx, (by simp only [Act.put, List.setIfInBounds_toArray, List.set_cons_zero, List.set_cons_succ]), (by simp only [Act.put, List.setIfInBounds_toArray, List.set_cons_zero, List.set_cons_succ]), hb, (fun _ => rfl), (fun _ => rfl), (fun _ => rfl), (fun _ => rfl), (fun _ => rfl), (fun _ => rfl), (fun _ => rfl), (fun _ => rfl), (fun _ => rfl), (fun _ => rfl), (fun _ => rfl), (fun _ => rfl), (fun _ => ⟨rfl, q12_0, q12_1⟩), (fun _ => rfl), (fun _ => rfl), (fun _ => rfl), (fun _ => rfl), (fun _ => rfl), v_gx, (fun _ => rfl), (fun _ => rfl), (fun _ => rfl), (fun _ => rfl), (fun _ => rfl), (fun _ => rfl)⟩
          · rintro a w ⟨b0, b1, b2, b3, b4, b5, b6, b7, b8, b9, b10, b11, b12, b13, b14, b15, b16, b17, b18, x54, x55, x56, x57, x58, x59, x60, x61, x62, x63, x64, x65, x66, x53, x67, x68, x14, x15, X, bb, gx, hL, rfl, hb, cd0, cd1, cd2, cd3, cd4, cd5, cd6, cd7, cd8, cd9, cd10, cd11, cd12, cd13, cd14, cd15, cd16, cd18, v_gx, s_gx, r_gx, w_13_12, w_14_12, w_15_12, w_18_12⟩
            have hL' : [true, true, true, true, true, true, true, true, true, true, true, true, true, true, true, true, true, true, true] = [b0, b1, b2, b3, b4, b5, b6, b7, b8, b9, b10, b11, b12, b13, b14, b15, b16, b17, b18] := congrArg Array.toList hL
            simp only [List.cons.injEq, and_true] at hL'
            obtain ⟨rfl, rfl, rfl, rfl, rfl, rfl, rfl, rfl, rfl, rfl, rfl, rfl, rfl, rfl, rfl, rfl, rfl, rfl, rfl⟩ := hL'
            obtain rfl := cd0.out rfl
            obtain rfl := cd1.out rfl
            obtain rfl := cd2.out rfl
            obtain rfl := cd3.out rfl
            obtain rfl := cd4.out rfl
            obtain rfl := cd5.out rfl
            obtain rfl := cd6.out rfl
            obtain rfl := cd7.out rfl
            obtain rfl := cd8.out rfl
            obtain rfl := cd9.out rfl
            obtain rfl := cd10.out rfl
            obtain rfl := cd11.out rfl
            obtain ⟨rfl, q12_0, q12_1⟩ := cd12.out rfl
            obtain rfl := cd13.out rfl
            obtain rfl := cd14.out rfl
            obtain rfl := cd15.out rfl
            obtain rfl := cd16.out rfl
            obtain rfl := cd18.out rfl
            obtain ⟨vg_gx, va_gx⟩ := v_gx.out rfl
            simp only [cond_true] at va_gx
            clear hL
            simp only [List.setIfInBounds_toArray, List.set_cons_zero, List.set_cons_succ]
            have HA := h11.past hb
            have HB := va_gx
            have H8 := h8.past hb
            have BB := B3'.out.trans (hb.mono B3'.out.size)
            clear h4 h11
            go_wp2_with (first
              | ((with_reducible refine wpList_load_at rfl 27 _ rfl ⟨g11, 0, none⟩ ?_ last HA.at_ _ _ u24 (hash_size _ h32) ?_); (rfl))
              | ((with_reducible refine wpList_load_at rfl 27 _ rfl ⟨gx, 0, none⟩ ?_ X HB.at_ _ _ u24 (hash_size _ q12_0) ?_); (rfl))
              | (go_at_call 29; (with_reducible refine (rtwo_any last X _ h32 q12_0).mono ?_); rintro e w5 ⟨rfl, b5⟩; have H85 := Lib.hid (H8.past b5).blk)
              | ((with_reducible refine wpList_store_blk rfl 27 _ _ rfl g8 _ (bcs (two last X)).toArray ?_ ?_ _ H85 32 sizeHash (by simp [bcs_length]) (by simp [bcs_length, two_length]) (bcs_all _) ?_); (rfl); (rfl); (intro w8 h9 b9)))
            refine bodyPost_ret (v := .tuple #[.agg (bcs (two last X)).toArray, .bool bb]) (results_cell_tmp rfl _ _ g8 _ _ (0, 0) _ rfl h9.out Tryd.underlying27 rfl (by rw [sizeHash]; simp [bcs_length, two_length]) _ rfl) rfl ⟨_, bb, rfl, two_length _ _, ledF_right lf (k + r) k r i' p q X last bb HK.out rfl PE.out (by omega) q12_1, ?_⟩
            have B5 := BB.trans (b5.mono BB.size)
            exact B5.grown b9 B5.size (fun k hk => by cases hk; exact q8)
theorem rled_any (lf : List UInt8) (n i : Nat) (a0 : Option Addr) (n0 c0 : Nat) (p : List (List UInt8)) (w : World) (LF : lf.length = 32) (hP : IsH w a0 n0 c0 p) (hn0 : n0 ≤ 100) (hn1 : 1 ≤ n) (hi : i < n) (hn2 : n ≤ 1048576) :
    Calls Tryd.prog 18 #[.agg (bcs lf).toArray, .int .i64 (i : Int), .int .i64 (n : Int), .slice a0 n0 c0] w fun e w' => ∃ x b, e = .returned (.tuple #[.agg (bcs x).toArray, .bool b]) ∧ x.length = 32 ∧ LedF lf n i p x b ∧ Below w.heap.size w w' :=
  rled_n n0 lf n i a0 n0 c0 p w (Nat.le_refl _) LF hP hn0 hn1 hi hn2
end Go.Proofs.YtpphlmbhonaglaaDoor
