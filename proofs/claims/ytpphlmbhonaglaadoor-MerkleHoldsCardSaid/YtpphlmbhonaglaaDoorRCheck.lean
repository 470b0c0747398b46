/-
  The reference's Check; what both answer (by gen_rcheck.py).
-/
import Derived.Test.YtpphlmbhonaglaaDoorRLed
import Derived.Test.YtpphlmbhonaglaaDoorCheck
import Derived.Test.YtpphlmbhonaglaaDoorCheckO
namespace Go.Proofs.YtpphlmbhonaglaaDoor
open Go.RowKit
set_option linter.unusedSimpArgs false

theorem ret_bool3 {a b : Bool} (h : a = b) : Ending.returned (.bool a) = .returned (.bool b) := by rw [h]
set_option maxRecDepth 100000 in
set_option maxHeartbeats 4000000 in
theorem rcheck_in (rt lf : List UInt8) (n i : Nat) (ao : Option Addr) (n0 c0 : Nat) (p : List (List UInt8)) (w : World) (RT : rt.length = 32) (LF : lf.length = 32) (hP : IsH w ao n0 c0 p) (hn0 : n0 ≤ 30) (hi : i < n) (hn : n ≤ 1048576) :
    Calls Tryd.prog 10 #[.agg (bcs rt).toArray, .agg (bcs lf).toArray, .int .i64 (i : Int), .int .i64 (n : Int), .slice ao n0 c0] w fun e w' => e = .returned (.bool (chk rt lf n i p)) ∧ Below w.heap.size w w' := by
  have sa : Hid ((bcs rt).toArray.size = 32) := by simp [Hid, bcs_length, RT]
  have sb : Hid ((bcs lf).toArray.size = 32) := by simp [Hid, bcs_length, LF]
  have u24 := Tryd.underlying27
  have B0 : Below w.heap.size w ((w.alloc (.cells (bcs rt).toArray 27)).alloc (.cells (bcs lf).toArray 27)) := (((Below.refl _ _).alloc (Nat.le_refl _) _).alloc (by simp) _)
  have h5 : HAt ((w.alloc (.cells (bcs rt).toArray 27)).alloc (.cells (bcs lf).toArray 27)) w.heap.size rt := HAt.past ⟨heap_alloc_new w _, RT⟩ ((Below.refl _ _).alloc (Nat.le_refl _) _)
  have h6 : HAt ((w.alloc (.cells (bcs rt).toArray 27)).alloc (.cells (bcs lf).toArray 27)) (w.heap.size + 1) lf := by
    have := (HAt.past ⟨heap_alloc_new (w.alloc (.cells (bcs rt).toArray 27)) (.cells (bcs lf).toArray 27), LF⟩ (Below.refl _ _))
    rw [World.size_alloc] at this
    exact this
  replace hP := hP.past B0
  replace hP := hP
  have c5 := h5.at_
  have c6 := h6.at_
  go_enter Tryd.func10, Tryd.ntmps10
  go_wp2_with ((with_reducible refine wpList_load_at rfl 27 _ rfl ⟨w.heap.size + 1, 0, none⟩ ?_ lf c6 _ _ u24 (hash_size _ LF) ?_); (rfl))
  refine (rled_any lf n i ao n0 c0 p _ LF hP (by omega) (by omega) hi hn).mono ?_
  rintro e w2 ⟨X, bb, rfl, q4_0, q4_1, bx⟩
  have EQ := equal_hash X rt q4_0 RT
  have FIN : (bb && X == rt) = chk rt lf n i p := by
    obtain ⟨f1, f2⟩ := q4_1
    unfold chk
    cases bb with
    | false => rw [← f1]; rfl
    | true => rw [← f1, f2 rfl]
  have z1 := h5.lt
  have z2 := bx.size
  have H5 := h5.past bx
  have BX := B0.trans (bx.mono B0.size)
  have z3 := BX.size
  have z4 := H5.lt
  clear h5 h6 c5 c6 B0 bx hP
  cases bb
  · go_wp2_with (first
      | (with_reducible refine wpList_alloc_blk (o := ⟨some 11, _, _, _, _, _⟩) rfl 27 rfl _ zeroHash ?_; intro w3 gx h1 b1 q1)
      | ((with_reducible refine wpList_store_blk rfl 27 _ _ rfl gx _ (bcs X).toArray ?_ ?_ _ h1 32 sizeHash (by simp [bcs_length]) (by simp [bcs_length, q4_0]) (bcs_all _) ?_); (rfl); (rfl); (intro w4 h4 b4; have va : HAt w4 gx X := ⟨h4.out, q4_0⟩; have h5' := ((H5.past b1).grown b4 (fun e => by have := Option.some.inj e; omega)); have B4 := (BX.trans (b1.mono BX.size)).grown b4 (BX.trans (b1.mono BX.size)).size (fun k hk => by cases hk; omega)))
      | ((with_reducible refine wpList_load_if ?_ 27 _ rfl ⟨gx, 0, none⟩ ?_ X va.at_ _ _ u24 (hash_size _ q4_0) ?_); (rfl); (rfl))
      | ((with_reducible refine wpList_load_if ?_ 27 _ rfl ⟨w.heap.size, 0, none⟩ ?_ rt h5'.at_ _ _ u24 (hash_size _ RT) ?_); (rfl); (rfl)))
    go_ret
    exact ⟨ret_bool3 (by rw [← FIN]; rfl), B4⟩
  · go_wp2_with (first
      | (with_reducible refine wpList_alloc_blk (o := ⟨some 11, _, _, _, _, _⟩) rfl 27 rfl _ zeroHash ?_; intro w3 gx h1 b1 q1)
      | ((with_reducible refine wpList_store_blk rfl 27 _ _ rfl gx _ (bcs X).toArray ?_ ?_ _ h1 32 sizeHash (by simp [bcs_length]) (by simp [bcs_length, q4_0]) (bcs_all _) ?_); (rfl); (rfl); (intro w4 h4 b4; have va : HAt w4 gx X := ⟨h4.out, q4_0⟩; have h5' := ((H5.past b1).grown b4 (fun e => by have := Option.some.inj e; omega)); have B4 := (BX.trans (b1.mono BX.size)).grown b4 (BX.trans (b1.mono BX.size)).size (fun k hk => by cases hk; omega)))
      | ((with_reducible refine wpList_load_if ?_ 27 _ rfl ⟨gx, 0, none⟩ ?_ X va.at_ _ _ u24 (hash_size _ q4_0) ?_); (rfl); (rfl))
      | ((with_reducible refine wpList_load_if ?_ 27 _ rfl ⟨w.heap.size, 0, none⟩ ?_ rt h5'.at_ _ _ u24 (hash_size _ RT) ?_); (rfl); (rfl)))
    go_ret
    exact ⟨ret_bool3 (by rw [← FIN, Bool.true_and]), B4⟩
set_option maxRecDepth 100000 in
set_option maxHeartbeats 2000000 in
theorem rcheck_out (rt lf : List UInt8) (I N : Int) (a0 : Option Addr) (n0 c0 : Nat) (w : World) (RT : rt.length = 32) (LF : lf.length = 32) (h : 1048576 < N ∨ I < 0 ∨ N ≤ I ∨ 30 < n0) :
    Calls Tryd.prog 10 #[.agg (bcs rt).toArray, .agg (bcs lf).toArray, .int .i64 I, .int .i64 N, .slice a0 n0 c0] w fun e w' => e = .returned (.bool false) ∧ Below w.heap.size w w' := by
  have sr : Hid ((bcs rt).toArray.size = 32) := by simp [Hid, bcs_length, RT]
  have sf : Hid ((bcs lf).toArray.size = 32) := by simp [Hid, bcs_length, LF]
  have b0 : Below w.heap.size w ((w.alloc (.cells (bcs rt).toArray 27)).alloc (.cells (bcs lf).toArray 27)) := ((Below.refl _ _).alloc (Nat.le_refl _) _).alloc (by simp) _
  clear RT LF
  by_cases h1 : 1048576 < N
  · have c1 : decide ((1048576 : Int) < N) = true := decide_eq_true h1
    clear h
    go_enter Tryd.func10, Tryd.ntmps10
    go_wp2_with fail
    go_ret
    exact ⟨rfl, b0⟩
  · have c1 : decide ((1048576 : Int) < N) = false := decide_eq_false h1
    by_cases h2 : I < 0
    · have c2 : decide (I < 0) = true := decide_eq_true h2
      clear h
      go_enter Tryd.func10, Tryd.ntmps10
      go_wp2_with fail
      go_ret
      exact ⟨rfl, b0⟩
    · have c2 : decide (I < 0) = false := decide_eq_false h2
      by_cases h3 : N ≤ I
      · have c3 : decide (N ≤ I) = true := decide_eq_true h3
        clear h
        go_enter Tryd.func10, Tryd.ntmps10
        go_wp2_with fail
        go_ret
        exact ⟨rfl, b0⟩
      · have c3 : decide (N ≤ I) = false := decide_eq_false h3
        have h4 : 30 < n0 := by omega
        have c4 : decide (30 < (n0 : Int)) = true := decide_eq_true (by omega)
        have c5 : decide (30 < n0) = true := decide_eq_true h4
        clear h
        go_enter Tryd.func10, Tryd.ntmps10
        go_wp2_with fail
        go_ret
        exact ⟨rfl, b0⟩
/-- What a check answers, whatever it is asked. -/
def chkI (rt lf : List UInt8) (I N : Int) (p : List (List UInt8)) : Bool := if 0 ≤ I ∧ I < N ∧ N ≤ 1048576 then chk rt lf N.toNat I.toNat p else false
theorem chk_long (rt lf : List UInt8) (n i : Nat) (p : List (List UInt8)) (hi : i < n) (hn : n ≤ 1048576) (hp : 20 < p.length) : chk rt lf n i p = false := by
  have h := Mk.dirs_short 20 n i (by omega) hi
  unfold chk
  have : (p.length == (Mk.dirs n i).length) = false := by simp; omega
  rw [this, Bool.false_and]
theorem mcheck_all (rt lf : List UInt8) (I N : Int) (a0 : Option Addr) (n0 c0 : Nat) (p : List (List UInt8)) (w : World) (hC : RC w) (hr : rt.length = 32) (hf : lf.length = 32) (hI : IsH w a0 n0 c0 p) (hn0 : n0 ≤ 1000) :
    Calls Tryd.prog 9 #[.agg (bcs rt).toArray, .agg (bcs lf).toArray, .int .i64 I, .int .i64 N, .slice a0 n0 c0] w fun e w' => e = .returned (.bool (chkI rt lf I N p)) ∧ Below w.heap.size w w' := by
  unfold chkI
  by_cases h : 0 ≤ I ∧ I < N ∧ N ≤ 1048576
  · rw [if_pos h]
    exact check_int rt lf I N a0 n0 c0 p w hC hr hf hI h.1 h.2.1 h.2.2 hn0
  · rw [if_neg h]
    exact check_out rt lf I N a0 n0 c0 w hr hf (by omega)
theorem rcheck_all (rt lf : List UInt8) (I N : Int) (a0 : Option Addr) (n0 c0 : Nat) (p : List (List UInt8)) (w : World) (hr : rt.length = 32) (hf : lf.length = 32) (hI : IsH w a0 n0 c0 p) :
    Calls Tryd.prog 10 #[.agg (bcs rt).toArray, .agg (bcs lf).toArray, .int .i64 I, .int .i64 N, .slice a0 n0 c0] w fun e w' => e = .returned (.bool (chkI rt lf I N p)) ∧ Below w.heap.size w w' := by
  unfold chkI
  by_cases h : 0 ≤ I ∧ I < N ∧ N ≤ 1048576
  · rw [if_pos h]
    obtain ⟨i, rfl⟩ : ∃ i : Nat, I = (i : Int) := ⟨I.toNat, by omega⟩
    obtain ⟨n, rfl⟩ : ∃ n : Nat, N = (n : Int) := ⟨N.toNat, by omega⟩
    simp only [Int.toNat_natCast]
    by_cases hl : n0 ≤ 30
    · exact rcheck_in rt lf n i a0 n0 c0 p w hr hf hI hl (by omega) (by omega)
    · rw [chk_long rt lf n i p (by omega) (by omega) (by have := hI.len; omega)]
      exact rcheck_out rt lf i n a0 n0 c0 w hr hf (by omega)
  · rw [if_neg h]
    exact rcheck_out rt lf I N a0 n0 c0 w hr hf (by omega)
end Go.Proofs.YtpphlmbhonaglaaDoor
