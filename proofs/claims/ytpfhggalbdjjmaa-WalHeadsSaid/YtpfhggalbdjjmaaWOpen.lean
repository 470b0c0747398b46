/-
  wal.Open, (*wal.Log).Count, of a disk that is not dead.
-/
import Derived.Test.YtpfhggalbdjjmaaWRead
namespace Go.Proofs.Ytpfhggalbdjjmaa
open Go.RowKit

/-- A LOG LIES IN BLOCK g: of the disk in block d, so much room, so many bytes, records. -/
def LogAt (w : World) (g d : Nat) (rm z k : Int) : Prop := w.heap[g]? = some (.cells #[.pointer (some ⟨d, 0, none⟩), .int .i64 rm, .int .i64 z, .int .i64 k] 99 (0, 0))
section
variable {w w' : World} {g d : Nat} {rm z k : Int}
theorem LogAt.lt (h : LogAt w g d rm z k) : g < w.heap.size := (Array.getElem?_eq_some_iff.1 h).1
theorem LogAt.past (h : LogAt w g d rm z k) (b : Below w.heap.size w w') : LogAt w' g d rm z k := (b.block g h.lt).trans h
theorem LogAt.kp {S : Nat → Prop} (h : LogAt w g d rm z k) (x : Kp w w' S) (hg : ¬ S g) : LogAt w' g d rm z k := (x.block g h.lt hg).trans h
theorem LogAt.c0 (h : LogAt w g d rm z k) : w.cell? ⟨g, 0, none⟩ = some (.pointer (some ⟨d, 0, none⟩)) := cell_blk h rfl
theorem LogAt.c1 (h : LogAt w g d rm z k) : w.cell? ⟨g, 1, none⟩ = some (.int .i64 rm) := cell_blk h rfl
theorem LogAt.c2 (h : LogAt w g d rm z k) : w.cell? ⟨g, 2, none⟩ = some (.int .i64 z) := cell_blk h rfl
theorem LogAt.c3 (h : LogAt w g d rm z k) : w.cell? ⟨g, 3, none⟩ = some (.int .i64 k) := cell_blk h rfl
theorem LogAt.free (h : LogAt w g d rm z k) (i : Nat) : w.frozen? ⟨g, i, none⟩ = false := free_blk h
theorem LogAt.size (h : LogAt w g d rm z k) (x : Int) : LogAt (w.setCell ⟨g, 2, none⟩ (.int .i64 x)) g d rm x k := (heap_setCell_same (i := 2) h).trans rfl
theorem LogAt.count (h : LogAt w g d rm z k) (x : Int) : LogAt (w.setCell ⟨g, 3, none⟩ (.int .i64 x)) g d rm z x := (heap_setCell_same (i := 3) h).trans rfl
end
/-- '(*sync/atomic.Int64).Load'. -/
theorem load_int (a : Addr) (x : Int) (w : World) (hc : w.cell? a = some (.int .i64 x)) :
    Calls Try.prog 38 #[.pointer (some a)] w fun e w' => e = .returned (.int .i64 x) ∧ w = w' := by
  have hl := run_call_load (P := Try.prog) Try.func59 (by kernel_rfl) (by kernel_rfl) (by kernel_rfl) .i64 (by kernel_rfl) hc
  go_enter Try.func38, Try.ntmps38
  go_wp2
  go_ret
  exact ⟨rfl, rfl⟩
theorem count_any (w : World) (g d : Nat) (rm z k : Int) (h : LogAt w g d rm z k) (hk : -9223372036854775808 ≤ k ∧ k ≤ 9223372036854775807) :
    Calls Try.prog 17 #[.pointer (some ⟨g, 0, none⟩)] w fun e w' => e = .returned (.int .i64 k) ∧ w = w' := by
  have c0 := h.c0
  have c3 := h.c3
  have hw : IntKind.i64.wrap k = k := IntWalk.i64_in _ (by omega)
  have HW := Lib.hid hw
  clear hw
  go_enter Try.func17, Try.ntmps17
  go_wp2_with (go_at_call 38; refine (load_int ⟨g, 3, none⟩ k _ c3).mono ?_; rintro e w' ⟨rfl, rfl⟩)
  go_ret
  exact ⟨rfl, rfl⟩
/-- No log is told. -/
def NoLog (w : World) (x : Int) (en : Ending) (w' : World) : Prop := en = .returned (.tuple #[.pointer none, .slice none 0 0, .int .i64 x]) ∧ Below w.heap.size w w'
/-- A log is told, and its records. -/
def OpenIs (w : World) (d : Nat) (rm z k : Int) (ps : List (List UInt8)) (en : Ending) (w' : World) : Prop :=
  ∃ g ro rn rc, en = .returned (.tuple #[.pointer (some ⟨g, 0, none⟩), .slice ro rn rc, .int .i64 0]) ∧ LogAt w' g d rm z k ∧ Recs w' w.heap.size ro rn rc ps ∧ Below w.heap.size w w' ∧ w.heap.size ≤ g
section
variable {w : World} {d n : Nat} {S : Nat → Prop} {s : Dk}
set_option maxRecDepth 100000 in
set_option maxHeartbeats 1000000 in
theorem open_no (d : Nat) (w : World) (z k : Int) (ps : List (List UInt8)) (HR : Calls Try.prog 29 #[.pointer (some ⟨d, 0, none⟩)] w (ReadingIs w 10 z k ps)) :
    Calls Try.prog 13 #[.pointer (some ⟨d, 0, none⟩)] w (NoLog w 10) := by
  go_enter Try.func13, Try.ntmps13
  go_wp2_with fail
  refine HR.mono ?_
  rintro en w1 ⟨r, ro, rn, rc, rfl, R1, P1, b1, q1⟩
  have c3 := R1.c3
  go_wp2_with fail
  go_quiet (fail)
  go_wp2_with fail
  go_ret3
  exact ⟨rfl, below_drewN b1 nq⟩
set_option maxRecDepth 100000 in
set_option maxHeartbeats 1000000 in
theorem open_yes (h : IsD w d n S s) (z k : Int) (hk : -9223372036854775808 ≤ k ∧ k ≤ 9223372036854775807) (ps : List (List UInt8)) (HR : Calls Try.prog 29 #[.pointer (some ⟨d, 0, none⟩)] w (ReadingIs w 0 z k ps)) :
    Calls Try.prog 13 #[.pointer (some ⟨d, 0, none⟩)] w (OpenIs w d (roomN n) z k ps) := by
  go_enter Try.func13, Try.ntmps13
  go_wp2_with fail
  refine HR.mono ?_
  rintro en w1 ⟨r, ro, rn, rc, rfl, R1, P1, b1, q1⟩
  have c3 := R1.c3
  have c4 := R1.c4
  have h1 := h.past b1
  have HM := room_eq h1.drew
  have hw : IntKind.i64.wrap k = k := IntWalk.i64_in _ (by omega)
  go_wp2_with fail
  go_still_tail 7, (by kernel_rfl)
  still_call HM
  repeat still_step
  refine wpStill_nil ?_
  change wpList _ _ _ _ _ w1.drew
  have R2 := R1.drew
  have P2 := P1.past (Below.refl _ _).drew
  have b2 := b1.drew
  generalize w1.drew = w2 at R2 P2 b2 ⊢
  go_wp2_with fail
  have L3 : LogAt (w2.alloc (.cells #[.pointer (some ⟨d, 0, none⟩), .int .i64 (roomN n), .int .i64 z, .int .i64 0] 99)) w2.heap.size d (roomN n) z 0 := heap_alloc_new w2 _
  have B3 := (Below.refl w2.heap.size w2).alloc (Nat.le_refl _) (.cells #[.pointer (some ⟨d, 0, none⟩), .int .i64 (roomN n), .int .i64 z, .int .i64 0] 99)
  clear HM c3 c4 h1 P1 R1 h HR
  generalize (w2.alloc (.cells #[.pointer (some ⟨d, 0, none⟩), .int .i64 (roomN n), .int .i64 z, .int .i64 0] 99)) = w3 at L3 B3 ⊢
  generalize hg : w2.heap.size = g at L3 B3 ⊢
  have HG := Lib.hid hg
  clear hg
  have L4 : LogAt w3.drew g d (roomN n) z 0 := L3.past (Below.refl _ _).drew
  have B4 := B3.drew
  have c5 : w3.cell? ⟨r, 5, none⟩ = some (.int .i64 k) := (R2.past (by rw [HG.out]; exact B3)).c5
  go_still_tail 7, (by kernel_rfl)
  repeat still_step
  change wpList _ _ _ _ _ w3.drew
  clear L3 B3 c5
  generalize w3.drew = w4 at L4 B4 ⊢
  have L5 := L4.count k
  have B5 := B4.setCell (p := ⟨g, 3, none⟩) (Nat.le_refl _) (.int .i64 k)
  go_wp2_with (go_at_call 31; refine (store_int ⟨g, 3, none⟩ _ _ _ L4.c3 (L4.free 3)).mono ?_; rintro e w' ⟨rfl, rfl⟩)
  generalize (w4.setCell ⟨g, 3, none⟩ (.int .i64 k)) = w5 at L5 B5 ⊢
  have B6 : Below w2.heap.size w2 w5 := by rw [HG.out]; exact B5
  have c6 := (R2.past B6).c6
  go_quiet (fail)
  go_wp2_with fail
  go_ret3
  have b7 := below_drewN (Below.refl w5.heap.size w5) nq
  exact ⟨g, ro, rn, rc, rfl, L5.past b7, (P2.past B6).past b7, (b2.trans (B6.mono b2.size)).trans (b7.mono (Nat.le_trans b2.size B6.size)), by rw [← HG.out]; exact b2.size⟩
theorem open_ok_any (h : IsD w d n S s) (hg : s.gone = false) (hn2 : 2 ≤ n) (hok : rdOK n s) :
    Calls Try.prog 13 #[.pointer (some ⟨d, 0, none⟩)] w (OpenIs w d (roomN n) (hdN s) ((recL n s).length : Nat) (recL n s)) := by
  have hR := read_any h hg hn2
  have hL := recL_length n s h.small
  have hP := (rd_plain n hn2 h.small s hL).2 hok
  have e1 : rdE n s = 0 := if_pos hok
  have hs := h.small
  have e2 : hdS s = (hdN s : Int) := by
    rw [hdS_eq]
    exact wrap_small _ (by have := hok.1; omega)
  rw [e1, e2, ← hP.2.2] at hR
  exact open_yes h _ _ (by omega) _ hR
theorem open_bad_any (h : IsD w d n S s) (hg : s.gone = false) (hn2 : 2 ≤ n) (hok : ¬ rdOK n s) :
    Calls Try.prog 13 #[.pointer (some ⟨d, 0, none⟩)] w (NoLog w 10) := by
  have hR := read_any h hg hn2
  have e1 : rdE n s = 10 := if_neg hok
  rw [e1] at hR
  exact open_no d w _ _ _ hR
end
end Go.Proofs.Ytpfhggalbdjjmaa
