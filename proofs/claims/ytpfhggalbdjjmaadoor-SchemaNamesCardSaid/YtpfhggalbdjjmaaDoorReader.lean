/-
  What a reader of package code holds ('Rd'), and its Fail, End, New.
-/
import Derived.Test.YtpfhggalbdjjmaaDoorFail
import Derived.Test.YtpfhggalbdjjmaaDoorLow
namespace Go.Proofs.YtpfhggalbdjjmaaDoor
open Go.RowKit

/-- A READER LIES IN BLOCK g: the bytes l are left to read (they lie in block D), its error is e. -/
def Rd (w : World) (g : Nat) (D : Option Nat) (l : List UInt8) (e : Int) : Prop :=
  ∃ ao n cap d, w.heap[g]? = some (.cells #[.slice ao n cap, .int .u32 d, .int .i32 0, .int .u32 0, .int .i64 e] 97 (0, 0)) ∧
    ((e = 0 ∧ d = 0) ∨ (e ≠ 0 ∧ d = 1)) ∧ IsB w ao n cap l ∧ (∀ a, ao = some a → D = some a.block) ∧ D ≠ some g

theorem grown_setCell {w a : World} {g i : Nat} {v : Value} (h : w.grownBy a (some g)) : w.grownBy (a.setCell ⟨g, i, none⟩ v) (some g) :=
  ⟨h.os, h.tape, h.output, by have := h.size; simpa [World.setCell] using this, fun k hk hne => by
    rw [Below.heap_setCell _ _ _ _ (fun e => hne (by rw [e])), h.block k hk hne]⟩
theorem grown_alloc {w a : World} {r : Option Nat} {o : Obj} (h : w.grownBy a r) : w.grownBy (a.alloc o) r :=
  ⟨h.os, h.tape, h.output, by have := h.size; simp; omega, fun k hk hne => by
    have := h.size
    rw [Below.heap_alloc _ _ _ (by omega), h.block k hk hne]⟩
theorem grown_drew {w a : World} {r : Option Nat} (h : w.grownBy a r) : w.grownBy a.drew r := ⟨h.os, h.tape, h.output, h.size, h.block⟩
theorem grown_trans {a b c : World} {g : Nat} (h : a.grownBy b (some g)) (k : b.grownBy c (some g)) : a.grownBy c (some g) :=
  ⟨k.os.trans h.os, k.tape.trans h.tape, k.output.trans h.output, Nat.le_trans h.size k.size, fun i hi hne => by
    have := h.size
    rw [k.block i (by omega) hne, h.block i hi hne]⟩
theorem grown_below {w a : World} {g B : Nat} (h : w.grownBy a (some g)) (hg : B ≤ g) (hB : B ≤ w.heap.size) : Below B w a :=
  ⟨h.os, h.tape, h.output, h.size, fun k hk => h.block k (by omega) (fun e => by have := Option.some.inj e; omega)⟩
theorem below_grown {w a : World} (r : Option Nat) (h : Below w.heap.size w a) : w.grownBy a r := ⟨h.os, h.tape, h.output, h.size, fun k hk _ => h.block k hk⟩
theorem heap_setCell_same {w : World} {g i : Nat} {cur : Array Value} {t : TypeId} {v : Value} (h : w.heap[g]? = some (.cells cur t (0, 0))) : (w.setCell ⟨g, i, none⟩ v).heap[g]? = some (.cells (cur.setIfInBounds i v) t (0, 0)) := by
  rw [setCell_eq_setRow w g i cur t (0, 0) v h]
  exact setRow_heap w g cur _ t _ h

theorem Rd.lt {w : World} {g : Nat} {D : Option Nat} {l : List UInt8} {e : Int} (h : Rd w g D l e) : g < w.heap.size := by
  obtain ⟨_, _, _, _, h, _⟩ := h
  exact (Array.getElem?_eq_some_iff.1 h).1
theorem Rd.kept {w w' : World} {g : Nat} {D row : Option Nat} {l : List UInt8} {e : Int} (h : Rd w g D l e) (k : w.grownBy w' row) (h1 : some g ≠ row) (h2 : ∀ b, D = some b → some b ≠ row) : Rd w' g D l e := by
  have hl := h.lt
  obtain ⟨ao, n, cap, d, hb, hd, hi, hD, hne⟩ := h
  exact ⟨ao, n, cap, d, by rw [k.block g hl h1]; exact hb, hd, hi.grown k (fun a ha => h2 _ (hD a ha)), hD, hne⟩
theorem Rd.below {w w' : World} {g : Nat} {D : Option Nat} {l : List UInt8} {e : Int} (h : Rd w g D l e) (k : Below w.heap.size w w') : Rd w' g D l e :=
  h.kept (below_grown none k) (by simp) (by simp)

theorem cell_blk {w : World} {g i : Nat} {cur : Array Value} {t : TypeId} {v : Value} (h : w.heap[g]? = some (.cells cur t (0, 0))) (hv : cur[i]? = some v) : w.cell? ⟨g, i, none⟩ = some v := by
  rw [cell_of_row w g i cur t (0, 0) h]; exact hv
theorem free_blk {w : World} {g i : Nat} {cur : Array Value} {t : TypeId} (h : w.heap[g]? = some (.cells cur t (0, 0))) : w.frozen? ⟨g, i, none⟩ = false := by
  simp [World.frozen?, h]

/-- The first error stays. -/
def err1 (e x : Int) : Int := if e = 0 then x else e
theorem err1_zero (x : Int) : err1 0 x = x := by simp [err1]
theorem err1_some {e : Int} (x : Int) (h : e ≠ 0) : err1 e x = e := by simp [err1, h]
theorem err1_none (e : Int) : err1 e 0 = e := by unfold err1; split <;> simp_all

/-- Nothing is answered; reader g holds the bytes l and the error e; no other block that was there has changed. -/
def Done (w : World) (g : Nat) (D : Option Nat) (l : List UInt8) (e : Int) (en : Ending) (w' : World) : Prop :=
  en = .returned (.tuple #[]) ∧ Rd w' g D l e ∧ w.grownBy w' (some g)

set_option maxRecDepth 100000 in
set_option maxHeartbeats 800000 in
theorem fail_any (g : Nat) (D : Option Nat) (l : List UInt8) (e x : Int) (w : World) (h : Rd w g D l e) :
    Calls Tryd.prog 61 #[.pointer (some ⟨g, 0, none⟩), .int .i64 x] w (Done w g D l (err1 e x)) := by
  have hlt := h.lt
  have H := Lib.hid h
  obtain ⟨ao, n, cap, d, hb, hd, hi, hD, hne⟩ := h
  have HB := Lib.hid hb
  clear hb
  by_cases hx : x = 0
  · have hx0 : (x != 0) = false := by simp [hx]
    have E : Hid (err1 e x = e) := by unfold Hid; rw [hx]; exact err1_none e
    clear hx hi hD hne hd HB
    go_enter Tryd.func61, Tryd.ntmps61
    go_wp2_with fail
    go_end0
    refine ⟨rfl, ?_, grown_alloc (grown_alloc (World.grownBy.refl _ _))⟩
    rw [E.out]
    exact H.out.below (((Below.refl _ _).alloc (Nat.le_refl _) _).alloc (by simp) _)
  · have hx0 : (x != 0) = true := by simp [hx]
    have hs1 : (w.alloc (.cells #[.pointer (some ⟨g, 0, none⟩)] 75)).heap.size = w.heap.size + 1 := by simp
    obtain ⟨W, hW⟩ : ∃ W, W = (w.alloc (.cells #[.pointer (some ⟨g, 0, none⟩)] 75)).alloc (.cells #[.int .i64 x] 27) := ⟨_, rfl⟩
    have a1 : W.cell? ⟨w.heap.size + 1, 0, none⟩ = some (.int .i64 x) := by
      have := heap_alloc_new (w.alloc (.cells #[.pointer (some ⟨g, 0, none⟩)] 75)) (.cells #[.int .i64 x] 27)
      rw [hs1] at this
      rw [hW]
      exact cell_blk this rfl
    have a0 : W.cell? ⟨w.heap.size, 0, none⟩ = some (.pointer (some ⟨g, 0, none⟩)) := by
      rw [hW, World.cell?_alloc_past _ _ _ (by simp)]
      exact cell_blk (heap_alloc_new w _) rfl
    have B1 : Below w.heap.size w W := by rw [hW]; exact ((Below.refl _ _).alloc (Nat.le_refl _) _).alloc (by simp) _
    have HW : W.heap[g]? = some (.cells #[.slice ao n cap, .int .u32 d, .int .i32 0, .int .u32 0, .int .i64 e] 97 (0, 0)) := by rw [B1.block g hlt]; exact HB.out
    have H1 := H.out.below B1
    by_cases he : e = 0
    · obtain rfl : d = 0 := by rcases hd with h | h; exact h.2; exact absurd he h.1
      subst he
      have h1 : W.cell? ⟨g, 1, none⟩ = some (.int .u32 0) := cell_blk HW rfl
      have h2 : W.cell? ⟨g, 2, none⟩ = some (.int .i32 0) := cell_blk HW rfl
      have h4 : W.cell? ⟨g, 4, none⟩ = some (.int .i64 0) := cell_blk HW rfl
      have hdo := do_first g ⟨w.heap.size + 1, 0, none⟩ ⟨w.heap.size, 0, none⟩ (by simp; omega) (by simp; omega) x _ W a1 a0 h1 h2 h4 (free_blk HW) (free_blk HW) (free_blk HW)
      have G : w.grownBy ((((W.setCell ⟨g, 2, none⟩ (.int .i32 1)).setCell ⟨g, 4, none⟩ (.int .i64 x)).drew.setCell ⟨g, 1, none⟩ (.int .u32 1)).setCell ⟨g, 2, none⟩ (.int .i32 0)) (some g) :=
        grown_setCell (grown_setCell (grown_drew (grown_setCell (grown_setCell (below_grown _ B1)))))
      have R : Rd ((((W.setCell ⟨g, 2, none⟩ (.int .i32 1)).setCell ⟨g, 4, none⟩ (.int .i64 x)).drew.setCell ⟨g, 1, none⟩ (.int .u32 1)).setCell ⟨g, 2, none⟩ (.int .i32 0)) g D l x :=
        ⟨ao, n, cap, 1, (heap_setCell_same (i := 2) (v := .int .i32 0) (heap_setCell_same (i := 1) (v := .int .u32 1) (w := World.drew _) (heap_setCell_same (i := 4) (v := .int .i64 x) (heap_setCell_same (i := 2) (v := .int .i32 1) HW)))).trans rfl, .inr ⟨hx, rfl⟩, hi.grown G (fun a ha e => hne (by rw [hD a ha, e])), hD, hne⟩
      have HDO := Lib.hid (hdo.mono (R' := Done w g D l x) (by rintro en w' ⟨rfl, rfl⟩; exact ⟨rfl, R, G⟩))
      clear hdo G R h1 h2 h4 H1 HW B1 a0 a1 hne hD hi hd H HB
      subst hW
      go_enter Tryd.func61, Tryd.ntmps61
      go_wp2_with (go_at_call 53; refine HDO.out.mono ?_; rintro en w' ⟨rfl, hw'⟩)
      go_end0
      rw [err1_zero]
      exact ⟨rfl, hw'⟩
    · obtain rfl : d = 1 := by rcases hd with h | h; exact absurd h.1 he; exact h.2
      have h1 : W.cell? ⟨g, 1, none⟩ = some (.int .u32 1) := cell_blk HW rfl
      have hdo := do_done ⟨g, 1, none⟩ 1 rfl (.func (.func 72) #[] #[.pointer (some ⟨w.heap.size + 1, 0, none⟩), .pointer (some ⟨w.heap.size, 0, none⟩)]) W h1
      have HDO := Lib.hid (hdo.mono (R' := Done w g D l e) (by rintro en w' ⟨rfl, rfl⟩; exact ⟨rfl, H1, below_grown (some g) B1⟩))
      have E := Lib.hid (err1_some x he)
      clear hdo h1 H1 HW B1 a0 a1 hne hD hi hd H HB he
      subst hW
      go_enter Tryd.func61, Tryd.ntmps61
      go_wp2_with (go_at_call 53; refine HDO.out.mono ?_; rintro en w' ⟨rfl, hw'⟩)
      go_end0
      rw [E.out]
      exact ⟨rfl, hw'⟩
end Go.Proofs.YtpfhggalbdjjmaaDoor
