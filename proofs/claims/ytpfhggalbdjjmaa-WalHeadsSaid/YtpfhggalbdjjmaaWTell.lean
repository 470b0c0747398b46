/-
  What a reading of a log's disk holds ('Rg'); the first error that it is told stays.
-/
import Derived.Test.YtpfhggalbdjjmaaReadI
import Derived.Test.YtpfhggalbdjjmaaDIs
import Derived.Deep.QuietTactic
import Derived.BigQuiet
namespace Go.Proofs.Ytpfhggalbdjjmaa
open Go.RowKit
set_option maxRecDepth 100000 in
set_option maxHeartbeats 1600000 in
theorem tslow_any (g : Nat) (pe pr : Addr) (hpe : pe.block ≠ g) (hpr : pr.block ≠ g) (e : Int) (x4 : Value) (w : World) (he : w.cell? pe = some (.int .i64 e)) (hr : w.cell? pr = some (.pointer (some ⟨g, 0, none⟩)))
    (h1 : w.cell? ⟨g, 0, none⟩ = some (.int .u32 0)) (h2 : w.cell? ⟨g, 1, none⟩ = some (.int .i32 0)) (h4 : w.cell? ⟨g, 3, none⟩ = some x4)
    (f1 : w.frozen? ⟨g, 0, none⟩ = false) (f2 : w.frozen? ⟨g, 1, none⟩ = false) (f4 : w.frozen? ⟨g, 3, none⟩ = false) :
    Calls Try.prog 77 #[.pointer (some ⟨g, 0, none⟩), .func (.func 71) #[] #[.pointer (some pe), .pointer (some pr)]] w fun en w' => en = .returned (.tuple #[]) ∧
      w' = (((w.setCell ⟨g, 1, none⟩ (.int .i32 1)).setCell ⟨g, 3, none⟩ (.int .i64 e)).drew.setCell ⟨g, 0, none⟩ (.int .u32 1)).setCell ⟨g, 1, none⟩ (.int .i32 0) := by
  have k1 : (w.setCell ⟨g, 1, none⟩ (.int .i32 1)).cell? ⟨g, 0, none⟩ = some (.int .u32 0) := (World.cell?_setCell_other _ ⟨g, 1, none⟩ ⟨g, 0, none⟩ _ (by simp)).trans h1
  have ke : (w.setCell ⟨g, 1, none⟩ (.int .i32 1)).cell? pe = some (.int .i64 e) := (World.cell?_setCell_other _ ⟨g, 1, none⟩ pe _ (fun h => hpe (by rw [← h]))).trans he
  have kr : (w.setCell ⟨g, 1, none⟩ (.int .i32 1)).cell? pr = some (.pointer (some ⟨g, 0, none⟩)) := (World.cell?_setCell_other _ ⟨g, 1, none⟩ pr _ (fun h => hpr (by rw [← h]))).trans hr
  have k4 : (w.setCell ⟨g, 1, none⟩ (.int .i32 1)).cell? ⟨g, 3, none⟩ = some x4 := (World.cell?_setCell_other _ ⟨g, 1, none⟩ ⟨g, 3, none⟩ _ (by simp)).trans h4
  have hnot : ∀ (x : Bool) (w : World), (Op.unary .not (.bool x)).run Try.prog w = .ok (.bool (!x)) w := fun _ _ => rfl
  go_enter_defers Try.func77, Try.ntmps77
  go_wp2_with (first | (go_at_call 79; refine (lock_free ⟨g, 1, none⟩ _ (by go_simp) (by go_simp)).mono ?_; rintro e w' ⟨rfl, rfl⟩) | (go_at_call 41; refine (load_any ⟨g, 0, none⟩ 0 false rfl _ k1).mono ?_; rintro e w' ⟨rfl, rfl⟩))
  go_wp2
  go_end0
  go_wp2
  refine leaves_cons (f := 43) (args := #[.pointer (some ⟨g, 0, none⟩), .bool true]) (by simp) (by simp [go_sem]) ?_
  refine (store_deferred ⟨g, 0, none⟩ (.int .u32 0) .returning _ ?_ (by simp [f1])).mono ?_
  · exact (World.cell?_setCell_other _ ⟨g, 3, none⟩ ⟨g, 0, none⟩ _ (by simp)).trans k1
  rintro e u' w'' ⟨rfl, rfl, rfl⟩
  refine leaves_cons (f := 80) (args := #[.pointer (some ⟨g, 1, none⟩)]) (by simp [settle]) (by simp [go_sem]) ?_
  refine (unlock_deferred ⟨g, 1, none⟩ _ _ ?_ (by simp [f2])).mono ?_
  · refine (World.cell?_setCell_other _ ⟨g, 0, none⟩ ⟨g, 1, none⟩ _ (by simp)).trans ?_
    rw [World.cell?_drew]
    exact (World.cell?_setCell_other _ ⟨g, 3, none⟩ ⟨g, 1, none⟩ _ (by simp)).trans (World.cell?_setCell_same w _ _ h2)
  rintro e u' w'' ⟨rfl, rfl, rfl⟩
  simp [Leaves, settle, results, Try.results77]

set_option maxRecDepth 100000 in
set_option maxHeartbeats 1600000 in
/-- '(*sync.Once).Do', not yet done. -/
theorem tdo_first (g : Nat) (pe pr : Addr) (hpe : pe.block ≠ g) (hpr : pr.block ≠ g) (e : Int) (x4 : Value) (w : World) (he : w.cell? pe = some (.int .i64 e)) (hr : w.cell? pr = some (.pointer (some ⟨g, 0, none⟩)))
    (h1 : w.cell? ⟨g, 0, none⟩ = some (.int .u32 0)) (h2 : w.cell? ⟨g, 1, none⟩ = some (.int .i32 0)) (h4 : w.cell? ⟨g, 3, none⟩ = some x4)
    (f1 : w.frozen? ⟨g, 0, none⟩ = false) (f2 : w.frozen? ⟨g, 1, none⟩ = false) (f4 : w.frozen? ⟨g, 3, none⟩ = false) :
    Calls Try.prog 70 #[.pointer (some ⟨g, 0, none⟩), .func (.func 71) #[] #[.pointer (some pe), .pointer (some pr)]] w fun en w' => en = .returned (.tuple #[]) ∧
      w' = (((w.setCell ⟨g, 1, none⟩ (.int .i32 1)).setCell ⟨g, 3, none⟩ (.int .i64 e)).drew.setCell ⟨g, 0, none⟩ (.int .u32 1)).setCell ⟨g, 1, none⟩ (.int .i32 0) := by
  have hnot : ∀ (x : Bool) (w : World), (Op.unary .not (.bool x)).run Try.prog w = .ok (.bool (!x)) w := fun _ _ => rfl
  go_enter Try.func70, Try.ntmps70
  go_wp2_with (first | (go_at_call 77; refine (tslow_any g pe pr hpe hpr e x4 _ he hr h1 h2 h4 f1 f2 f4).mono ?_; rintro e w' ⟨rfl, rfl⟩) | (go_at_call 41; refine (load_any ⟨g, 0, none⟩ 0 false rfl _ h1).mono ?_; rintro e w' ⟨rfl, rfl⟩))
  go_end0
  exact ⟨rfl, rfl⟩

/-- The cells of a reading: its Once, its error, how many bytes, records are said, the records. -/
def rgC (d e s k : Int) (ro : Option Addr) (rn rc : Nat) : Array Value := #[.int .u32 d, .int .i32 0, .int .u32 0, .int .i64 e, .int .i64 s, .int .i64 k, .slice ro rn rc]
/-- A READING LIES IN BLOCK r: its error is e. -/
def Rg (w : World) (r : Nat) (e s k : Int) (ro : Option Addr) (rn rc : Nat) : Prop :=
  ∃ d, w.heap[r]? = some (.cells (rgC d e s k ro rn rc) 96 (0, 0)) ∧ ((e = 0 ∧ d = 0) ∨ (e ≠ 0 ∧ d = 1))
section
variable {w w' : World} {r : Nat} {e s k : Int} {ro : Option Addr} {rn rc : Nat}
theorem Rg.lt (h : Rg w r e s k ro rn rc) : r < w.heap.size := by
  obtain ⟨_, h, _⟩ := h
  exact (Array.getElem?_eq_some_iff.1 h).1
theorem Rg.kept {row : Option Nat} (h : Rg w r e s k ro rn rc) (g : w.grownBy w' row) (h1 : some r ≠ row) : Rg w' r e s k ro rn rc := by
  have hl := h.lt
  obtain ⟨d, hb, hd⟩ := h
  exact ⟨d, by rw [g.block r hl h1]; exact hb, hd⟩
theorem Rg.past (h : Rg w r e s k ro rn rc) (b : Below w.heap.size w w') : Rg w' r e s k ro rn rc := h.kept (below_grown none b) (by simp)
theorem Rg.drew (h : Rg w r e s k ro rn rc) : Rg w.drew r e s k ro rn rc := h.past (Below.refl _ _).drew
theorem Rg.c3 (h : Rg w r e s k ro rn rc) : w.cell? ⟨r, 3, none⟩ = some (.int .i64 e) := by obtain ⟨_, hb, _⟩ := h; exact cell_blk hb rfl
theorem Rg.c4 (h : Rg w r e s k ro rn rc) : w.cell? ⟨r, 4, none⟩ = some (.int .i64 s) := by obtain ⟨_, hb, _⟩ := h; exact cell_blk hb rfl
theorem Rg.c5 (h : Rg w r e s k ro rn rc) : w.cell? ⟨r, 5, none⟩ = some (.int .i64 k) := by obtain ⟨_, hb, _⟩ := h; exact cell_blk hb rfl
theorem Rg.c6 (h : Rg w r e s k ro rn rc) : w.cell? ⟨r, 6, none⟩ = some (.slice ro rn rc) := by obtain ⟨_, hb, _⟩ := h; exact cell_blk hb rfl
theorem Rg.free (h : Rg w r e s k ro rn rc) (i : Nat) : w.frozen? ⟨r, i, none⟩ = false := by obtain ⟨_, hb, _⟩ := h; exact free_blk hb
theorem Rg.size (h : Rg w r e s k ro rn rc) (x : Int) : Rg (w.setCell ⟨r, 4, none⟩ (.int .i64 x)) r e x k ro rn rc := by
  obtain ⟨d, hb, hd⟩ := h
  exact ⟨d, (heap_setCell_same (i := 4) hb).trans rfl, hd⟩
theorem Rg.count (h : Rg w r e s k ro rn rc) (x : Int) : Rg (w.setCell ⟨r, 5, none⟩ (.int .i64 x)) r e s x ro rn rc := by
  obtain ⟨d, hb, hd⟩ := h
  exact ⟨d, (heap_setCell_same (i := 5) hb).trans rfl, hd⟩
theorem Rg.recs (h : Rg w r e s k ro rn rc) (ao : Option Addr) (n c : Nat) : Rg (w.setCell ⟨r, 6, none⟩ (.slice ao n c)) r e s k ao n c := by
  obtain ⟨d, hb, hd⟩ := h
  exact ⟨d, (heap_setCell_same (i := 6) hb).trans rfl, hd⟩
end
/-- Nothing is answered; the reading's error is e; no other block that was there has changed. -/
def ToldR (w : World) (r : Nat) (e s k : Int) (ro : Option Addr) (rn rc : Nat) (en : Ending) (w' : World) : Prop :=
  en = .returned (.tuple #[]) ∧ Rg w' r e s k ro rn rc ∧ w.grownBy w' (some r)
set_option maxRecDepth 100000 in
set_option maxHeartbeats 800000 in
theorem tell_any (g : Nat) (e s k : Int) (ro : Option Addr) (rn rc : Nat) (x : Int) (w : World) (h : Rg w g e s k ro rn rc) :
    Calls Try.prog 53 #[.pointer (some ⟨g, 0, none⟩), .int .i64 x] w (ToldR w g (err1 e x) s k ro rn rc) := by
  have hlt := h.lt
  have H := Lib.hid h
  obtain ⟨d, hb, hd⟩ := h
  have HB := Lib.hid hb
  clear hb
  by_cases hx : x = 0
  · have hx0 : (x != 0) = false := by simp [hx]
    have E : Hid (err1 e x = e) := by unfold Hid; rw [hx]; exact err1_none e
    clear hx hd HB
    go_enter Try.func53, Try.ntmps53
    go_wp2_with fail
    go_end0
    refine ⟨rfl, ?_, grown_alloc (grown_alloc (World.grownBy.refl _ _))⟩
    rw [E.out]
    exact H.out.past (((Below.refl _ _).alloc (Nat.le_refl _) _).alloc (by simp) _)
  · have hx0 : (x != 0) = true := by simp [hx]
    have hs1 : (w.alloc (.cells #[.pointer (some ⟨g, 0, none⟩)] 148)).heap.size = w.heap.size + 1 := by simp
    obtain ⟨W, hW⟩ : ∃ W, W = (w.alloc (.cells #[.pointer (some ⟨g, 0, none⟩)] 148)).alloc (.cells #[.int .i64 x] 25) := ⟨_, rfl⟩
    have a1 : W.cell? ⟨w.heap.size + 1, 0, none⟩ = some (.int .i64 x) := by
      have := heap_alloc_new (w.alloc (.cells #[.pointer (some ⟨g, 0, none⟩)] 148)) (.cells #[.int .i64 x] 25)
      rw [hs1] at this
      rw [hW]
      exact cell_blk this rfl
    have a0 : W.cell? ⟨w.heap.size, 0, none⟩ = some (.pointer (some ⟨g, 0, none⟩)) := by
      rw [hW, World.cell?_alloc_past _ _ _ (by simp)]
      exact cell_blk (heap_alloc_new w _) rfl
    have B1 : Below w.heap.size w W := by rw [hW]; exact ((Below.refl _ _).alloc (Nat.le_refl _) _).alloc (by simp) _
    have HW : W.heap[g]? = some (.cells (rgC d e s k ro rn rc) 96 (0, 0)) := by rw [B1.block g hlt]; exact HB.out
    have H1 := H.out.past B1
    by_cases he : e = 0
    · obtain rfl : d = 0 := by rcases hd with h | h; exact h.2; exact absurd he h.1
      subst he
      have h1 : W.cell? ⟨g, 0, none⟩ = some (.int .u32 0) := cell_blk HW rfl
      have h2 : W.cell? ⟨g, 1, none⟩ = some (.int .i32 0) := cell_blk HW rfl
      have h4 : W.cell? ⟨g, 3, none⟩ = some (.int .i64 0) := cell_blk HW rfl
      have hdo := tdo_first g ⟨w.heap.size + 1, 0, none⟩ ⟨w.heap.size, 0, none⟩ (by simp; omega) (by simp; omega) x _ W a1 a0 h1 h2 h4 (free_blk HW) (free_blk HW) (free_blk HW)
      have G : w.grownBy ((((W.setCell ⟨g, 1, none⟩ (.int .i32 1)).setCell ⟨g, 3, none⟩ (.int .i64 x)).drew.setCell ⟨g, 0, none⟩ (.int .u32 1)).setCell ⟨g, 1, none⟩ (.int .i32 0)) (some g) :=
        grown_setCell (grown_setCell (grown_drew (grown_setCell (grown_setCell (below_grown _ B1)))))
      have R : Rg ((((W.setCell ⟨g, 1, none⟩ (.int .i32 1)).setCell ⟨g, 3, none⟩ (.int .i64 x)).drew.setCell ⟨g, 0, none⟩ (.int .u32 1)).setCell ⟨g, 1, none⟩ (.int .i32 0)) g x s k ro rn rc :=
        ⟨1, (heap_setCell_same (i := 1) (v := .int .i32 0) (heap_setCell_same (i := 0) (v := .int .u32 1) (w := World.drew _) (heap_setCell_same (i := 3) (v := .int .i64 x) (heap_setCell_same (i := 1) (v := .int .i32 1) HW)))).trans rfl, .inr ⟨hx, rfl⟩⟩
      have HDO := Lib.hid (hdo.mono (R' := ToldR w g x s k ro rn rc) (by rintro en w' ⟨rfl, rfl⟩; exact ⟨rfl, R, G⟩))
      clear hdo G R h1 h2 h4 H1 HW B1 a0 a1 hd H HB
      subst hW
      go_enter Try.func53, Try.ntmps53
      go_wp2_with (go_at_call 70; refine HDO.out.mono ?_; rintro en w' ⟨rfl, hw'⟩)
      go_end0
      rw [err1_zero]
      exact ⟨rfl, hw'⟩
    · obtain rfl : d = 1 := by rcases hd with h | h; exact absurd h.1 he; exact h.2
      have h1 : W.cell? ⟨g, 0, none⟩ = some (.int .u32 1) := cell_blk HW rfl
      have hdo := do_done ⟨g, 0, none⟩ 1 rfl (.func (.func 71) #[] #[.pointer (some ⟨w.heap.size + 1, 0, none⟩), .pointer (some ⟨w.heap.size, 0, none⟩)]) W h1
      have HDO := Lib.hid (hdo.mono (R' := ToldR w g e s k ro rn rc) (by rintro en w' ⟨rfl, rfl⟩; exact ⟨rfl, H1, below_grown (some g) B1⟩))
      have E := Lib.hid (err1_some x he)
      clear hdo h1 H1 HW B1 a0 a1 hd H HB he
      subst hW
      go_enter Try.func53, Try.ntmps53
      go_wp2_with (go_at_call 70; refine HDO.out.mono ?_; rintro en w' ⟨rfl, hw'⟩)
      go_end0
      rw [E.out]
      exact ⟨rfl, hw'⟩
end Go.Proofs.Ytpfhggalbdjjmaa
