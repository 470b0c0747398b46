/-
  (*code.Reader).Fail, by sync.Once.
-/
import Derived.Test.YtpfhggalbdjjmaaDoorOnce
import Derived.Laws.NewBlocks
namespace Go.Proofs.YtpfhggalbdjjmaaDoor
open Go.RowKit

set_option maxRecDepth 100000 in
set_option maxHeartbeats 1600000 in
theorem slow_any (g : Nat) (pe pr : Addr) (hpe : pe.block ≠ g) (hpr : pr.block ≠ g) (e : Int) (x4 : Value) (w : World) (he : w.cell? pe = some (.int .i64 e)) (hr : w.cell? pr = some (.pointer (some ⟨g, 0, none⟩)))
    (h1 : w.cell? ⟨g, 1, none⟩ = some (.int .u32 0)) (h2 : w.cell? ⟨g, 2, none⟩ = some (.int .i32 0)) (h4 : w.cell? ⟨g, 4, none⟩ = some x4)
    (f1 : w.frozen? ⟨g, 1, none⟩ = false) (f2 : w.frozen? ⟨g, 2, none⟩ = false) (f4 : w.frozen? ⟨g, 4, none⟩ = false) :
    Calls Tryd.prog 68 #[.pointer (some ⟨g, 1, none⟩), .func (.func 72) #[] #[.pointer (some pe), .pointer (some pr)]] w fun en w' => en = .returned (.tuple #[]) ∧
      w' = (((w.setCell ⟨g, 2, none⟩ (.int .i32 1)).setCell ⟨g, 4, none⟩ (.int .i64 e)).drew.setCell ⟨g, 1, none⟩ (.int .u32 1)).setCell ⟨g, 2, none⟩ (.int .i32 0) := by
  have k1 : (w.setCell ⟨g, 2, none⟩ (.int .i32 1)).cell? ⟨g, 1, none⟩ = some (.int .u32 0) := (World.cell?_setCell_other _ ⟨g, 2, none⟩ ⟨g, 1, none⟩ _ (by simp)).trans h1
  have ke : (w.setCell ⟨g, 2, none⟩ (.int .i32 1)).cell? pe = some (.int .i64 e) := (World.cell?_setCell_other _ ⟨g, 2, none⟩ pe _ (fun h => hpe (by rw [← h]))).trans he
  have kr : (w.setCell ⟨g, 2, none⟩ (.int .i32 1)).cell? pr = some (.pointer (some ⟨g, 0, none⟩)) := (World.cell?_setCell_other _ ⟨g, 2, none⟩ pr _ (fun h => hpr (by rw [← h]))).trans hr
  have k4 : (w.setCell ⟨g, 2, none⟩ (.int .i32 1)).cell? ⟨g, 4, none⟩ = some x4 := (World.cell?_setCell_other _ ⟨g, 2, none⟩ ⟨g, 4, none⟩ _ (by simp)).trans h4
  have hnot : ∀ (x : Bool) (w : World), (Op.unary .not (.bool x)).run Tryd.prog w = .ok (.bool (!x)) w := fun _ _ => rfl
  go_enter_defers Tryd.func68, Tryd.ntmps68
  go_wp2_with (first | (go_at_call 74; refine (lock_free ⟨g, 2, none⟩ _ (by go_simp) (by go_simp)).mono ?_; rintro e w' ⟨rfl, rfl⟩) | (go_at_call 67; refine (load_any ⟨g, 1, none⟩ 0 false rfl _ k1).mono ?_; rintro e w' ⟨rfl, rfl⟩))
  go_wp2
  go_end0
  go_wp2
  refine leaves_cons (f := 76) (args := #[.pointer (some ⟨g, 1, none⟩), .bool true]) (by simp) (by simp [go_sem]) ?_
  refine (store_deferred ⟨g, 1, none⟩ (.int .u32 0) .returning _ ?_ (by simp [f1])).mono ?_
  · exact (World.cell?_setCell_other _ ⟨g, 4, none⟩ ⟨g, 1, none⟩ _ (by simp)).trans k1
  rintro e u' w'' ⟨rfl, rfl, rfl⟩
  refine leaves_cons (f := 75) (args := #[.pointer (some ⟨g, 2, none⟩)]) (by simp [settle]) (by simp [go_sem]) ?_
  refine (unlock_deferred ⟨g, 2, none⟩ _ _ ?_ (by simp [f2])).mono ?_
  · refine (World.cell?_setCell_other _ ⟨g, 1, none⟩ ⟨g, 2, none⟩ _ (by simp)).trans ?_
    rw [World.cell?_drew]
    exact (World.cell?_setCell_other _ ⟨g, 4, none⟩ ⟨g, 2, none⟩ _ (by simp)).trans (World.cell?_setCell_same w _ _ h2)
  rintro e u' w'' ⟨rfl, rfl, rfl⟩
  simp [Leaves, settle, results, Tryd.results68]

set_option maxRecDepth 100000 in
set_option maxHeartbeats 1600000 in
/-- '(*sync.Once).Do', not yet done. -/
theorem do_first (g : Nat) (pe pr : Addr) (hpe : pe.block ≠ g) (hpr : pr.block ≠ g) (e : Int) (x4 : Value) (w : World) (he : w.cell? pe = some (.int .i64 e)) (hr : w.cell? pr = some (.pointer (some ⟨g, 0, none⟩)))
    (h1 : w.cell? ⟨g, 1, none⟩ = some (.int .u32 0)) (h2 : w.cell? ⟨g, 2, none⟩ = some (.int .i32 0)) (h4 : w.cell? ⟨g, 4, none⟩ = some x4)
    (f1 : w.frozen? ⟨g, 1, none⟩ = false) (f2 : w.frozen? ⟨g, 2, none⟩ = false) (f4 : w.frozen? ⟨g, 4, none⟩ = false) :
    Calls Tryd.prog 53 #[.pointer (some ⟨g, 1, none⟩), .func (.func 72) #[] #[.pointer (some pe), .pointer (some pr)]] w fun en w' => en = .returned (.tuple #[]) ∧
      w' = (((w.setCell ⟨g, 2, none⟩ (.int .i32 1)).setCell ⟨g, 4, none⟩ (.int .i64 e)).drew.setCell ⟨g, 1, none⟩ (.int .u32 1)).setCell ⟨g, 2, none⟩ (.int .i32 0) := by
  have hnot : ∀ (x : Bool) (w : World), (Op.unary .not (.bool x)).run Tryd.prog w = .ok (.bool (!x)) w := fun _ _ => rfl
  go_enter Tryd.func53, Tryd.ntmps53
  go_wp2_with (first | (go_at_call 68; refine (slow_any g pe pr hpe hpr e x4 _ he hr h1 h2 h4 f1 f2 f4).mono ?_; rintro e w' ⟨rfl, rfl⟩) | (go_at_call 67; refine (load_any ⟨g, 1, none⟩ 0 false rfl _ h1).mono ?_; rintro e w' ⟨rfl, rfl⟩))
  go_end0
  exact ⟨rfl, rfl⟩

/-- '(*sync.Once).Do', done already: the function is not called. -/
theorem do_done (a : Addr) (d : Int) (hd : (d != 0) = true) (fv : Value) (w : World) (h0 : w.cell? a = some (.int .u32 d)) :
    Calls Tryd.prog 53 #[.pointer (some a), fv] w fun e w' => e = .returned (.tuple #[]) ∧ w = w' := by
  have hnot : ∀ (x : Bool) (w : World), (Op.unary .not (.bool x)).run Tryd.prog w = .ok (.bool (!x)) w := fun _ _ => rfl
  go_enter Tryd.func53, Tryd.ntmps53
  go_wp2_with (go_at_call 67; refine (load_any a d true hd _ h0).mono ?_; rintro e w' ⟨rfl, rfl⟩)
  go_end0
  exact ⟨rfl, rfl⟩
end Go.Proofs.YtpfhggalbdjjmaaDoor
