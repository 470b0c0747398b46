/-
  sync.Once of a schedule: spread, once.
-/
import Derived.Test.YtpphlmbhonaglaaDoorOnce
import Derived.Test.YtpphlmbhonaglaaDoorSpread
import Derived.Test.YtpphlmbhonaglaaDoorTakeIn
import Derived.Laws.NewBlocks
namespace Go.Proofs.YtpphlmbhonaglaaDoor
open Go.RowKit

def lockV : List Value := [.int .u32 0, .int .i32 1, .int .u32 0]
def halfV : List Value := [.int .u32 1, .int .i32 1, .int .u32 0]

set_option maxRecDepth 100000 in
set_option maxHeartbeats 1600000 in
theorem slow_sha (g : Nat) (st : List UInt32) (blk : List UInt8) (used : Nat) (len : Int) (last : List UInt8) (sch : List UInt32) (w : World) (h : Sm w g st blk used len last (onceV false) sch) :
    Calls Tryd.prog 35 #[.pointer (some ⟨g, 138, none⟩), .func (.func 32) #[.pointer (some ⟨g, 74, none⟩)] #[]] w fun en w' => en = .returned (.tuple #[]) ∧
      Sm w' g st blk used len last (onceV true) (sched (words last 16) 48) ∧ w.grownBy w' (some g) := by
  have c0 : w.cell? ⟨g, 138, none⟩ = some (.int .u32 0) := h.mid_cell 0 _ rfl
  have c1 : w.cell? ⟨g, 139, none⟩ = some (.int .i32 0) := h.mid_cell 1 _ rfl
  have f1 := h.free 139
  have hL : Sm (w.setCell ⟨g, 139, none⟩ (.int .i32 1)) g st blk used len last lockV sch := h.set_mid 1 (.int .i32 1) (by omega)
  have k0 : (w.setCell ⟨g, 139, none⟩ (.int .i32 1)).cell? ⟨g, 138, none⟩ = some (.int .u32 0) := hL.mid_cell 0 _ rfl
  have gL : w.grownBy (w.setCell ⟨g, 139, none⟩ (.int .i32 1)) (some g) := grown_set (World.grownBy.refl _ _)
  have hnot : ∀ (x : Bool) (w : World), (Op.unary .not (.bool x)).run Tryd.prog w = .ok (.bool (!x)) w := fun _ _ => rfl
  go_enter_defers Tryd.func35, Tryd.ntmps35
  go_wp2_with (first | (go_at_call 39; refine (lock_free ⟨g, 139, none⟩ _ (by go_simp) (by go_simp)).mono ?_; rintro e w' ⟨rfl, rfl⟩) | (go_at_call 34; refine (load_any ⟨g, 138, none⟩ 0 false rfl _ k0).mono ?_; rintro e w' ⟨rfl, rfl⟩) | (go_at_call 32; refine (spread_any g st blk used len last lockV sch _ hL).mono ?_; rintro e w2 ⟨rfl, hS, hg⟩))
  have d0 : w2.cell? ⟨g, 138, none⟩ = some (.int .u32 0) := hS.mid_cell 0 _ rfl
  have e0 := hS.free 138
  have hS2 : Sm (w2.drew.setCell ⟨g, 138, none⟩ (.int .u32 1)) g st blk used len last halfV (sched (words last 16) 48) := (hS.kept (w' := w2.drew) rfl).set_mid 0 (.int .u32 1) (by omega)
  have d1 : (w2.drew.setCell ⟨g, 138, none⟩ (.int .u32 1)).cell? ⟨g, 139, none⟩ = some (.int .i32 1) := hS2.mid_cell 1 _ rfl
  have e1 := hS2.free 139
  have g2 : w.grownBy w2 (some g) := grown_then gL hg
  have hS3 : Sm ((w2.drew.setCell ⟨g, 138, none⟩ (.int .u32 1)).setCell ⟨g, 139, none⟩ (.int .i32 0)) g st blk used len last (onceV true) (sched (words last 16) 48) := hS2.set_mid 1 (.int .i32 0) (by omega)
  go_wp2
  refine leaves_cons (f := 41) (args := #[.pointer (some ⟨g, 138, none⟩), .bool true]) (by simp) (by simp [go_sem]) ?_
  refine (store_deferred ⟨g, 138, none⟩ (.int .u32 0) .returning _ d0 e0).mono ?_
  rintro e u' w'' ⟨rfl, rfl, rfl⟩
  refine leaves_cons (f := 40) (args := #[.pointer (some ⟨g, 139, none⟩)]) (by simp [settle]) (by simp [go_sem]) ?_
  refine (unlock_deferred ⟨g, 139, none⟩ _ _ d1 e1).mono ?_
  rintro e u' w'' ⟨rfl, rfl, rfl⟩
  have hfin := And.intro hS3 (grown_set (i := 139) (v := .int .i32 0) (grown_set (i := 138) (v := .int .u32 1) (grown_drewN (n := 1) g2)))
  have HF := Lib.hid hfin
  clear hfin hS3 hS2 hS hL
  simp [Leaves, settle, results, Tryd.results35]
  exact HF.out

set_option maxRecDepth 100000 in
set_option maxHeartbeats 1600000 in
/-- '(*sync.Once).Do', not yet done. -/
theorem do_sha (g : Nat) (st : List UInt32) (blk : List UInt8) (used : Nat) (len : Int) (last : List UInt8) (sch : List UInt32) (w : World) (h : Sm w g st blk used len last (onceV false) sch) :
    Calls Tryd.prog 31 #[.pointer (some ⟨g, 138, none⟩), .func (.func 32) #[.pointer (some ⟨g, 74, none⟩)] #[]] w fun en w' => en = .returned (.tuple #[]) ∧
      Sm w' g st blk used len last (onceV true) (sched (words last 16) 48) ∧ w.grownBy w' (some g) := by
  have hnot : ∀ (x : Bool) (w : World), (Op.unary .not (.bool x)).run Tryd.prog w = .ok (.bool (!x)) w := fun _ _ => rfl
  have h1 : w.cell? ⟨g, 138, none⟩ = some (.int .u32 0) := h.mid_cell 0 _ rfl
  go_enter Tryd.func31, Tryd.ntmps31
  go_wp2_with (first | (go_at_call 35; refine (slow_sha g st blk used len last sch _ h).mono ?_; rintro e w2 ⟨rfl, hS, hg⟩) | (go_at_call 34; refine (load_any ⟨g, 138, none⟩ 0 false rfl _ h1).mono ?_; rintro e w' ⟨rfl, rfl⟩))
  go_end0
  exact ⟨rfl, hS, hg⟩

set_option maxRecDepth 100000 in
set_option maxHeartbeats 1600000 in
/-- '(*sync.Once).Do', done already. -/
theorem do_sha_done (g : Nat) (fv : Value) (st : List UInt32) (blk : List UInt8) (used : Nat) (len : Int) (last : List UInt8) (sch : List UInt32) (w : World) (h : Sm w g st blk used len last (onceV true) sch) :
    Calls Tryd.prog 31 #[.pointer (some ⟨g, 138, none⟩), fv] w fun en w' => en = .returned (.tuple #[]) ∧ w = w' := by
  have hnot : ∀ (x : Bool) (w : World), (Op.unary .not (.bool x)).run Tryd.prog w = .ok (.bool (!x)) w := fun _ _ => rfl
  have h1 : w.cell? ⟨g, 138, none⟩ = some (.int .u32 1) := h.mid_cell 0 _ rfl
  go_enter Tryd.func31, Tryd.ntmps31
  go_wp2_with (go_at_call 34; refine (load_any ⟨g, 138, none⟩ 1 true rfl _ h1).mono ?_; rintro e w' ⟨rfl, rfl⟩)
  go_end0
  exact ⟨rfl, rfl⟩
/-- Either way. -/
theorem do_any (g : Nat) (st : List UInt32) (blk : List UInt8) (used : Nat) (len : Int) (last : List UInt8) (d : Bool) (sch : List UInt32) (w : World) (h : Sm w g st blk used len last (onceV d) sch) (hd : Hid (d = true → sch = sched (words last 16) 48)) :
    Calls Tryd.prog 31 #[.pointer (some ⟨g, 138, none⟩), .func (.func 32) #[.pointer (some ⟨g, 74, none⟩)] #[]] w fun en w' => en = .returned (.tuple #[]) ∧
      Sm w' g st blk used len last (onceV true) (sched (words last 16) 48) ∧ w.grownBy w' (some g) := by
  cases d with
  | false => exact do_sha g st blk used len last sch w h
  | true =>
    rw [hd.out rfl] at h
    refine (do_sha_done g (.func (.func 32) #[.pointer (some ⟨g, 74, none⟩)] #[]) st blk used len last _ w h).mono ?_
    rintro e w' ⟨rfl, rfl⟩
    exact ⟨rfl, h, World.grownBy.refl _ _⟩
end Go.Proofs.YtpphlmbhonaglaaDoor
