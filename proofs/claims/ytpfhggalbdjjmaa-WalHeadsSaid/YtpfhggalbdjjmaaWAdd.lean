/-
  A record on its way to the disk: its end; the head is written.
-/
import Derived.Test.YtpfhggalbdjjmaaWOpen
import Derived.Deep.RegionHeld3
namespace Go.Proofs.Ytpfhggalbdjjmaa
open Go.RowKit

/-- A RECORD ON ITS WAY LIES IN BLOCK a: to the disk in block d, from byte z on, the bytes bo; the k-th. -/
def AddAt (w : World) (a d : Nat) (z : Int) (bo : Option Addr) (bn bc : Nat) (k : Int) : Prop := w.heap[a]? = some (.cells #[.pointer (some ⟨d, 0, none⟩), .int .i64 z, .slice bo bn bc, .int .i64 k] 103 (0, 0))
section
variable {w w' : World} {a d : Nat} {z k : Int} {bo : Option Addr} {bn bc : Nat}
theorem AddAt.lt (h : AddAt w a d z bo bn bc k) : a < w.heap.size := (Array.getElem?_eq_some_iff.1 h).1
theorem AddAt.past (h : AddAt w a d z bo bn bc k) (b : Below w.heap.size w w') : AddAt w' a d z bo bn bc k := (b.block a h.lt).trans h
theorem AddAt.kp {S : Nat → Prop} (h : AddAt w a d z bo bn bc k) (x : Kp w w' S) (ha : ¬ S a) : AddAt w' a d z bo bn bc k := (x.block a h.lt ha).trans h
theorem AddAt.c0 (h : AddAt w a d z bo bn bc k) : w.cell? ⟨a, 0, none⟩ = some (.pointer (some ⟨d, 0, none⟩)) := cell_blk h rfl
theorem AddAt.c1 (h : AddAt w a d z bo bn bc k) : w.cell? ⟨a, 1, none⟩ = some (.int .i64 z) := cell_blk h rfl
theorem AddAt.c2 (h : AddAt w a d z bo bn bc k) : w.cell? ⟨a, 2, none⟩ = some (.slice bo bn bc) := cell_blk h rfl
theorem AddAt.c3 (h : AddAt w a d z bo bn bc k) : w.cell? ⟨a, 3, none⟩ = some (.int .i64 k) := cell_blk h rfl
set_option maxRecDepth 100000 in
theorem end_any (h : AddAt w a d z bo bn bc k) (hz : 0 ≤ z ∧ z ≤ 1000000) (hb : bn ≤ 1000000) :
    Calls Try.prog 36 #[.pointer (some ⟨a, 0, none⟩)] w fun e w' => e = .returned (.int .i64 (z + bn)) ∧ Below w.heap.size w w' := by
  have c1 := h.c1
  have c2 := h.c2
  have hw : wrap64 (z + (bn : Int)) = z + bn := IntWalk.wrap64_in _ (by omega)
  go_enter Try.func36, Try.ntmps36
  go_wp2_with fail
  go_quiet (fail)
  go_wp2_with fail
  go_ret
  exact ⟨rfl, below_drewN (Below.refl _ _) nq⟩
/-- The head's bytes. -/
def headB (z k : Int) : List UInt8 := le 8 (XU z) ++ le 8 (XU k)
/-- The disk has gone on to s; no other block that was there has changed. -/
def WentD (w : World) (d n : Nat) (S : Nat → Prop) (x : Int) (s : Dk) (en : Ending) (w' : World) : Prop := ∃ S', en = .returned (.int .i64 x) ∧ IsD w' d n S' s ∧ Kp w w' S ∧ Ext w S S'
variable {n : Nat} {S : Nat → Prop} {s : Dk}
set_option maxRecDepth 100000 in
set_option maxHeartbeats 1000000 in
theorem writeHead_any (h : AddAt w a d z bo bn bc k) (hz : 0 ≤ z ∧ z ≤ 1000000) (hb : bn ≤ 1000000) (hD : IsD w d n S s) (hn2 : 2 ≤ n) (ha : ¬ S a) (hg : s.gone = false) (hr : Room s) (hm : s.pend.length ≤ 100000) :
    Calls Try.prog 35 #[.pointer (some ⟨a, 0, none⟩)] w (WentD w d n S s.code (s.put 0 (headB (z + bn) k)).spent) := by
  have A := h.past (Below.refl _ _).drew
  have D := hD.drew
  have c0 := A.c0
  have c3 := A.c3
  go_enter Try.func35, Try.ntmps35
  go_wp2_with fail
  go_region_held3 (fun w' => w'.cell? ⟨a, 0, none⟩ = some (.pointer (some ⟨d, 0, none⟩)) ∧ w'.cell? ⟨a, 3, none⟩ = some (.int .i64 k))
    (first | exact ⟨c0, c3⟩ | exact ⟨c01, c31⟩ | exact ⟨c02, c32⟩ | exact ⟨c04, c34⟩ | exact ⟨c05, c35⟩)
    (first
      | (go_at_call 36; (with_reducible refine (end_any A hz hb).mono ?_); rintro en w1 ⟨rfl, b0⟩; have b1 : Below w.heap.size w w1 := (Below.refl _ _).drew.trans b0; have c01 := (h.past b1).c0; have c31 := (h.past b1).c3)
      | (go_at_call 32; (with_reducible refine (int_nil (z + bn) _).mono ?_); rintro en w2 ⟨g2, cc2, rfl, o2, b2, q2⟩; have B2 := b1.trans (b2.mono b1.size); have c02 := (h.past B2).c0; have c32 := (h.past B2).c3)
      | (go_at_call 32; (with_reducible refine (int_any _ 8 _ _ k _ o2.isB (by omega)).mono ?_); rintro en w4 ⟨g4, cc4, rfl, o4, b4, q4⟩; have B4 := B2.trans (b4.mono B2.size); have c04 := (h.past B4).c0; have c34 := (h.past B4).c3; have D4 := hD.past B4)
      | (go_at_call 10; refine (write_is D4 hg hr hm 0 (by omega) _ _ _ _ o4.isB (by omega)).mono ?_; rintro en w5 ⟨S5, rfl, D5, k5, e5⟩; have K5 : Kp w w5 S := (Kp.ofBelow B4 S).trans k5 (fun _ _ q => q); have c05 := (h.kp K5 ha).c0; have c35 := (h.kp K5 ha).c3))
  all_goals
    go_wp2_with fail
    go_ret
    exact ⟨S5, rfl, D5, K5, fun q hq => (e5 q hq).imp id (fun r => Nat.le_trans B4.size r)⟩
end
end Go.Proofs.Ytpfhggalbdjjmaa
