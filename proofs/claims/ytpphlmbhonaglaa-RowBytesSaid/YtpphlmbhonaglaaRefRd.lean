/-
  The reference's reader.
-/
import Derived.Test.YtpphlmbhonaglaaRead
import Derived.Deep.QuietTactic
import Derived.BigQuiet
namespace Go.Proofs.Ytpphlmbhonaglaa
open Go.RowKit

/-- A READER OF THE REFERENCE LIES IN BLOCK g: the bytes l are left to read (they lie in block D), its error is e. -/
def Rx (w : World) (g : Nat) (D : Option Nat) (l : List UInt8) (e : Int) : Prop :=
  ∃ ao n cap B p, w.heap[g]? = some (.cells #[.slice ao n cap, .int .i64 ((p : Nat) : Int), .int .i64 e] 68 (0, 0)) ∧
    IsB w ao n cap B ∧ p ≤ n ∧ n ≤ 1000000 ∧ l = B.drop p ∧ (B ≠ [] → ∀ a, ao = some a → D = some a.block) ∧ D ≠ some g

/-- Where there are no bytes nothing must stay. -/
theorem isB_grown {w w' : World} {row : Option Nat} {ao : Option Addr} {n cap : Nat} {l : List UInt8} (h : IsB w ao n cap l) (hg : w.grownBy w' row) (hne : l ≠ [] → ∀ a, ao = some a → some a.block ≠ row) : IsB w' ao n cap l := by
  by_cases hl : l = []
  · subst hl
    exact ⟨h.len, h.le, h.max, h.nil, fun a ha j u hu => by cases hu⟩
  · exact h.grown hg (hne hl)
theorem take_ne {l B : List UInt8} {p m : Nat} (hd : l = B.drop p) (h : l.take m ≠ []) : B ≠ [] := by
  rintro rfl
  rw [hd] at h
  simp at h

theorem Rx.lt {w : World} {g : Nat} {D : Option Nat} {l : List UInt8} {e : Int} (h : Rx w g D l e) : g < w.heap.size := by
  obtain ⟨_, _, _, _, _, h, _⟩ := h
  exact (Array.getElem?_eq_some_iff.1 h).1
theorem Rx.kept {w w' : World} {g : Nat} {D row : Option Nat} {l : List UInt8} {e : Int} (h : Rx w g D l e) (k : w.grownBy w' row) (h1 : some g ≠ row) (h2 : ∀ b, D = some b → some b ≠ row) : Rx w' g D l e := by
  have hl := h.lt
  obtain ⟨ao, n, cap, B, p, hb, hi, hp, hn, hd, hD, hne⟩ := h
  exact ⟨ao, n, cap, B, p, by rw [k.block g hl h1]; exact hb, isB_grown hi k (fun hB a ha => h2 _ (hD hB a ha)), hp, hn, hd, hD, hne⟩
theorem Rx.below {w w' : World} {g : Nat} {D : Option Nat} {l : List UInt8} {e : Int} (h : Rx w g D l e) (k : Below w.heap.size w w') : Rx w' g D l e :=
  h.kept (below_grown none k) (by simp) (by simp)

/-- What take answers, leaves, and the error behind it, whatever error there was. -/
def xk (m : Nat) (l : List UInt8) (e : Int) : List UInt8 := if e = 0 then tk m l else []
/-- The slice of the bytes t is answered; the reference's reader g holds the bytes l and the error e. -/
def TookX (w : World) (g : Nat) (D : Option Nat) (m : Nat) (t l : List UInt8) (e : Int) (en : Ending) (w' : World) : Prop :=
  ∃ ao' cap', en = .returned (.slice ao' m cap') ∧ IsB w' ao' m cap' t ∧ Rx w' g D l e ∧ w.grownBy w' (some g)

set_option maxHeartbeats 400000 in
theorem xtake_err (g : Nat) (D : Option Nat) (l : List UInt8) (e : Int) (he : e ≠ 0) (m : Nat) (w : World) (h : Rx w g D l e) :
    Calls Try.prog 61 #[.pointer (some ⟨g, 0, none⟩), .int .i64 m] w (TookX w g D 0 [] l e) := by
  have H := Lib.hid h
  obtain ⟨ao, n, cap, B, p, hb, _⟩ := h
  have c2 : w.cell? ⟨g, 2, none⟩ = some (.int .i64 e) := cell_blk hb rfl
  have b1 : (e == 0) = false := by simp [he]
  have b2 : (e != 0) = true := by simp [he]
  clear hb
  go_enter Try.func61, Try.ntmps61
  go_wp2_with fail
  go_quiet (fail)
  go_wp2_with fail
  go_ret
  exact ⟨none, 0, rfl, IsB.nilB _, H.out.below (below_drewN (Below.refl _ _) _), below_grown _ (below_drewN (Below.refl _ _) _)⟩

theorem grown_drewN {w a : World} {r : Option Nat} (h : w.grownBy a r) (q : Nat) : w.grownBy (a.drewN q) r := ⟨h.os, h.tape, h.output, h.size, h.block⟩
theorem heap_drewN_set {w : World} {g i q : Nat} {cur : Array Value} {t : TypeId} {v : Value} (h : w.heap[g]? = some (.cells cur t (0, 0))) : ((w.drewN q).setCell ⟨g, i, none⟩ v).heap[g]? = some (.cells (cur.setIfInBounds i v) t (0, 0)) :=
  heap_setCell_same (w := w.drewN q) h
theorem grown_set0 {w : World} {g i q : Nat} {v : Value} : w.grownBy ((w.drewN q).setCell ⟨g, i, none⟩ v) (some g) := grown_setCell (grown_drewN (World.grownBy.refl _ _) q)

set_option maxHeartbeats 400000 in
theorem xtake_no (g : Nat) (D : Option Nat) (l : List UInt8) (m : Nat) (hm : l.length < m) (w : World) (h : Rx w g D l 0) :
    Calls Try.prog 61 #[.pointer (some ⟨g, 0, none⟩), .int .i64 m] w (TookX w g D 0 [] l 8) := by
  obtain ⟨ao, n, cap, B, p, hb, hi, hp, hn, hd, hD, hne⟩ := h
  have c0 : w.cell? ⟨g, 0, none⟩ = some (.slice ao n cap) := cell_blk hb rfl
  have c1 : w.cell? ⟨g, 1, none⟩ = some (.int .i64 p) := cell_blk hb rfl
  have c2 : w.cell? ⟨g, 2, none⟩ = some (.int .i64 0) := cell_blk hb rfl
  have z2 : w.frozen? ⟨g, 2, none⟩ = false := free_blk hb
  have hlt : (n : Int) - p < m := by
    have := hi.len
    rw [hd, List.length_drop] at hm
    omega
  have HR : Hid (∀ q, TookX w g D 0 [] l 8 (.returned (.slice none 0 0)) ((w.drewN q).setCell ⟨g, 2, none⟩ (.int .i64 8))) := fun q =>
    ⟨none, 0, rfl, IsB.nilB _, ⟨ao, n, cap, B, p, (heap_drewN_set (i := 2) (v := .int .i64 8) hb).trans rfl, isB_grown hi grown_set0 (fun hB a ha e => hne (by rw [hD hB a ha, e])), hp, hn, hd, hD, hne⟩, grown_set0⟩
  clear hb hi hd hm hD hne
  go_enter Try.func61, Try.ntmps61
  go_wp2_with fail
  go_quiet (fail)
  go_wp2_with fail
  go_ret
  exact HR.out _

set_option maxHeartbeats 800000 in
theorem xtake_yes (g : Nat) (D : Option Nat) (l : List UInt8) (m : Nat) (hm : m ≤ l.length) (w : World) (h : Rx w g D l 0) :
    Calls Try.prog 61 #[.pointer (some ⟨g, 0, none⟩), .int .i64 m] w (TookX w g D m (l.take m) (l.drop m) 0) := by
  obtain ⟨ao, n, cap, B, p, hb, hi, hp, hn, hd, hD, hne⟩ := h
  have c0 : w.cell? ⟨g, 0, none⟩ = some (.slice ao n cap) := cell_blk hb rfl
  have c1 : w.cell? ⟨g, 1, none⟩ = some (.int .i64 p) := cell_blk hb rfl
  have c2 : w.cell? ⟨g, 2, none⟩ = some (.int .i64 0) := cell_blk hb rfl
  have z1 : w.frozen? ⟨g, 1, none⟩ = false := free_blk hb
  have hpm : p + m ≤ n := by
    have := hi.len
    rw [hd, List.length_drop] at hm
    omega
  have hnc : n ≤ cap := hi.le
  have hcm : cap ≤ 9223372036854775807 := hi.max
  have hlt : ¬ ((n : Int) - p < m) := by omega
  clear hm
  have s1 : IntKind.i64.wrap ((p : Int) + m) = (p : Int) + m := IntWalk.i64_in _ (by omega)
  have s2 : IntKind.i64.wrap ((p : Int) + m - m) = (p : Int) := by rw [show (p : Int) + m - m = p by omega]; exact IntWalk.i64_in _ (by omega)
  have HR : Hid (∀ q1 q2 ao2 N2 cap2, N2 = m → IsB w ao2 m cap2 (l.take m) → (B ≠ [] → ∀ a, ao2 = some a → D = some a.block) → TookX w g D m (l.take m) (l.drop m) 0 (.returned (.slice ao2 N2 cap2)) (((w.drewN q1).setCell ⟨g, 1, none⟩ (.int .i64 ((p : Int) + m))).drewN q2)) := by
    intro q1 q2 ao2 N2 cap2 hN hi2 hD2
    subst hN
    have G : w.grownBy (((w.drewN q1).setCell ⟨g, 1, none⟩ (.int .i64 ((p : Int) + N2))).drewN q2) (some g) := grown_drewN grown_set0 q2
    refine ⟨ao2, cap2, rfl, isB_grown hi2 G (fun hB a ha e => hne (by rw [hD2 (take_ne hd hB) a ha, e])), ⟨ao, n, cap, B, p + N2, ?_, isB_grown hi G (fun hB a ha e => hne (by rw [hD hB a ha, e])), hpm, hn, by rw [hd, List.drop_drop], hD, hne⟩, G⟩
    have e := heap_drewN_set (i := 1) (q := q1) (v := .int .i64 ((p : Int) + N2)) hb
    rw [show (((p + N2 : Nat)) : Int) = (p : Int) + N2 by omega]
    exact e.trans rfl
  by_cases hcp : cap = p
  · obtain rfl : m = 0 := by omega
    obtain rfl : n = p := by omega
    subst hcp
    have HI : Hid (IsB w ao 0 0 (l.take 0)) := by
      unfold Hid
      rw [List.take_zero]
      exact ⟨rfl, Nat.le_refl _, Nat.zero_le _, fun _ => rfl, fun a ha j u hu => by cases hu⟩
    have HD := Lib.hid hD
    clear hb hi hd hD hne hp hpm hnc
    go_enter Try.func61, Try.ntmps61
    go_wp2_with fail
    go_quiet (fail)
    go_wp2_with fail
    go_quiet (fail)
    go_wp2_with fail
    go_ret
    exact HR.out _ _ _ _ _ (by simp) HI.out HD.out
  · have HI : Hid (IsB w (Option.map (fun x => x.add p) ao) m (cap - p) (l.take m)) := by
      have := IsB_take (IsB_drop hi hp) (show m ≤ n - p by omega)
      rwa [← hd] at this
    have HD : Hid (B ≠ [] → ∀ a, Option.map (fun x => x.add p) ao = some a → D = some a.block) := fun hB a ha => by
      obtain ⟨b, rfl, rfl⟩ := Option.map_eq_some_iff.1 ha
      rw [block_add]
      exact hD hB b rfl
    clear hb hi hd hD hne
    go_enter Try.func61, Try.ntmps61
    go_wp2_with fail
    go_quiet (fail)
    go_wp2_with fail
    go_quiet (fail)
    go_wp2_with fail
    go_ret
    exact HR.out _ _ _ _ _ (by omega) HI.out HD.out
end Go.Proofs.Ytpphlmbhonaglaa
