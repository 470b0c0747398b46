/-
  (*wal.Log).Append: what it makes of a disk that is not dead; what it refuses.
-/
import Derived.Test.YtpfhggalbdjjmaaWApp
import Derived.Test.YtpfhggalbdjjmaaWRec
namespace Go.Proofs.Ytpfhggalbdjjmaa
open Go.RowKit

/-- The page in which a log ends; the bytes that are written from it on. -/
def apP (z : Nat) : Nat := z / 64 + 1
def apX (s : Dk) (z : Nat) (lb : List UInt8) : List UInt8 := (s.pg (apP z)).take (z % 64) ++ (le 8 (XU (lb.length : Int)) ++ lb)
def apHd (z k : Nat) (lb : List UInt8) : List UInt8 := headB ((z : Int) + (8 + lb.length : Nat)) ((k : Int) + 1)
section
variable {w : World} {g d n m c : Nat} {rm z k : Int} {ao : Option Addr} {lb : List UInt8} {S : Nat → Prop} {s : Dk}
theorem append_any (zz kk : Nat) (L : LogAt w g d (roomN n) zz kk) (hk : kk ≤ 1000000) (hb : IsB w ao m c lb) (hm : m ≤ 65536) (hz : 64 + zz + (8 + m) ≤ 64 * n)
    (hD : IsD w d n S s) (hn2 : 2 ≤ n) (hgS : ¬ S g) (hg : s.gone = false) (hlf : -400000 ≤ s.left ∧ s.left ≤ 400000) (hpd : s.pend.length ≤ 40000) :
    Calls Try.prog 14 #[.pointer (some ⟨g, 0, none⟩), .slice ao m c] w (AppIs w g d n S (roomN n) zz kk m (apRun s (apP zz) (apX s zz lb) (apHd zz kk lb))) := by
  have hn4 := hD.small
  have hl := hb.len
  have e : chN (apX s zz lb).length ≤ 2000 := by
    unfold apX chN
    rw [List.length_append, List.length_take, pg_length, List.length_append, le_length, hl]
    omega
  have hR : ∀ (w : World) (S : Nat → Prop) (a : Nat) (bo : Option Addr) (bc : Nat) (k : Int), AddAt w a d zz bo (8 + m) bc k → IsB w bo (8 + m) bc (le 8 (XU (m : Int)) ++ lb) → IsD w d n S s → ¬ S a →
      Calls Try.prog 33 #[.pointer (some ⟨a, 0, none⟩)] w (RecIs w d n S s (apP zz) (apX s zz lb)) := fun w S a bo bc k A B D ha => by
    have h1 := writeRecord_any zz (le 8 (XU (m : Int)) ++ lb) A B (by omega) (by omega) D hn2 (by omega) ha hg (by omega) (by omega)
    have h2 : apX s zz lb = (s.pg (zz / 64 + 1)).take (zz % 64) ++ (le 8 (XU (m : Int)) ++ lb) := by unfold apX apP; rw [hl]
    rw [h2]
    exact h1
  have h := append_gen zz (apX s zz lb) (apP zz) L (by omega) (by omega) hb hm (by unfold roomN; omega) (by unfold roomN; omega) hD hn2 hgS hg hlf hpd e hR
  have h2 : apHd zz kk lb = headB ((zz : Int) + (8 + m : Nat)) ((kk : Int) + 1) := by unfold apHd; rw [hl]
  rw [h2]
  exact h
set_option maxRecDepth 100000 in
/-- Too long. -/
theorem append_long (hm : 65536 < m) (hm2 : m ≤ 1000000) :
    Calls Try.prog 14 #[.pointer (some ⟨g, 0, none⟩), .slice ao m c] w fun e w' => e = .returned (.int .i64 5) ∧ Below w.heap.size w w' := by
  have hm1 : (65536 : Int) < (m : Int) := by omega
  go_enter Try.func14, Try.ntmps14
  go_wp2_with fail
  go_ret
  exact ⟨rfl, Below.refl _ _⟩
set_option maxRecDepth 100000 in
/-- No room. -/
theorem append_full (L : LogAt w g d rm z k) (hm : m ≤ 65536) (hz : 0 ≤ z ∧ z ≤ 300000) (hrm2 : 0 ≤ rm ∧ rm ≤ 300000) (hrm : rm - z < 8 + (m : Int)) :
    Calls Try.prog 14 #[.pointer (some ⟨g, 0, none⟩), .slice ao m c] w fun e w' => e = .returned (.int .i64 14) ∧ Below w.heap.size w w' := by
  have c1 := L.c1
  have c2 := L.c2
  have hm1 : ¬ (65536 < (m : Int)) := by omega
  have hw1 : wrap64 (8 + (m : Int)) = 8 + m := IntWalk.wrap64_in _ (by omega)
  have hw2 : wrap64 (rm - z) = rm - z := IntWalk.wrap64_in _ (by omega)
  go_enter Try.func14, Try.ntmps14
  go_wp2_with fail
  go_quiet (fail)
  go_wp2_with fail
  go_ret
  exact ⟨rfl, below_drewN (Below.refl _ _) nq⟩
end
end Go.Proofs.Ytpfhggalbdjjmaa
