/-
  Plain lemmas on schedules; what a store into one row leaves.
-/
import Derived.Test.YtpphlmbhonaglaaDoorU32
import Derived.Test.YtpphlmbhonaglaaDoorBytes
import Derived.Deep.Draws
namespace Go.Proofs.YtpphlmbhonaglaaDoor
open Go.RowKit

theorem take_set_snoc (L : List UInt32) (k : Nat) (x : UInt32) (h : k < L.length) : (L.set k x).take (k + 1) = L.take k ++ [x] := by
  rw [List.take_add_one, List.getElem?_set_self h, List.take_set_of_le (Nat.le_refl _)]
  rfl
theorem ext_take (L : List UInt32) (i : Nat) (h1 : 16 ≤ i) : ext (L.take i) i = ext L i := by
  have e : ∀ d, 1 ≤ d → d ≤ 16 → (L.take i).getD (i - d) 0 = L.getD (i - d) 0 := fun d a b => by
    simp only [List.getD]
    rw [List.getElem?_take_of_lt (by omega)]
  unfold ext
  rw [e 2 (by omega) (by omega), e 7 (by omega) (by omega), e 15 (by omega) (by omega), e 16 (by omega) (by omega)]
theorem sched_step (L W : List UInt32) (i : Nat) (h1 : 16 ≤ i) (h2 : i < L.length) (h : L.take i = sched W (i - 16)) : (L.set i (ext L i)).take (i + 1) = sched W (i + 1 - 16) := by
  rw [take_set_snoc L i _ h2, show i + 1 - 16 = (i - 16) + 1 by omega, sched, ← h, show 16 + (i - 16) = i by omega, ext_take L i h1]
theorem grown_set {w a : World} {g i : Nat} {v : Value} (h : w.grownBy a (some g)) : w.grownBy (a.setCell ⟨g, i, none⟩ v) (some g) :=
  ⟨h.os, h.tape, h.output, by have := h.size; simpa [World.setCell] using this, fun k hk hne => by
    rw [Below.heap_setCell _ _ _ _ (fun e => hne (by rw [e])), h.block k hk hne]⟩
theorem grown_row {w a b : World} {r : Option Nat} (h : w.grownBy a r) (k : Below a.heap.size a b) : w.grownBy b r :=
  ⟨k.os.trans h.os, k.tape.trans h.tape, k.output.trans h.output, Nat.le_trans h.size k.size, fun i hi hne => by
    have := h.size
    rw [k.block i (by omega), h.block i hi hne]⟩
theorem bcs_all (l : List UInt8) : (bcs l).toArray.all (·.oneCell') = true := by
  simp only [Array.all_eq_true_iff_forall_mem, List.mem_toArray]
  exact bcs_one l
theorem grown_both {a b c : World} {g : Nat} (h : a.grownBy b (some g)) (k : b.drew.grownBy c (some g)) : a.grownBy c (some g) :=
  ⟨k.os.trans h.os, k.tape.trans h.tape, k.output.trans h.output, Nat.le_trans h.size k.size, fun i hi hne => (k.block i (Nat.lt_of_lt_of_le hi h.size) hne).trans (h.block i hi hne)⟩
theorem grown_then {a b c : World} {g : Nat} (h : a.grownBy b (some g)) (k : b.grownBy c (some g)) : a.grownBy c (some g) :=
  ⟨k.os.trans h.os, k.tape.trans h.tape, k.output.trans h.output, Nat.le_trans h.size k.size, fun i hi hne => (k.block i (Nat.lt_of_lt_of_le hi h.size) hne).trans (h.block i hi hne)⟩
theorem gbelow {a b : World} {g : Nat} (h : a.grownBy b (some g)) (hg : g ≤ a.heap.size) : Below g a b :=
  ⟨h.os, h.tape, h.output, h.size, fun k hk => h.block k (by omega) (fun e => by have := Option.some.inj e; omega)⟩
theorem word_at {P : List UInt8} {a k : Nat} {b0 b1 b2 b3 : UInt8} (h0 : P[64 * a + 4 * k]? = some b0) (h1 : P[64 * a + 4 * k + 1]? = some b1) (h2 : P[64 * a + 4 * k + 2]? = some b2) (h3 : P[64 * a + 4 * k + 3]? = some b3) :
    word (P.drop (64 * a)) k = be4 b0 b1 b2 b3 := by
  unfold word
  simp only [List.getD, List.getElem?_drop, ← Nat.add_assoc, h0, h1, h2, h3, Option.getD_some]
theorem sched_turn (a b c d : UInt32) : a + b + c + d = d + b + c + a := by
  rw [UInt32.add_comm (a + b + c) d, UInt32.add_comm a b, UInt32.add_assoc b a c, UInt32.add_comm a c, ← UInt32.add_assoc, ← UInt32.add_assoc]
theorem grown_drewN {w a : World} {r : Option Nat} {n : Nat} (h : w.grownBy a r) : w.grownBy (a.drewN n) r := ⟨h.os, h.tape, h.output, h.size, h.block⟩
end Go.Proofs.YtpphlmbhonaglaaDoor
