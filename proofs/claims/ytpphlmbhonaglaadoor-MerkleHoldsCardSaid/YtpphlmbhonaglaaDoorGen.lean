/-
  Of no statement: a row of noughts, sums held against each other, numbers below another one.
-/
import Derived.Test.YtpphlmbhonaglaaDoorSum
import Derived.Test.YtpphlmbhonaglaaDoorRSum
import Derived.Lib.SmallJoins
import Derived.Test.YtpphlmbhonaglaaDoorWth
namespace Go.Proofs.YtpphlmbhonaglaaDoor
open Go.RowKit
set_option linter.unusedSimpArgs false

theorem wpList_make_ab {P : Program} {w : World} {ops : Array Oper} {rest : List Oper} {o : Oper} {a : Act} {Q : Exit → Act → World → Prop} (hgd : o.guard = none) (l c : Operand) (t : TypeId)
    (ho : o.op = Op.makeSlice t l c) (e : TypeId) (hB : ByteTy P t e) (kl kc : IntKind) (L C : Int) (N : Nat) (hl : a.eval l = .int kl L) (hc : a.eval c = .int kc C) (hL : L = (N : Int)) (hC : C = (N : Int)) (hN : N ≤ 1000000)
    (hK : ∀ w' g, Ab w' e g (List.replicate N 0) → Below w.heap.size w w' → w.heap.size ≤ g → wpList P ops Q rest (a.put o.dst (.slice (some ⟨g, 0, none⟩) N N)) w') :
    wpList P ops Q (o :: rest) a w := by
  obtain ⟨i, hi, hz, hsize, hby⟩ := hB.info
  refine wpList_make_full w hgd l c t ho w.heap.size e i (.int .u8 0) 1 hB.ht hi hz hsize kl kc L C N hl hc hL hC (by rw [hby]; omega) (by unfold maxLen; omega) (Nat.le_refl _) fun w' hown hgr => ?_
  refine hK w' _ ?_ ((Below.refl _ w).grown hgr (Nat.le_refl _) (fun k h => by cases h)) (Nat.le_refl _)
  rcases hown.2 with ⟨h, _⟩ | ⟨g, cap, cur, hv, _, hg, hnc, hcm, hcs, htake⟩
  · cases h
  · simp only [Value.slice.injEq, Option.some.injEq, Addr.mk.injEq, and_true] at hv
    obtain ⟨rfl, _, rfl⟩ := hv
    rw [Nat.mul_one] at htake hcs
    have e1 : cur.toList = (List.replicate N (0 : UInt8)).map fun x => Value.int .u8 (ub x) := by
      rw [← List.take_of_length_le (l := cur.toList) (i := N) (by simp; omega), htake]
      show (madeCells #[Value.int .u8 0] N).toList = _
      rw [toList_madeCells_one]
      simp [ub]
    have e2 : cur = ((List.replicate N (0 : UInt8)).map fun x => Value.int .u8 (ub x)).toArray := by
      apply Array.toList_inj.1
      rw [e1]
    unfold Ab
    rw [← e2]
    exact hg
theorem is_ub (z : Int) (h0 : 0 ≤ z) (h1 : z < 256) : ∃ y : UInt8, z = ub y := ⟨UInt8.ofNat z.toNat, by unfold ub; rw [UInt8.toNat_ofNat']; omega⟩
theorem equal_hash (a b : List UInt8) (ha : a.length = 32) (hb : b.length = 32) (w : World) : (Op.equalIn 10000 27 (.agg (bcs a).toArray) (.agg (bcs b).toArray)).run Tryd.prog w = .ok (a == b) w :=
  run_equalIn_bytes w 9998 27 5 32 Tryd.underlying27 Tryd.underlying5 (fun w' => by kernel_rfl) a b ha hb
theorem equal_sha (m : List UInt8) (w : World) : (Op.equalIn 10000 27 (.agg (bcs (sha m)).toArray) (.agg (bcs (sha m)).toArray)).run Tryd.prog w = .ok true w := by
  rw [equal_hash _ _ (sha_length m) (sha_length m)]
  simp
theorem wth_nat (a : Int) (n : Nat) (h : 0 < n) : ∃ k : Nat, wth a n = k ∧ k < n := by
  have h1 := wth_lo a n (by omega)
  have h2 := wth_hi a n (by omega)
  exact ⟨(wth a n).toNat, by omega, by omega⟩
theorem Ab.set_any {w : World} {t : TypeId} {g : Nat} {l : List UInt8} (h : Ab w t g l) (j : Nat) (z : Int) (h0 : 0 ≤ z) (h1 : z < 256) : ∃ l' : List UInt8, l'.length = l.length ∧ Ab (w.setCell ⟨g, j, none⟩ (.int .u8 z)) t g l' := by
  obtain ⟨y, rfl⟩ := is_ub z h0 h1
  exact ⟨l.set j y, by simp, h.set j y⟩
theorem one_flat (l : List UInt8) : [l].flatten = l := by simp
end Go.Proofs.YtpphlmbhonaglaaDoor
