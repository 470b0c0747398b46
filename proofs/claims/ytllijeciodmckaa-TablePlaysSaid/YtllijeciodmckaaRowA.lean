/-
  append to a row of the call's own or nil, of whatever, nothing too; of noughts to nil.
-/
import Derived.Test.YtllijeciodmckaaRowT
import Derived.Lib.AppendZerosOnto
namespace Go.Proofs.Ytllijeciodmckaa
open Go.RowKit
section
variable {α : Type} {E : Enc α} {w w' : World} {P : Program} {zero : α}
theorem run_append_none (t tx ty e : TypeId) (i : TypeInfo) (ht : P.underlying t = some (.slice e)) (hi : P.info? e = some i) (x : Value) (hs : Src P i.size tx x 0 [] w) :
    (Builtin.append_ #[t, tx] ty #[.slice none 0 0, x]).run P w = .ok (.slice none 0 0) w := by
  have h1 := hs.len
  have h2 := hs.cells
  rcases hs.kind with ⟨e', hk⟩ | hk <;> simp [Builtin.append_, run_underlying ht, run_underlying hk, sizeOf, typeInfo, hi, h1, h2]
theorem wpList_append_txtR {ops : Array Oper} {rest : List Oper} {o : Oper} {a : Act} {Q : Exit → Act → World → Prop} (hgd : o.guard = none) (s x : Operand) (t tx : TypeId)
    (ho : o.op = .call { callee := .builtin .append, args := #[s, x], argTypes := #[t, tx] }) (e : TypeId) (hB : RowTy E P t e zero) (B : Nat) (ao : Option Addr) (n c : Nat) (l : List α) (hsv : a.eval s = .slice ao n c) (h : TxtR E w e B ao n c l) (hBw : B ≤ w.heap.size)
    (X : Value) (hx : a.eval x = X) (m : Nat) (cs : List α) (hs : Src P E.sz tx X m (E.all cs) w) (hcl : cs.length = m) (hmax : n + m ≤ 1000000)
    (hK : ∀ ao' c' w', TxtR E w' e B ao' (n + m) c' (l ++ cs) → Below B w w' → wpList P ops Q rest (a.put o.dst (.slice ao' (n + m) c')) w') :
    wpList P ops Q (o :: rest) a w := by
  refine wpList_plain hgd fun K hK' => ?_
  rcases h.either with ⟨rfl, rfl, rfl, rfl⟩ | ⟨g, rfl, ow, hg⟩
  · by_cases hm : 0 < m
    · obtain ⟨cap', w', hr, h1, h2⟩ := run_append_nr (P := P) w t tx o.type e hB 0 rfl X m cs hs hcl hm (by omega)
      unfold Oper.wp execOp
      simp only [ho, resolve, invoke, builtin, Sem.run_bind, Sem.run_pure, Result.andThen_ok, List.map_toArray, List.map_cons, List.map_nil, hsv, hx, hr]
      have e0 : 0 + m = m := Nat.zero_add m
      have hh := hK (some ⟨w.heap.size, 0, none⟩) cap' w' ⟨.inr ⟨_, rfl, by rw [e0]; exact h1, hBw⟩⟩ (h2.mono hBw)
      rw [e0] at hh
      exact hK' _ _ hh
    · obtain rfl : m = 0 := by omega
      obtain rfl : cs = [] := List.eq_nil_of_length_eq_zero hcl
      obtain ⟨i, z, hi, hz, hsize, hzc, hby⟩ := hB.info
      have hr := run_append_none (P := P) t tx o.type e i hB.ht hi X (by rw [hsize]; exact hs)
      unfold Oper.wp execOp
      simp only [ho, resolve, invoke, builtin, Sem.run_bind, Sem.run_pure, Result.andThen_ok, List.map_toArray, List.map_cons, List.map_nil, hsv, hx, hr]
      exact hK' _ _ (hK none 0 w (TxtR.nil _ _ _) (Below.refl _ _))
  · obtain ⟨g', cap', w', hr, h1, h2, h3⟩ := run_append_or (P := P) w t tx o.type e hB g n c l ow X m cs hs hcl hmax
    unfold Oper.wp execOp
    simp only [ho, resolve, invoke, builtin, Sem.run_bind, Sem.run_pure, Result.andThen_ok, List.map_toArray, List.map_cons, List.map_nil, hsv, hx, hr]
    exact hK' _ _ (hK (some ⟨g', 0, none⟩) cap' w' ⟨.inr ⟨_, rfl, h1, by rcases h3 with rfl | h3; exact hg; exact Nat.le_trans hBw h3⟩⟩ (h2.below hg hBw))
/-- append of some noughts to nil: a new row with room. -/
theorem wpList_append_nil_zr {ops : Array Oper} {rest : List Oper} {o : Oper} {a : Act} {Q : Exit → Act → World → Prop} (hgd : o.guard = none) (s x : Operand) (t tn : TypeId)
    (ho : o.op = .call { callee := .builtin .append, args := #[s, x], argTypes := #[t, tn] }) (e : TypeId) (hB : RowTy E P t e zero) (kn kq : IntKind) (htn : P.underlying tn = some (.int kn)) (k : Nat) (hsv : a.eval s = .slice none 0 0) (hx : a.eval x = .int kq k) (h0 : 0 < k) (hk1 : k ≤ 1000000) (hz0 : 0 < E.sz)
    (hK : ∀ c w', k ≤ c → OwnR E w' e w.heap.size 0 c [] → Below w.heap.size w w' → wpList P ops Q rest (a.put o.dst (.slice (some ⟨w.heap.size, 0, none⟩) k c)) w') :
    wpList P ops Q (o :: rest) a w := by
  obtain ⟨i, z, hi, hz, hsize, hzc, hby⟩ := hB.info
  have hfit : Builtin.nextslicecap (0 + k) 0 * i.bytes ≤ 281474976710656 := growslice_fits (by omega) (Nat.le_trans (Nat.mul_le_mul (show 0 + k ≤ 1000000 by omega) hby) (by omega))
  have hr := Lib.run_append_grow_zeros (P := P) w t tn o.type e i z kq kn hB.ht htn hi hz none 0 0 [] (run_firstCells_none w.drew i.size 0 0 0) k h0 (by rw [hsize]; exact hz0) (by omega) (by omega) (Nat.le_trans (Nat.mul_le_mul hk1 hby) (by omega)) hfit
  simp only [Nat.zero_add] at hr
  have hge := grownCap_ge w k 0 e
  have hcm : grownCap w k 0 e ≤ maxLen := grownCap_le_maxLen w k 0 e (by simp only [maxLen]; omega)
  have hzl : z.cells.size = E.sz := by rw [← Array.length_toList, hzc, E.len]
  refine wpList_plain hgd fun K hK' => ?_
  unfold Oper.wp execOp
  simp only [ho, resolve, invoke, builtin, Sem.run_bind, Sem.run_pure, Result.andThen_ok, List.map_toArray, List.map_cons, List.map_nil, hsv, hx, hr]
  refine hK' _ _ (hK _ _ hge ⟨rfl, Nat.zero_le _, hcm, _, heap_alloc_new w.drew _, ?_, by simp [Enc.all]⟩ ((Below.refl _ _).drew.alloc (Nat.le_refl _) _))
  simp only [Array.size_append, List.size_toArray, size_zeroCells, List.length_nil, hzl]
  rw [Nat.zero_add, ← Nat.add_mul]
  congr 1
  omega
end
end Go.Proofs.Ytllijeciodmckaa
