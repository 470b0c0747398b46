/-
  Rows of the call's own from any place of their block on, or with no room at all: append to them, parts of them.
-/
import Derived.Test.YtllijeciodmckaaRowT
import Derived.Test.YtllijeciodmckaaSlc
namespace Go.Proofs.Ytllijeciodmckaa
open Go.RowKit
/-- A ROW THAT ONE MAY APPEND TO: of the call's own, from some place of its block on; or one without room. -/
structure RowO {α : Type} (E : Enc α) (w : World) (e : TypeId) (B : Nat) (ao : Option Addr) (n c : Nat) (l : List α) : Prop where
  either : (n = 0 ∧ c = 0 ∧ l = []) ∨ ∃ g off pre, ao = some ⟨g, off * E.sz, none⟩ ∧ pre.length = off ∧ OwnR E w e g (off + n) (off + c) (pre ++ l) ∧ B ≤ g
section
variable {α : Type} {E : Enc α} {w w' : World} {e : TypeId} {B : Nat} {ao : Option Addr} {n c : Nat} {l : List α}
theorem TxtR.rowO (h : TxtR E w e B ao n c l) : RowO E w e B ao n c l := by
  rcases h.either with ⟨rfl, rfl, rfl, rfl⟩ | ⟨g, rfl, o, hg⟩
  · exact ⟨.inl ⟨rfl, rfl, rfl⟩⟩
  · exact ⟨.inr ⟨g, 0, [], by rw [Nat.zero_mul], rfl, by rw [Nat.zero_add, Nat.zero_add]; exact o, hg⟩⟩
theorem OwnR.rowO {g : Nat} (h : OwnR E w e g n c l) (hg : B ≤ g) : RowO E w e B (some ⟨g, 0, none⟩) n c l := TxtR.rowO ⟨.inr ⟨g, rfl, h, hg⟩⟩
theorem RowO.none (w : World) (e : TypeId) (B : Nat) (ao : Option Addr) : RowO E w e B ao 0 0 [] := ⟨.inl ⟨rfl, rfl, rfl⟩⟩
theorem RowO.isR (h : RowO E w e B ao n c l) : IsR E w ao n c l := by
  rcases h.either with ⟨rfl, rfl, rfl⟩ | ⟨g, off, pre, rfl, hp, o, _⟩
  · exact ⟨rfl, Nat.le_refl _, by unfold maxLen; omega, fun _ => rfl, fun a _ j u hu => by simp [Enc.all] at hu⟩
  · have hl := o.len
    rw [List.length_append, hp] at hl
    have h2 := o.le
    have h3 := o.max
    refine ⟨by omega, by omega, by omega, (fun h => by cases h), fun a ha j u hu => ?_⟩
    obtain rfl := Option.some.inj ha
    rw [Addr.add_lit]
    refine o.cell _ u ?_
    rw [E.all_append, List.getElem?_append_right (by rw [E.all_length, hp]; omega), E.all_length, hp, Nat.add_sub_cancel_left]
    exact hu
theorem RowO.past (h : RowO E w e B ao n c l) (b : Below w.heap.size w w') : RowO E w' e B ao n c l := by
  rcases h.either with h | ⟨g, off, pre, h1, hp, o, hg⟩
  · exact ⟨.inl h⟩
  · exact ⟨.inr ⟨g, off, pre, h1, hp, o.past b, hg⟩⟩
theorem RowO.kept (h : RowO E w e B ao n c l) (hb : ∀ z, Go.Proofs.Ytllijeciodmckaa.blk ao = some z → z < w.heap.size → w'.heap[z]? = w.heap[z]?) : RowO E w' e B ao n c l := by
  rcases h.either with h | ⟨g, off, pre, rfl, hp, o, hg⟩
  · exact ⟨.inl h⟩
  · exact ⟨.inr ⟨g, off, pre, rfl, hp, o.kept (hb g rfl o.lt), hg⟩⟩
theorem RowO.drew (h : RowO E w e B ao n c l) : RowO E w.drew e B ao n c l := h.kept fun _ _ _ => rfl
/-- s[k:]. -/
theorem RowO.tail (h : RowO E w e B ao n c l) (k : Nat) (hk : k ≤ n) : RowO E w e B (if c = k then ao else ao.map fun a => a.add (k * E.sz)) (n - k) (c - k) (l.drop k) := by
  rcases h.either with ⟨rfl, rfl, rfl⟩ | ⟨g, off, pre, rfl, hp, o, hg⟩
  · obtain rfl : k = 0 := by omega
    exact ⟨.inl ⟨rfl, rfl, rfl⟩⟩
  · have hl := o.len
    rw [List.length_append, hp] at hl
    have hle := o.le
    split
    · exact ⟨.inl ⟨by omega, by omega, List.eq_nil_of_length_eq_zero (by rw [List.length_drop]; omega)⟩⟩
    · refine ⟨.inr ⟨g, off + k, pre ++ l.take k, ?_, by rw [List.length_append, List.length_take, hp]; omega, ?_, hg⟩⟩
      · simp only [Option.map_some, Addr.add_lit, Nat.add_mul]
      · rw [List.append_assoc, List.take_append_drop, show off + k + (n - k) = off + n by omega, show off + k + (c - k) = off + c by omega]
        exact o
/-- append, OF SOMETHING. -/
theorem run_append_o {P : Program} {zero : α} (w : World) (t tx ty e : TypeId) (hB : RowTy E P t e zero) (B : Nat) (hBw : B ≤ w.heap.size) (ao : Option Addr) (n c : Nat) (l : List α) (h : RowO E w e B ao n c l)
    (x : Value) (m : Nat) (cs : List α) (hs : Src P E.sz tx x m (E.all cs) w) (hcl : cs.length = m) (hpos : 0 < m) (hmax : n + m ≤ 1000000) :
    ∃ ao' c' w', (Builtin.append_ #[t, tx] ty #[.slice ao n c, x]).run P w = .ok (.slice ao' (n + m) c') w' ∧ RowO E w' e B ao' (n + m) c' (l ++ cs) ∧ w.grownBy w' (Go.Proofs.Ytllijeciodmckaa.blk ao) ∧ Below B w w' ∧
      ((Go.Proofs.Ytllijeciodmckaa.blk ao' = Go.Proofs.Ytllijeciodmckaa.blk ao ∧ B ≤ (Go.Proofs.Ytllijeciodmckaa.blk ao).getD 0) ∨ ∃ g, ao' = some ⟨g, 0, none⟩ ∧ w.heap.size ≤ g) := by
  obtain ⟨i, z, hi, hz, hsize, hzc, hby⟩ := hB.info
  have ht := hB.ht
  have hs' : Src P i.size tx x m (E.all cs) w := by rw [hsize]; exact hs
  have hal := E.all_length cs
  rw [hcl] at hal
  have hR := h.isR
  have hln := hR.len
  have hgrow : ¬ (n + m ≤ c) → ∃ c' w', (Builtin.append_ #[t, tx] ty #[.slice ao n c, x]).run P w = .ok (.slice (some ⟨w.heap.size, 0, Option.none⟩) (n + m) c') w' ∧ OwnR E w' e w.heap.size (n + m) c' (l ++ cs) ∧ Below w.heap.size w w' := by
    intro hroom
    have hold : (Builtin.firstCells i.size n (.slice ao n c)).run P w.drew = .ok (E.all l).toArray w.drew := by
      cases ao with
      | none =>
        have h0 := hR.nil rfl
        have h1 := hR.le
        obtain rfl : n = 0 := by omega
        obtain rfl : l = [] := List.eq_nil_of_length_eq_zero hln
        exact run_firstCells_none w.drew i.size 0 0 c
      | some a => exact run_firstCells_some w.drew i.size n a n c (E.all l) (by rw [E.all_length, hln, hsize]) (fun j u hu => hR.drew.cell a rfl j u hu)
    have hr := run_append_grow_src (P := P) w t tx ty e i z ht hi hz ao n c (E.all l) hold x m (E.all cs) hs' (by omega) (by omega)
      (growslice_fits (by omega) (Nat.le_trans (Nat.mul_le_mul hmax hby) (by omega)))
    have hge := grownCap_ge w (n + m) c e
    have hcm : grownCap w (n + m) c e ≤ maxLen := grownCap_le_maxLen w (n + m) c e (by simp only [maxLen]; omega)
    have hzl : z.cells.size = E.sz := by rw [← Array.length_toList, hzc, E.len]
    have hll : (l ++ cs).length = n + m := by rw [List.length_append, hln, hcl]
    refine ⟨_, _, hr, ⟨hll, hge, hcm, _, heap_alloc_new w.drew _, ?_, ?_⟩, (Below.refl _ _).drew.alloc (Nat.le_refl _) _⟩
    · simp only [Array.size_append, List.size_toArray, size_zeroCells, List.length_append, hzl, hal, E.all_length, hln]
      rw [← Nat.add_mul, ← Nat.add_mul]
      congr 1
      omega
    · rw [← E.all_append]
      simp only [Array.toList_append]
      rw [← hll, ← E.all_length (l ++ cs)]
      exact List.take_left
  by_cases hroom : n + m ≤ c
  · rcases h.either with ⟨rfl, rfl, rfl⟩ | ⟨g, off, pre, rfl, hp, o, hg⟩
    · omega
    · have holn := o.len
      have hole := o.le
      have homx := o.max
      obtain ⟨cur, hgc, hcs, htake⟩ := o.row
      have hsm : (off + n) * E.sz + m * E.sz ≤ (off + c) * E.sz := by rw [← Nat.add_mul]; exact Nat.mul_le_mul_right _ (by omega)
      have hst := run_storeCells_at P g ((off + n) * i.size) e (E.all cs) 0 cur w hgc (by rw [hsize, hal]; omega) (E.all_one cs)
      simp only [Nat.add_zero] at hst
      have hadd : off * E.sz + n * i.size = (off + n) * i.size := by rw [hsize, Nat.add_mul]
      have hr : (Builtin.append_ #[t, tx] ty #[.slice (some ⟨g, off * E.sz, none⟩) n c, x]).run P w =
          .ok (.slice (some ⟨g, off * E.sz, none⟩) (n + m) c) (w.setRow g (cur.toList.take ((off + n) * i.size) ++ E.all cs ++ cur.toList.drop ((off + n) * i.size + (E.all cs).length)).toArray) := by
        rcases hs'.kind with ⟨e', hk⟩ | hk <;> simp [Builtin.append_, run_underlying ht, run_underlying hk, sizeOf, typeInfo, hi, hs'.len, hroom, hs'.cells, Addr.add_lit, hadd, hst]
      have hsz : ((cur.toList.take ((off + n) * i.size) ++ E.all cs ++ cur.toList.drop ((off + n) * i.size + (E.all cs).length)).toArray).size = (off + c) * E.sz := by
        simp only [List.size_toArray, List.length_append, List.length_take, List.length_drop, Array.length_toList, hal]
        rw [hsize]
        omega
      have hll : (pre ++ (l ++ cs)).length = off + (n + m) := by rw [List.length_append, List.length_append, hln, hcl, hp]
      have hall : OwnR E (w.setRow g (cur.toList.take ((off + n) * i.size) ++ E.all cs ++ cur.toList.drop ((off + n) * i.size + (E.all cs).length)).toArray) e g (off + (n + m)) (off + c) (pre ++ (l ++ cs)) := by
        refine ⟨hll, by omega, homx, _, setRow_heap w g cur _ e _ hgc, hsz, ?_⟩
        rw [hsize, htake, ← E.all_append, List.append_assoc]
        show List.take ((off + (n + m)) * E.sz) (E.all (pre ++ (l ++ cs)) ++ _) = _
        rw [← hll, ← E.all_length]
        exact List.take_left
      refine ⟨_, _, _, hr, ⟨.inr ⟨g, off, pre, rfl, hp, hall, hg⟩⟩, ⟨rfl, rfl, rfl, by simp, fun k _ hk => setRow_other w g k _ (fun q => hk (by rw [q]; rfl))⟩, ⟨rfl, rfl, rfl, by simp, fun k hk => setRow_other w g k _ (by omega)⟩, .inl ⟨rfl, hg⟩⟩
  · obtain ⟨c', w', hr, ho, hb⟩ := hgrow hroom
    exact ⟨_, c', w', hr, ho.rowO hBw, ⟨hb.os, hb.tape, hb.output, hb.size, fun k hk _ => hb.block k hk⟩, hb.mono hBw, .inr ⟨_, rfl, Nat.le_refl _⟩⟩
theorem wpList_append_o {P : Program} {zero : α} {ops : Array Oper} {rest : List Oper} {o : Oper} {a : Act} {Q : Exit → Act → World → Prop} (hgd : o.guard = none) (s x : Operand) (t tx : TypeId)
    (ho : o.op = .call { callee := .builtin .append, args := #[s, x], argTypes := #[t, tx] }) (e : TypeId) (hB : RowTy E P t e zero) (B : Nat) (hBw : B ≤ w.heap.size) (ao : Option Addr) (n c : Nat) (l : List α) (hsv : a.eval s = .slice ao n c) (h : RowO E w e B ao n c l)
    (X : Value) (hx : a.eval x = X) (m : Nat) (cs : List α) (hs : Src P E.sz tx X m (E.all cs) w) (hcl : cs.length = m) (hpos : 0 < m) (hmax : n + m ≤ 1000000) (N : Nat) (hN : n + m = N)
    (hK : ∀ ao' c' w', RowO E w' e B ao' N c' (l ++ cs) → w.grownBy w' (Go.Proofs.Ytllijeciodmckaa.blk ao) → Below B w w' → ((Go.Proofs.Ytllijeciodmckaa.blk ao' = Go.Proofs.Ytllijeciodmckaa.blk ao ∧ B ≤ (Go.Proofs.Ytllijeciodmckaa.blk ao).getD 0) ∨ ∃ g, ao' = some ⟨g, 0, none⟩ ∧ w.heap.size ≤ g) → wpList P ops Q rest (a.put o.dst (.slice ao' N c')) w') :
    wpList P ops Q (o :: rest) a w := by
  subst hN
  refine wpList_plain hgd fun K hK' => ?_
  obtain ⟨ao', c', w', hr, h1, h2, h3, h4⟩ := run_append_o (P := P) w t tx o.type e hB B hBw ao n c l h X m cs hs hcl hpos hmax
  unfold Oper.wp execOp
  simp only [ho, resolve, invoke, builtin, Sem.run_bind, Sem.run_pure, Result.andThen_ok, List.map_toArray, List.map_cons, List.map_nil, hsv, hx, hr]
  exact hK' _ _ (hK ao' c' w' h1 h2 h3 h4)
end
end Go.Proofs.Ytllijeciodmckaa
