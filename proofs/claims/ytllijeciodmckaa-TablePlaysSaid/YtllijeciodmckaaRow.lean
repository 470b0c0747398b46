/-
  Rows of whatever takes so many cells, over any program: a slice that can be read ('IsR'), a row of the call's own ('OwnR'), one law for append to it, one for make.
-/
import Derived.Test.YtllijeciodmckaaBytes
namespace Go.Proofs.Ytllijeciodmckaa
open Go.RowKit

/-- HOW AN ELEMENT LIES IN CELLS. -/
structure Enc (α : Type) where
  sz : Nat
  f : α → List Value
  len : ∀ x, (f x).length = sz
  one : ∀ x, ∀ u ∈ f x, u.oneCell' = true
section
variable {α : Type} (E : Enc α)
def Enc.all (l : List α) : List Value := l.flatMap E.f
theorem Enc.all_nil : E.all [] = [] := rfl
theorem Enc.all_cons (x : α) (l : List α) : E.all (x :: l) = E.f x ++ E.all l := rfl
theorem Enc.all_length (l : List α) : (E.all l).length = l.length * E.sz := by
  induction l with
  | nil => simp [Enc.all]
  | cons x l ih => rw [E.all_cons, List.length_append, ih, E.len, List.length_cons, Nat.succ_mul, Nat.add_comm]
theorem Enc.all_append (a b : List α) : E.all (a ++ b) = E.all a ++ E.all b := by simp [Enc.all]
theorem Enc.all_one (l : List α) : ∀ u ∈ E.all l, u.oneCell' = true := by
  intro u hu
  obtain ⟨x, _, h⟩ := List.mem_flatMap.1 hu
  exact E.one x u h
theorem Enc.all_take : ∀ (l : List α) (n : Nat), (E.all l).take (n * E.sz) = E.all (l.take n)
  | [], n => by simp [Enc.all]
  | x :: l, 0 => by simp [Enc.all]
  | x :: l, n + 1 => by
    rw [E.all_cons, List.take_succ_cons, E.all_cons, ← Enc.all_take l n, Nat.succ_mul, Nat.add_comm, List.take_append, E.len, Nat.add_sub_cancel_left, List.take_of_length_le (by rw [E.len]; omega)]
theorem Enc.all_drop : ∀ (l : List α) (n : Nat), (E.all l).drop (n * E.sz) = E.all (l.drop n)
  | [], n => by simp [Enc.all]
  | x :: l, 0 => by simp [Enc.all]
  | x :: l, n + 1 => by
    rw [E.all_cons, List.drop_succ_cons, ← Enc.all_drop l n, Nat.succ_mul, Nat.add_comm, List.drop_append, E.len, Nat.add_sub_cancel_left, List.drop_of_length_le (by rw [E.len]; omega), List.nil_append]
theorem Enc.all_get : ∀ (l : List α) (i j : Nat) (x : α), l[i]? = some x → j < E.sz → (E.all l)[i * E.sz + j]? = (E.f x)[j]?
  | [], i, j, x, h, _ => by simp at h
  | y :: l, 0, j, x, h, hj => by
    obtain rfl : y = x := by simpa using h
    rw [E.all_cons, Nat.zero_mul, Nat.zero_add, List.getElem?_append_left (by rw [E.len]; exact hj)]
  | y :: l, i + 1, j, x, h, hj => by
    rw [E.all_cons, List.getElem?_append_right (by rw [E.len, Nat.succ_mul]; omega), E.len, Nat.succ_mul, show i * E.sz + E.sz + j - E.sz = i * E.sz + j by omega]
    exact Enc.all_get l i j x (by simpa using h) hj
theorem Enc.all_set (l : List α) (i : Nat) (x : α) (h : i < l.length) : E.all (l.set i x) = (E.all l).take (i * E.sz) ++ E.f x ++ (E.all l).drop ((i + 1) * E.sz) := by
  rw [E.all_take, E.all_drop, List.set_eq_take_append_cons_drop, if_pos h, E.all_append, E.all_cons, List.append_assoc]

/-- The types' facts that the laws want: t is a slice of e, whose zero is 'zero'. -/
structure RowTy (P : Program) (t e : TypeId) (zero : α) : Prop where
  ht : P.underlying t = some (.slice e)
  info : ∃ i z, P.info? e = some i ∧ i.zero = some z ∧ i.size = E.sz ∧ z.cells.toList = E.f zero ∧ i.bytes ≤ 1000
/-- THE SLICE ao, n, cap READS AS THE ELEMENTS l. -/
structure IsR (w : World) (ao : Option Addr) (n cap : Nat) (l : List α) : Prop where
  len : l.length = n
  le : n ≤ cap
  max : cap ≤ maxLen
  nil : ao = none → cap = 0
  cell : ∀ a, ao = some a → ∀ j u, (E.all l)[j]? = some u → w.cell? (a.add j) = some u
/-- THE ROW IN BLOCK g IS THE CALL's OWN AND ITS FIRST n ELEMENTS ARE l. -/
structure OwnR (w : World) (e : TypeId) (g n cap : Nat) (l : List α) : Prop where
  len : l.length = n
  le : n ≤ cap
  max : cap ≤ maxLen
  row : ∃ cur, w.heap[g]? = some (.cells cur e (0, 0)) ∧ cur.size = cap * E.sz ∧ cur.toList.take (n * E.sz) = E.all l
end
section
variable {α : Type} {E : Enc α} {w w' : World} {e : TypeId} {g n cap : Nat} {l : List α} {ao : Option Addr}
theorem IsR.nilR (w : World) : IsR E w none 0 0 [] := ⟨rfl, Nat.le_refl _, Nat.zero_le _, fun _ => rfl, fun a h => by cases h⟩
theorem OwnR.lt (h : OwnR E w e g n cap l) : g < w.heap.size := by
  obtain ⟨cur, hg, _⟩ := h.row
  exact (Array.getElem?_eq_some_iff.1 hg).1
theorem OwnR.cell (h : OwnR E w e g n cap l) (j : Nat) (u : Value) (hu : (E.all l)[j]? = some u) : w.cell? ⟨g, j, none⟩ = some u := by
  obtain ⟨cur, hg, hs, ht⟩ := h.row
  have hj : j < (E.all l).length := (List.getElem?_eq_some_iff.1 hu).1
  rw [E.all_length, h.len] at hj
  rw [cell_of_row w g j cur e (0, 0) hg]
  rw [← ht, List.getElem?_take_of_lt hj] at hu
  simpa using hu
theorem OwnR.isR (h : OwnR E w e g n cap l) : IsR E w (some ⟨g, 0, none⟩) n cap l :=
  ⟨h.len, h.le, h.max, (fun h => by cases h), fun a ha j u hu => by
    obtain rfl := Option.some.inj ha
    rw [Addr.add_lit, Nat.zero_add]
    exact h.cell j u hu⟩
theorem OwnR.kept (h : OwnR E w e g n cap l) (hb : w'.heap[g]? = w.heap[g]?) : OwnR E w' e g n cap l := by
  obtain ⟨cur, hg, hs, ht⟩ := h.row
  exact ⟨h.len, h.le, h.max, cur, by rw [hb]; exact hg, hs, ht⟩
theorem OwnR.grown {row : Option Nat} (h : OwnR E w e g n cap l) (hg : w.grownBy w' row) (hne : some g ≠ row) : OwnR E w' e g n cap l := h.kept (hg.block g h.lt hne)
theorem OwnR.below {B : Nat} (h : OwnR E w e g n cap l) (hb : Below B w w') (hg : g < B) : OwnR E w' e g n cap l := h.kept (hb.block g hg)
theorem OwnR.past (h : OwnR E w e g n cap l) (hb : Below w.heap.size w w') : OwnR E w' e g n cap l := h.below hb h.lt
theorem OwnR.alloc (h : OwnR E w e g n cap l) (o : Obj) : OwnR E (w.alloc o) e g n cap l := h.kept (Below.heap_alloc w o g h.lt)
theorem OwnR.drew (h : OwnR E w e g n cap l) : OwnR E w.drew e g n cap l := ⟨h.len, h.le, h.max, h.row⟩
theorem OwnR.puts {g0 n0 : Nat} (h : OwnR E w e g n cap l) (k : Puts w w' g0 n0) (hne : g ≠ g0) : OwnR E w' e g n cap l := h.kept (k.block g h.lt hne)
theorem IsR.grown {row : Option Nat} (h : IsR E w ao n cap l) (hg : w.grownBy w' row) (hne : ∀ a, ao = some a → some a.block ≠ row) : IsR E w' ao n cap l :=
  ⟨h.len, h.le, h.max, h.nil, fun a ha j u hu => hg.cell (h.cell a ha j u hu) (by
    have e : (a.add j).block = a.block := by unfold Addr.add; split <;> rfl
    rw [e]
    exact hne a ha)⟩
theorem IsR.past (h : IsR E w ao n cap l) (hb : Below w.heap.size w w') : IsR E w' ao n cap l :=
  ⟨h.len, h.le, h.max, h.nil, fun a ha j u hu => by
    have hc := h.cell a ha j u hu
    rw [hb.cell (World.block_lt_of_cell? w _ hc)]
    exact hc⟩
theorem IsR.alloc (h : IsR E w ao n cap l) (o : Obj) : IsR E (w.alloc o) ao n cap l := h.past ((Below.refl _ _).alloc (Nat.le_refl _) o)
theorem IsR.drew (h : IsR E w ao n cap l) : IsR E w.drew ao n cap l := h.past (Below.refl _ _).drew
theorem IsR.src {P : Program} {t : TypeId} (h : IsR E w ao n cap l) (ht : P.underlying t = some (.slice e)) : Src P E.sz t (.slice ao n cap) n (E.all l) w := by
  cases ao with
  | none =>
    have hc := h.nil rfl
    have hle := h.le
    obtain rfl : n = 0 := by omega
    obtain rfl : l = [] := List.eq_nil_of_length_eq_zero h.len
    exact Src.ofNil w ht cap
  | some a => exact Src.ofSlice w ht a n cap (E.all l) (by rw [E.all_length, h.len]) (fun j u hu => h.cell a rfl j u hu) (E.all_one l)
theorem IsR.has (h : IsR E w ao n cap l) (hn : 0 < n) : ∃ a, ao = some a := by
  cases ao with
  | none => have := h.nil rfl; have := h.le; omega
  | some a => exact ⟨a, rfl⟩
/-- A slice that holds something lies in some block, at some place. -/
theorem IsR.open (h : IsR E w ao n cap l) (hn : 0 < n) (hz : 0 < E.sz) : ∃ b off, ao = some ⟨b, off, none⟩ ∧ b < w.heap.size ∧ ∀ j u, (E.all l)[j]? = some u → w.cell? ⟨b, off + j, none⟩ = some u := by
  obtain ⟨⟨b, off, spot⟩, rfl⟩ := h.has hn
  have hc : ∀ j u, (E.all l)[j]? = some u → w.cell? ((⟨b, off, spot⟩ : Addr).add j) = some u := h.cell _ rfl
  have hl : 0 < (E.all l).length := by rw [E.all_length, h.len]; exact Nat.mul_pos hn hz
  have h0 := hc 0 _ (List.getElem?_eq_getElem hl)
  have hspot : spot = none := by simpa [Addr.add] using World.cell?_spot h0
  subst hspot
  refine ⟨b, off, rfl, ?_, fun j u hu => by have := hc j u hu; rwa [Addr.add_lit] at this⟩
  exact World.block_lt_of_cell? w _ h0
/-- A new block that holds a row. -/
theorem OwnR.ofBlk {cs : Array Value} (hb : w.heap[g]? = some (.cells cs e (0, 0))) (hc : cs.toList = E.all l) (hl : l.length = n) (hn : n ≤ 1000000) : OwnR E w e g n n l :=
  ⟨hl, Nat.le_refl _, by unfold maxLen; omega, cs, hb, by rw [← Array.length_toList, hc, E.all_length, hl], by rw [hc, List.take_of_length_le (by rw [E.all_length, hl]; exact Nat.le_refl _)]⟩
/-- append, TO A ROW OF THE CALL's OWN, OF WHATEVER. -/
theorem run_append_or {P : Program} {zero : α} (w : World) (t tx ty e : TypeId) (hB : RowTy E P t e zero) (g n cap : Nat) (l : List α) (h : OwnR E w e g n cap l)
    (x : Value) (m : Nat) (cs : List α) (hs : Src P E.sz tx x m (E.all cs) w) (hcl : cs.length = m) (hmax : n + m ≤ 1000000) :
    ∃ g' cap' w', (Builtin.append_ #[t, tx] ty #[.slice (some ⟨g, 0, none⟩) n cap, x]).run P w = .ok (.slice (some ⟨g', 0, none⟩) (n + m) cap') w' ∧
      OwnR E w' e g' (n + m) cap' (l ++ cs) ∧ Puts w w' g (n * E.sz) ∧ (g' = g ∨ w.heap.size ≤ g') := by
  obtain ⟨i, z, hi, hz, hsize, hzc, hby⟩ := hB.info
  have ht := hB.ht
  have hs' : Src P i.size tx x m (E.all cs) w := by rw [hsize]; exact hs
  obtain ⟨cur, hg, hcs, htake⟩ := h.row
  have hln := h.len
  have hle := h.le
  have hmx := h.max
  have hll : (l ++ cs).length = n + m := by rw [List.length_append, hln, hcl]
  have hal := E.all_length cs
  rw [hcl] at hal
  by_cases hroom : n + m ≤ cap
  · have hsm : n * E.sz + m * E.sz ≤ cap * E.sz := by rw [← Nat.add_mul]; exact Nat.mul_le_mul_right _ hroom
    have hst := run_storeCells_at P g (n * i.size) e (E.all cs) 0 cur w hg (by rw [hsize, hal]; omega) (E.all_one cs)
    simp only [Nat.add_zero] at hst
    have hr : (Builtin.append_ #[t, tx] ty #[.slice (some ⟨g, 0, none⟩) n cap, x]).run P w =
        .ok (.slice (some ⟨g, 0, none⟩) (n + m) cap) (w.setRow g (cur.toList.take (n * i.size) ++ E.all cs ++ cur.toList.drop (n * i.size + (E.all cs).length)).toArray) := by
      rcases hs'.kind with ⟨e', hk⟩ | hk <;> simp [Builtin.append_, run_underlying ht, run_underlying hk, sizeOf, typeInfo, hi, hs'.len, hroom, hs'.cells, Addr.add_lit, hst]
    have hsz : ((cur.toList.take (n * i.size) ++ E.all cs ++ cur.toList.drop (n * i.size + (E.all cs).length)).toArray).size = cap * E.sz := by
      simp only [List.size_toArray, List.length_append, List.length_take, List.length_drop, Array.length_toList, hal]
      rw [hsize]
      omega
    have hall : OwnR E (w.setRow g (cur.toList.take (n * i.size) ++ E.all cs ++ cur.toList.drop (n * i.size + (E.all cs).length)).toArray) e g (n + m) cap (l ++ cs) := by
      refine ⟨hll, hroom, hmx, _, setRow_heap w g cur _ e _ hg, hsz, ?_⟩
      rw [hsize, htake, ← E.all_append]
      show List.take ((n + m) * E.sz) (E.all (l ++ cs) ++ _) = _
      rw [← hll, ← E.all_length]
      exact List.take_left
    refine ⟨g, cap, _, hr, hall, ⟨rfl, rfl, rfl, by simp, fun k _ hk => setRow_other w g k _ hk, fun c0 t0 h0 => ?_⟩, .inl rfl⟩
    rw [hg] at h0
    obtain ⟨rfl, rfl⟩ : cur = c0 ∧ e = t0 := by simpa using h0
    refine ⟨_, setRow_heap w g cur _ e _ hg, by rw [hsz, hcs], ?_⟩
    rw [hsize, List.append_assoc]
    show List.take (n * E.sz) (List.take (n * E.sz) cur.toList ++ _) = _
    rw [List.take_append_of_le_length (by simp; omega), List.take_take, Nat.min_self]
  · have hold : (Builtin.firstCells i.size n (.slice (some ⟨g, 0, none⟩) n cap)).run P w.drew = .ok (E.all l).toArray w.drew :=
      run_firstCells_some w.drew i.size n ⟨g, 0, none⟩ n cap (E.all l) (by rw [E.all_length, hln, hsize]) (fun j u hu => by
        rw [Addr.add_lit, Nat.zero_add]
        exact h.drew.cell j u hu)
    have hr := run_append_grow_src (P := P) w t tx ty e i z ht hi hz (some ⟨g, 0, none⟩) n cap (E.all l) hold x m (E.all cs) hs' (by omega) (by omega)
      (growslice_fits (by omega) (Nat.le_trans (Nat.mul_le_mul hmax hby) (by omega)))
    have hge := grownCap_ge w (n + m) cap e
    have hcm : grownCap w (n + m) cap e ≤ maxLen := grownCap_le_maxLen w (n + m) cap e (by simp only [maxLen]; omega)
    have hzl : z.cells.size = E.sz := by rw [← Array.length_toList, hzc, E.len]
    refine ⟨w.heap.size, grownCap w (n + m) cap e, _, hr, ⟨hll, hge, hcm, _, heap_alloc_new w.drew _, ?_, ?_⟩, Below.puts ((Below.refl _ _).drew.alloc (Nat.le_refl _) _) _ _, .inr (Nat.le_refl _)⟩
    · simp only [Array.size_append, List.size_toArray, size_zeroCells, List.length_append, hzl, hal, E.all_length, hln]
      rw [← Nat.add_mul, ← Nat.add_mul]
      congr 1
      omega
    · rw [← E.all_append]
      simp only [Array.toList_append]
      rw [← hll, ← E.all_length (l ++ cs)]
      exact List.take_left
/-- The same, as the walk meets it. -/
theorem wpList_append_or {P : Program} {zero : α} {ops : Array Oper} {rest : List Oper} {o : Oper} {a : Act} {Q : Exit → Act → World → Prop} (hgd : o.guard = none) (s x : Operand) (t tx : TypeId)
    (ho : o.op = .call { callee := .builtin .append, args := #[s, x], argTypes := #[t, tx] }) (e : TypeId) (hB : RowTy E P t e zero) (g n cap : Nat) (l : List α) (hsv : a.eval s = .slice (some ⟨g, 0, none⟩) n cap) (h : OwnR E w e g n cap l)
    (X : Value) (hx : a.eval x = X) (m : Nat) (cs : List α) (hs : Src P E.sz tx X m (E.all cs) w) (hcl : cs.length = m) (N : Nat) (hN : n + m = N) (L : List α) (hL : l ++ cs = L) (hmax : N ≤ 1000000)
    (hK : ∀ g' cap' w', OwnR E w' e g' N cap' L → Puts w w' g (n * E.sz) → (g' = g ∨ w.heap.size ≤ g') → wpList P ops Q rest (a.put o.dst (.slice (some ⟨g', 0, none⟩) N cap')) w') :
    wpList P ops Q (o :: rest) a w := by
  subst hN
  subst hL
  refine wpList_plain hgd fun K hK' => ?_
  obtain ⟨g', cap', w', hr, h1, h2, h3⟩ := run_append_or (P := P) w t tx o.type e hB g n cap l h X m cs hs hcl hmax
  unfold Oper.wp execOp
  simp only [ho, resolve, invoke, builtin, Sem.run_bind, Sem.run_pure, Result.andThen_ok, List.map_toArray, List.map_cons, List.map_nil, hsv, hx, hr]
  exact hK' _ _ (hK g' cap' w' h1 h2 h3)
/-- append to nil, of something. -/
theorem run_append_nr {P : Program} {zero : α} (w : World) (t tx ty e : TypeId) (hB : RowTy E P t e zero) (c : Nat) (hc : c = 0)
    (x : Value) (m : Nat) (cs : List α) (hs : Src P E.sz tx x m (E.all cs) w) (hcl : cs.length = m) (hpos : 0 < m) (hmax : m ≤ 1000000) :
    ∃ cap' w', (Builtin.append_ #[t, tx] ty #[.slice none 0 c, x]).run P w = .ok (.slice (some ⟨w.heap.size, 0, none⟩) m cap') w' ∧
      OwnR E w' e w.heap.size m cap' cs ∧ Below w.heap.size w w' := by
  subst hc
  obtain ⟨i, z, hi, hz, hsize, hzc, hby⟩ := hB.info
  have ht := hB.ht
  have hs' : Src P i.size tx x m (E.all cs) w := by rw [hsize]; exact hs
  have hal := E.all_length cs
  rw [hcl] at hal
  have hr := run_append_grow_src (P := P) w t tx ty e i z ht hi hz none 0 0 [] (run_firstCells_none w.drew i.size 0 0 0) x m (E.all cs) hs' (by omega) (by omega)
    (growslice_fits (by omega) (Nat.le_trans (Nat.mul_le_mul (show 0 + m ≤ 1000000 by omega) hby) (by omega)))
  simp only [Nat.zero_add, List.nil_append] at hr
  have hge := grownCap_ge w m 0 e
  have hcm : grownCap w m 0 e ≤ maxLen := grownCap_le_maxLen w m 0 e (by simp only [maxLen]; omega)
  have hzl : z.cells.size = E.sz := by rw [← Array.length_toList, hzc, E.len]
  refine ⟨grownCap w m 0 e, _, hr, ⟨hcl, hge, hcm, _, heap_alloc_new w.drew _, ?_, ?_⟩, (Below.refl _ _).drew.alloc (Nat.le_refl _) _⟩
  · simp only [Array.size_append, List.size_toArray, size_zeroCells, hzl, hal]
    rw [← Nat.add_mul]
    congr 1
    omega
  · simp only [Array.toList_append]
    rw [← hal]
    exact List.take_left
theorem wpList_append_nr {P : Program} {zero : α} {ops : Array Oper} {rest : List Oper} {o : Oper} {a : Act} {Q : Exit → Act → World → Prop} (hgd : o.guard = none) (s x : Operand) (t tx : TypeId)
    (ho : o.op = .call { callee := .builtin .append, args := #[s, x], argTypes := #[t, tx] }) (e : TypeId) (hB : RowTy E P t e zero) (c : Nat) (hc : c = 0) (hsv : a.eval s = .slice none 0 c)
    (X : Value) (hx : a.eval x = X) (m : Nat) (cs : List α) (hs : Src P E.sz tx X m (E.all cs) w) (hcl : cs.length = m) (hpos : 0 < m) (hmax : m ≤ 1000000)
    (hK : ∀ g' cap' w', OwnR E w' e g' m cap' cs → Below w.heap.size w w' → w.heap.size ≤ g' → wpList P ops Q rest (a.put o.dst (.slice (some ⟨g', 0, none⟩) m cap')) w') :
    wpList P ops Q (o :: rest) a w := by
  refine wpList_plain hgd fun K hK' => ?_
  obtain ⟨cap', w', hr, h1, h2⟩ := run_append_nr (P := P) w t tx o.type e hB c hc X m cs hs hcl hpos hmax
  unfold Oper.wp execOp
  simp only [ho, resolve, invoke, builtin, Sem.run_bind, Sem.run_pure, Result.andThen_ok, List.map_toArray, List.map_cons, List.map_nil, hsv, hx, hr]
  exact hK' _ _ (hK _ cap' w' h1 h2 (Nat.le_refl _))
/-- 'make([]T, N)'. -/
theorem wpList_make_or {P : Program} {zero : α} {ops : Array Oper} {rest : List Oper} {o : Oper} {a : Act} {Q : Exit → Act → World → Prop} (hgd : o.guard = none) (x c : Operand) (t : TypeId)
    (ho : o.op = Op.makeSlice t x c) (e : TypeId) (hB : RowTy E P t e zero) (kl kc : IntKind) (L C : Int) (N : Nat) (hl : a.eval x = .int kl L) (hc : a.eval c = .int kc C) (hL : L = (N : Int)) (hC : C = (N : Int)) (hN : N ≤ 1000000)
    (hK : ∀ w', OwnR E w' e w.heap.size N N (List.replicate N zero) → Below w.heap.size w w' → wpList P ops Q rest (a.put o.dst (.slice (some ⟨w.heap.size, 0, none⟩) N N)) w') :
    wpList P ops Q (o :: rest) a w := by
  obtain ⟨i, z, hi, hz, hsize, hzc, hby⟩ := hB.info
  refine wpList_make_full w hgd x c t ho w.heap.size e i z E.sz hB.ht hi hz hsize kl kc L C N hl hc hL hC (Nat.le_trans (Nat.mul_le_mul hby hN) (by omega)) (by simp only [maxLen]; omega) (Nat.le_refl _) fun w' hown hgr => ?_
  refine hK w' ?_ ((Below.refl _ w).grown hgr (Nat.le_refl _) (fun k h => by cases h))
  have hm : (madeCells z.cells (N * E.sz)).toList = E.all (List.replicate N zero) := by
    have hzl : z.cells.size = E.sz := by rw [← Array.length_toList, hzc, E.len]
    apply List.ext_getElem (by simp [madeCells, E.all_length])
    intro q h1 h2
    have hq : q < N * E.sz := by simpa [madeCells] using h1
    have hs : 0 < E.sz := by
      rcases Nat.eq_zero_or_pos E.sz with h | h
      · rw [h] at hq; omega
      · exact h
    have hj := Nat.mod_lt q hs
    have g := E.all_get (List.replicate N zero) (q / E.sz) (q % E.sz) zero (by rw [List.getElem?_replicate, if_pos ((Nat.div_lt_iff_lt_mul hs).2 hq)]) hj
    rw [Nat.div_add_mod' q E.sz, ← hzc, List.getElem?_eq_getElem h2, Array.getElem?_toList, Array.getElem?_eq_getElem (by rw [hzl]; exact hj)] at g
    rw [Option.some.inj g]
    simp [madeCells, hzl, hj]
  rw [hm] at hown
  rcases hown.2 with ⟨h, _⟩ | ⟨g, cap, cur, hv, _, hg, hnc, hcm, hcs, htake⟩
  · cases h
  · simp only [Value.slice.injEq, Option.some.injEq, Addr.mk.injEq, and_true] at hv
    obtain ⟨rfl, _, rfl⟩ := hv
    exact ⟨by simp, Nat.le_refl _, hcm, cur, hg, hcs, htake⟩
end
end Go.Proofs.Ytllijeciodmckaa
