/-
  Slices of sums: what they read as ('IsH'), a row of the call's own ('OwnH'), append to it; a sum is read whole.
-/
import Derived.Test.YtpphlmbhonaglaaDoorPieces
import Derived.Great.BuildSlice
namespace Go.Proofs.YtpphlmbhonaglaaDoor
open Go.RowKit

/-- AT a LIE THE BYTES l. -/
def AtA (w : World) (a : Addr) (l : List UInt8) : Prop := ∀ j u, l[j]? = some u → w.cell? (a.add j) = some (bc u)
theorem AtA.past {w w' : World} {a : Addr} {l : List UInt8} (h : AtA w a l) (hb : Below w.heap.size w w') : AtA w' a l := fun j u hu => by
  have hc := h j u hu
  rw [hb.cell (World.block_lt_of_cell? w _ hc)]
  exact hc
theorem run_load_at {P : Program} (w : World) (ty : TypeId) (a : Addr) (l : List UInt8) (n : Nat) (e : TypeId) (hu : P.underlying ty = some (.array n e)) (hi : (P.info? ty).map (·.size) = some l.length) (h : AtA w a l) : (loadVar ty a).run P w = .ok (.agg (bcs l).toArray) w := by
  have hl : (loadCells a (bcs l).length).run P w = .ok (bcs l).toArray w :=
    run_loadCells_list (P := P) w a (bcs l) (fun j v hv => by
      rw [bcs_get] at hv
      obtain ⟨x, hx, rfl⟩ := Option.map_eq_some_iff.1 hv
      exact h j x hx)
  rw [bcs_length] at hl
  cases hq : P.info? ty with
  | none => simp [hq] at hi
  | some i =>
    have hs : i.size = l.length := by simpa [hq] using hi
    have hagg : (isAgg ty).run P w = .ok true w := by
      unfold isAgg
      rw [Sem.run_bind, run_underlying hu w]
      rfl
    simp [loadVar, Sem.run_bind, hagg, sizeOf, typeInfo, hq, hs, hl]
theorem wp_load_at {P : Program} {o : Oper} {a : Act} {w : World} {K : Act → World → Prop} {Q : Exit → Act → World → Prop} (ty : TypeId) (x : Operand) (ho : o.op = .load ty x)
    (p : Addr) (hx : a.eval x = .pointer (some p)) (l : List UInt8) (hc : AtA w p l) (n : Nat) (e : TypeId) (hu : P.underlying ty = some (.array n e)) (hi : (P.info? ty).map (·.size) = some l.length)
    (h : K (a.put o.dst (.agg (bcs l).toArray)) w) : o.wp P a w K Q := by
  unfold Oper.wp execOp
  simp only [ho, hx, Instr.loadAt, Instr.sureAddr, Sem.run_bind, Sem.run_pure, Result.andThen_ok, run_load_at w ty p l n e hu hi hc]
  exact h
theorem wpList_load_at {P : Program} {ops : Array Oper} {rest : List Oper} {o : Oper} {a : Act} {w : World} {Q : Exit → Act → World → Prop} (hgd : o.guard = none) (ty : TypeId) (x : Operand) (ho : o.op = .load ty x)
    (p : Addr) (hx : a.eval x = .pointer (some p)) (l : List UInt8) (hc : AtA w p l) (n : Nat) (e : TypeId) (hu : P.underlying ty = some (.array n e)) (hi : (P.info? ty).map (·.size) = some l.length)
    (h : wpList P ops Q rest (a.put o.dst (.agg (bcs l).toArray)) w) : wpList P ops Q (o :: rest) a w :=
  wpList_plain hgd fun _ hK => wp_load_at ty x ho p hx l hc n e hu hi (hK _ _ h)
theorem wpStill_load_at {P : Program} {ops : Array Oper} {w : World} {Q : Act → Prop} {a : Act} {o : Oper} {rest : List Oper} (hgd : Region.wanted o (yielded ops a.tmps) = true) (ty : TypeId) (x : Operand) (ho : o.op = .load ty x)
    (p : Addr) (hx : a.eval x = .pointer (some p)) (l : List UInt8) (hc : AtA w p l) (n : Nat) (e : TypeId) (hu : P.underlying ty = some (.array n e)) (hi : (P.info? ty).map (·.size) = some l.length)
    (h : wpStill P ops w Q rest (a.put o.dst (.agg (bcs l).toArray))) : wpStill P ops w Q (o :: rest) a := by
  simp only [wpStill]
  rw [if_pos hgd]
  unfold Oper.still execOp
  simp only [ho, hx, Instr.loadAt, Instr.sureAddr, Sem.run_bind, Sem.run_pure, Result.andThen_ok, run_load_at w ty p l n e hu hi hc, Oper.stillUpon]
  exact ⟨trivial, h⟩
theorem yieldsIf_load_at {P : Program} {ops : Array Oper} {S : World → Prop} {op : Oper} {a : Act} (hw : Region.wanted op (yielded ops a.tmps) = true) (ty : TypeId) (x : Operand) (ho : op.op = .load ty x)
    (p : Addr) (hx : a.eval x = .pointer (some p)) (l : List UInt8) (hS : ∀ w, S w → AtA w p l) (n : Nat) (e : TypeId) (hu : P.underlying ty = some (.array n e)) (hi : (P.info? ty).map (·.size) = some l.length) : YieldsIf P ops S op (.agg (bcs l).toArray) a :=
  .inl ⟨hw, fun w hw' => by
    unfold execOp
    simp only [ho, hx, Instr.loadAt, Instr.sureAddr, Sem.run_bind, Sem.run_pure, Result.andThen_ok, run_load_at w ty p l n e hu hi (hS w hw')]⟩

/-- THE SLICE ao, n, cap READS AS THE SUMS hs. -/
structure IsH (w : World) (ao : Option Addr) (n cap : Nat) (hs : List (List UInt8)) : Prop where
  len : hs.length = n
  le : n ≤ cap
  max : cap ≤ maxLen
  nil : ao = none → cap = 0
  all : ∀ h ∈ hs, h.length = 32
  at_ : ∀ a, ao = some a → ∀ i, i < n → AtA w (a.add (i * 32)) (hs.getD i [])
theorem IsH.past {w w' : World} {ao : Option Addr} {n cap : Nat} {hs : List (List UInt8)} (h : IsH w ao n cap hs) (hb : Below w.heap.size w w') : IsH w' ao n cap hs :=
  ⟨h.len, h.le, h.max, h.nil, h.all, fun a ha i hi => (h.at_ a ha i hi).past hb⟩
theorem IsH.one {w : World} {ao : Option Addr} {n cap : Nat} {hs : List (List UInt8)} (h : IsH w ao n cap hs) (i : Nat) (hi : i < n) : (hs.getD i []).length = 32 := by
  have hl := h.len
  have : hs.getD i [] = hs[i] := by simp [List.getD, show i < hs.length by omega]
  rw [this]
  exact h.all _ (List.getElem_mem _)
theorem IsH.has {w : World} {ao : Option Addr} {n cap : Nat} {hs : List (List UInt8)} (h : IsH w ao n cap hs) (hn : 0 < n) : ∃ a, ao = some a := by
  cases ao with
  | none => have := h.nil rfl; have := h.le; omega
  | some a => exact ⟨a, rfl⟩
theorem IsH.nilH (w : World) : IsH w none 0 0 [] := ⟨rfl, Nat.le_refl _, Nat.zero_le _, fun _ => rfl, by simp, fun a h => by cases h⟩
theorem getD_take' {α : Type} (l : List α) (d : α) (k j : Nat) (h : j < k) : (l.take k).getD j d = l.getD j d := by simp [List.getD, h]
theorem getD_drop' {α : Type} (l : List α) (d : α) (k j : Nat) : (l.drop k).getD j d = l.getD (k + j) d := by simp [List.getD]
theorem IsH_take {w : World} {ao : Option Addr} {n cap : Nat} {hs : List (List UInt8)} (h : IsH w ao n cap hs) (m : Nat) (hm : m ≤ n) : IsH w ao m cap (hs.take m) := by
  have h1 := h.len
  have h2 := h.le
  exact ⟨by rw [List.length_take]; omega, by omega, h.max, h.nil, fun x hx => h.all x (List.mem_of_mem_take hx), fun a ha i hi => by rw [getD_take' _ _ _ _ hi]; exact h.at_ a ha i (by omega)⟩
theorem IsH_drop {w : World} {ao : Option Addr} {n cap : Nat} {hs : List (List UInt8)} (h : IsH w ao n cap hs) (m : Nat) (hm : m ≤ n) : IsH w (ao.map fun x => x.add (m * 32)) (n - m) (cap - m) (hs.drop m) := by
  have h1 := h.len
  have h2 := h.le
  have h3 := h.max
  refine ⟨by rw [List.length_drop]; omega, by omega, by omega, fun hn => ?_, fun x hx => h.all x (List.mem_of_mem_drop hx), fun a ha i hi => ?_⟩
  · have := h.nil (by simpa using hn)
    omega
  · obtain ⟨b, rfl, rfl⟩ := Option.map_eq_some_iff.1 ha
    rw [Addr.add_add, getD_drop', ← Nat.add_mul]
    exact h.at_ b rfl (m + i) (by omega)
theorem IsH_end {w : World} {ao : Option Addr} {n cap : Nat} {hs : List (List UInt8)} (h : IsH w ao n cap hs) : IsH w ao 0 0 (hs.drop n) := by
  have h1 := h.len
  rw [List.drop_eq_nil_of_le (by omega)]
  exact ⟨rfl, Nat.le_refl _, Nat.zero_le _, fun _ => rfl, by simp, fun a ha i hi => by omega⟩
theorem elemH (w' : World) : (sizeOf (Tryd.prog.elem 24)).run Tryd.prog w' = .ok 32 w' := by kernel_rfl
/-- 'l[c:]'. -/
theorem IsH_cut {w : World} {ao : Option Addr} {n cap : Nat} {hs : List (List UInt8)} (h : IsH w ao n cap hs) (c : Nat) (hc : c ≤ n) :
    ∃ ao2, (∀ w' : World, (Instr.slice 24 (.slice ao n cap) (some (.int .i64 c)) none none).run Tryd.prog w' = .ok (.slice ao2 (n - c) (cap - c)) w') ∧ IsH w ao2 (n - c) (cap - c) (hs.drop c) ∧ (∀ a, ao = some a → ∃ b, ao2 = some b) := by
  have hle := h.le
  have hrun : ∀ w' : World, (Instr.slice 24 (.slice ao n cap) (some (.int .i64 c)) none none).run Tryd.prog w' = .ok (sliced ao c n cap 32) w' := fun w' => by
    rw [run_slice_l w' 24 ao n cap (by kernel_rfl) .i64 (c : Int) (by omega) (by omega), elemH]
    simp [Result.andThen]
  by_cases he : cap = c
  · have hn : n = c := by omega
    refine ⟨ao, fun w' => by rw [hrun, sliced, if_pos he], ?_⟩
    subst he
    subst hn
    rw [Nat.sub_self]
    exact ⟨IsH_end h, fun a ha => ⟨a, ha⟩⟩
  · exact ⟨ao.map fun x => x.add (c * 32), fun w' => by rw [hrun, sliced, if_neg he], IsH_drop h c hc, fun a ha => ⟨_, by rw [ha]; rfl⟩⟩
/-- 'l[:c]'. -/
theorem IsH_head {w : World} {ao : Option Addr} {n cap : Nat} {hs : List (List UInt8)} (h : IsH w ao n cap hs) (c : Nat) (hc : c ≤ n) :
    ∃ ao2, (∀ w' : World, (Instr.slice 24 (.slice ao n cap) none (some (.int .i64 c)) none).run Tryd.prog w' = .ok (.slice ao2 c cap) w') ∧ IsH w ao2 c cap (hs.take c) := by
  have hle := h.le
  have hrun : ∀ w' : World, (Instr.slice 24 (.slice ao n cap) none (some (.int .i64 c)) none).run Tryd.prog w' = .ok (sliced ao 0 c cap 32) w' := fun w' => by
    rw [run_slice_h w' 24 ao n cap (by kernel_rfl) .i64 (c : Int) (by omega) (by omega), elemH]
    simp [Result.andThen]
  by_cases he : cap = 0
  · exact ⟨ao, fun w' => by rw [hrun, sliced, if_pos he]; simp, IsH_take h c hc⟩
  · refine ⟨ao.map fun x => x.add 0, fun w' => by rw [hrun, sliced, if_neg he]; simp, ?_⟩
    have hd := IsH_drop h 0 (by omega)
    have := IsH_take hd c (by omega)
    simpa using this

/-- A ROW OF THE CALL'S OWN (or nil), from block base on: k sums hs. -/
def OwnH (w : World) (base : Nat) (v : Value) (k : Nat) (hs : List (List UInt8)) : Prop :=
  w.ownsRow base 27 32 v k (bcs hs.flatten) ∧ hs.length = k ∧ ∀ h ∈ hs, h.length = 32
theorem OwnH.nil (w : World) (base : Nat) : OwnH w base (.slice none 0 0) 0 [] := ⟨⟨rfl, .inl ⟨rfl, rfl⟩⟩, rfl, by simp⟩
theorem OwnH.alloc {w : World} {base : Nat} {v : Value} {k : Nat} {hs : List (List UInt8)} (h : OwnH w base v k hs) (o : Obj) : OwnH (w.alloc o) base v k hs := ⟨h.1.alloc o, h.2⟩
theorem OwnH.ge {w : World} {base : Nat} {v : Value} {k : Nat} {hs : List (List UInt8)} (h : OwnH w base v k hs) (g : Nat) (hg : v.ownBlock = some g) : base ≤ g := by
  obtain ⟨⟨_, ho⟩, _, _⟩ := h
  rcases ho with ⟨rfl, rfl⟩ | ⟨g', cap, cur, rfl, hg', _⟩
  · cases hg
  · cases hg
    exact hg'
theorem OwnH.past {w w' : World} {base : Nat} {v : Value} {k : Nat} {hs : List (List UInt8)} (h : OwnH w base v k hs) (hb : Below w.heap.size w w') : OwnH w' base v k hs := by
  obtain ⟨⟨hl, ho⟩, h2⟩ := h
  refine ⟨⟨hl, ?_⟩, h2⟩
  rcases ho with ho | ⟨g', cap, cur, rfl, hg', hc, hr⟩
  · exact .inl ho
  · exact .inr ⟨g', cap, cur, rfl, hg', by rw [hb.block _ (Array.getElem?_eq_some_iff.1 hc).1]; exact hc, hr⟩
theorem flat_get : ∀ (hs : List (List UInt8)) (i j : Nat), (∀ h ∈ hs, h.length = 32) → i < hs.length → j < 32 → hs.flatten[i * 32 + j]? = (hs.getD i [])[j]?
  | h :: hs, 0, j, ha, _, hj => by
    have := ha h (by simp)
    simp only [List.flatten_cons, Nat.zero_mul, Nat.zero_add, List.getD_cons_zero]
    rw [List.getElem?_append_left (by omega)]
  | h :: hs, i + 1, j, ha, hi, hj => by
    have h32 := ha h (by simp)
    simp only [List.flatten_cons, List.getD_cons_succ]
    rw [List.getElem?_append_right (by omega), h32, show (i + 1) * 32 + j - 32 = i * 32 + j by omega]
    exact flat_get hs i j (fun x hx => ha x (by simp [hx])) (by simpa using hi) hj
  | [], i, j, _, hi, _ => by simp at hi
theorem flat_length : ∀ (hs : List (List UInt8)), (∀ h ∈ hs, h.length = 32) → hs.flatten.length = hs.length * 32
  | [], _ => rfl
  | h :: hs, ha => by
    rw [List.flatten_cons, List.length_append, ha h (by simp), flat_length hs (fun x hx => ha x (by simp [hx])), List.length_cons]
    omega
theorem OwnH.isH {w : World} {base : Nat} {v : Value} {k : Nat} {hs : List (List UInt8)} (h : OwnH w base v k hs) : ∃ ao cap, v = .slice ao k cap ∧ IsH w ao k cap hs ∧ (∀ a, ao = some a → base ≤ a.block) := by
  obtain ⟨⟨hl, ho⟩, hk, ha⟩ := h
  rcases ho with ⟨rfl, rfl⟩ | ⟨g, cap, cur, rfl, hg, hc, hn, hm, hs', ht⟩
  · have : hs = [] := List.eq_nil_of_length_eq_zero hk
    subst this
    exact ⟨none, 0, rfl, IsH.nilH w, fun a h => by cases h⟩
  · refine ⟨_, cap, rfl, ⟨hk, hn, hm, fun h => (by cases h), ha, fun a e i hi j u hu => ?_⟩, fun a e => by cases e; exact hg⟩
    obtain rfl := Option.some.inj e
    have h32 : (hs.getD i []).length = 32 := by
      have : hs.getD i [] = hs[i]'(by omega) := by simp [List.getD, show i < hs.length by omega]
      rw [this]
      exact ha _ (List.getElem_mem _)
    have hj : j < 32 := by have := (List.getElem?_eq_some_iff.1 hu).1; omega
    rw [Addr.add_lit, Addr.add_lit, Nat.zero_add, cell_of_row w g _ cur _ (0, 0) hc]
    have h1 : (bcs hs.flatten)[i * 32 + j]? = some (bc u) := by rw [bcs_get, flat_get hs i j ha (by omega) hj, hu]; rfl
    rw [← ht, List.getElem?_take_of_lt (by omega)] at h1
    simpa using h1
theorem info_hash : (Tryd.prog.info? 27).map (fun i => (i.zero, i.size, i.bytes)) = some (some (.agg (bcs (List.replicate 32 0)).toArray), 32, 32) := by kernel_rfl
/-- append of some sums. -/
theorem wp_append_hs {w : World} {o : Oper} {a : Act} {K : Act → World → Prop} {Q : Exit → Act → World → Prop} (s x : Operand)
    (ho : o.op = .call { callee := .builtin .append, args := #[s, x], argTypes := #[24, 24] }) (base : Nat) (hbase : base ≤ w.heap.size)
    (v : Value) (k : Nat) (hs : List (List UInt8)) (hsv : a.eval s = v) (hown : OwnH w base v k hs) (ad : Addr) (m c : Nat) (ns : List (List UInt8)) (hx : a.eval x = .slice (some ad) m c)
    (hN : IsH w (some ad) m c ns) (hk : k + m ≤ 1000000)
    (h : ∀ v' w', OwnH w' base v' (k + m) (hs ++ ns) → w.grownBy w' v.ownBlock → K (a.put o.dst v') w') : o.wp Tryd.prog a w K Q := by
  obtain ⟨ho2, hp, ha⟩ := hown
  obtain ⟨i0, hi, hz0, hz1, hz2⟩ := info_parts info_hash
  have hfl := flat_length ns hN.all
  have hnl := hN.len
  refine wp_append_own w s x 24 ho base 27 i0 (.agg (bcs (List.replicate 32 0)).toArray) 32 32 Tryd.underlying24 hi hz0 hz1 hz2 (by simp [Value.cells, bcs_length]) (by decide) v k (bcs hs.flatten) hsv ho2 ad m c (bcs ns.flatten) hx (by rw [bcs_length, hfl, hnl]) ?_ (bcs_one _) (by unfold maxLen; omega) (by omega) hbase fun v' w' h1 h2 _ => h v' w' ⟨by rw [List.flatten_append, bcs_append]; exact h1, by simp [hp, hnl], fun y hy => ?_⟩ h2
  · intro j u hu
    rw [bcs_get] at hu
    obtain ⟨x', hx', rfl⟩ := Option.map_eq_some_iff.1 hu
    have hj : j < ns.flatten.length := (List.getElem?_eq_some_iff.1 hx').1
    have h2 := flat_get ns (j / 32) (j % 32) hN.all (by omega) (by omega)
    rw [show j / 32 * 32 + j % 32 = j by omega, hx'] at h2
    have := hN.at_ ad rfl (j / 32) (by omega) (j % 32) x' h2.symm
    rw [Addr.add_add, show j / 32 * 32 + j % 32 = j by omega] at this
    exact this
  · rcases List.mem_append.1 hy with h3 | h3
    · exact ha y h3
    · exact hN.all y h3
theorem wpList_append_hs {w : World} {ops : Array Oper} {rest : List Oper} {o : Oper} {a : Act} {Q : Exit → Act → World → Prop} (hgd : o.guard = none) (s x : Operand)
    (ho : o.op = .call { callee := .builtin .append, args := #[s, x], argTypes := #[24, 24] }) (base : Nat) (hbase : base ≤ w.heap.size)
    (v : Value) (k : Nat) (hs : List (List UInt8)) (hsv : a.eval s = v) (hown : OwnH w base v k hs) (ad : Addr) (m c : Nat) (ns : List (List UInt8)) (hx : a.eval x = .slice (some ad) m c)
    (hN : IsH w (some ad) m c ns) (hk : k + m ≤ 1000000)
    (h : ∀ v' w', OwnH w' base v' (k + m) (hs ++ ns) → w.grownBy w' v.ownBlock → wpList Tryd.prog ops Q rest (a.put o.dst v') w') : wpList Tryd.prog ops Q (o :: rest) a w :=
  wpList_plain hgd fun _ hK => wp_append_hs s x ho base hbase v k hs hsv hown ad m c ns hx hN hk fun v' w' h1 h2 => hK _ _ (h v' w' h1 h2)
theorem isH_blk {w : World} {g n : Nat} {t : TypeId} {hs : List (List UInt8)} (hb : w.heap[g]? = some (.cells (bcs hs.flatten).toArray t (0, 0))) (hl : hs.length = n) (ha : ∀ h ∈ hs, h.length = 32) (hn : n ≤ 1000000) : IsH w (some ⟨g, 0, none⟩) n n hs :=
  ⟨hl, Nat.le_refl _, by unfold maxLen; omega, (fun h => by cases h), ha, fun a e i hi j u hu => by
    obtain rfl := Option.some.inj e
    have h32 : (hs.getD i []).length = 32 := by
      have : hs.getD i [] = hs[i]'(by omega) := by simp [List.getD, show i < hs.length by omega]
      rw [this]
      exact ha _ (List.getElem_mem _)
    have hj : j < 32 := by have := (List.getElem?_eq_some_iff.1 hu).1; omega
    rw [Addr.add_lit, Addr.add_lit, Nat.zero_add, cell_of_row w g _ _ _ (0, 0) hb]
    have h1 : (bcs hs.flatten)[i * 32 + j]? = some (bc u) := by rw [bcs_get, flat_get hs i j ha (by omega) hj, hu]; rfl
    simpa using h1⟩
theorem cells_hs : ∀ hs : List (List UInt8), ((hs.map fun h => Value.agg (bcs h).toArray).flatMap fun v => v.cells.toList) = bcs hs.flatten
  | [] => rfl
  | h :: hs => by
    simp only [List.map_cons, List.flatMap_cons, List.flatten_cons, bcs_append, cells_hs hs]
    simp [Value.cells]
/-- A slice literal of sums. -/
theorem wp_buildSlice_hs {o : Oper} {a : Act} {w : World} {K : Act → World → Prop} {Q : Exit → Act → World → Prop} (len : Nat) (parts : Array (Nat × Operand)) (ho : o.op = .buildSlice 24 len parts)
    (hs : List (List UInt8)) (hl : hs.length = len) (ha : ∀ h ∈ hs, h.length = 32) (hpos : 0 < len) (hsmall : len ≤ 1000)
    (hp : (parts.map fun (i, x) => (i, a.eval x)).toList = ((hs.map fun h => Value.agg (bcs h).toArray).zipIdx 0).map fun x => (x.2, x.1))
    (hK : ∀ w', w'.heap[w.heap.size]? = some (.cells (bcs hs.flatten).toArray 27 (0, 0)) → IsH w' (some ⟨w.heap.size, 0, none⟩) len len hs → Below w.heap.size w w' → K (a.put o.dst (.slice (some ⟨w.heap.size, 0, none⟩) len len)) w') : o.wp Tryd.prog a w K Q := by
  obtain ⟨i0, hi, hz0, hz1, hz2⟩ := info_parts info_hash
  refine wp_buildSlice 24 27 len parts ho (bcs hs.flatten).toArray i0 _ Tryd.underlying24 hi hz0 (by rw [hz1]; omega) (by rw [hz1]; omega) ?_ (hK _ (heap_alloc_new w _) ?_ ((Below.refl _ _).alloc (Nat.le_refl _) _))
  · rw [hp, hz1, Great.fill_whole (by omega) _ _ (fun v hv => by obtain ⟨h, hh, rfl⟩ := List.mem_map.1 hv; simp [Value.cells, bcs_length, ha h hh]) (by simp [hl]), cells_hs]
  · exact isH_blk (heap_alloc_new w _) hl ha (by omega)
theorem wpList_buildSlice_hs {w : World} {ops : Array Oper} {rest : List Oper} {o : Oper} {a : Act} {Q : Exit → Act → World → Prop} (hgd : o.guard = none) (len : Nat) (parts : Array (Nat × Operand)) (ho : o.op = .buildSlice 24 len parts)
    (hs : List (List UInt8)) (hl : hs.length = len) (ha : ∀ h ∈ hs, h.length = 32) (hpos : 0 < len) (hsmall : len ≤ 1000)
    (hp : (parts.map fun (i, x) => (i, a.eval x)).toList = ((hs.map fun h => Value.agg (bcs h).toArray).zipIdx 0).map fun x => (x.2, x.1))
    (hK : ∀ w', w'.heap[w.heap.size]? = some (.cells (bcs hs.flatten).toArray 27 (0, 0)) → IsH w' (some ⟨w.heap.size, 0, none⟩) len len hs → Below w.heap.size w w' → wpList Tryd.prog ops Q rest (a.put o.dst (.slice (some ⟨w.heap.size, 0, none⟩) len len)) w') : wpList Tryd.prog ops Q (o :: rest) a w :=
  wpList_plain hgd fun _ hK' => wp_buildSlice_hs len parts ho hs hl ha hpos hsmall hp fun w' h1 h2 h3 => hK' _ _ (hK w' h1 h2 h3)
theorem isH_one (w : World) (t : TypeId) (l : List UInt8) (hl : l.length = 32) : IsH (w.alloc (.cells (bcs l).toArray t)) (some ⟨w.heap.size, 0, none⟩) 1 1 [l] :=
  ⟨rfl, Nat.le_refl _, by unfold maxLen; omega, (fun h => by cases h), by simp [hl], fun a ha i hi j u hu => by
    obtain rfl := Option.some.inj ha
    obtain rfl : i = 0 := by omega
    simp only [List.getD_cons_zero] at hu
    rw [Addr.add_lit, Addr.add_lit, cell_of_row _ _ _ _ t (0, 0) (heap_alloc_new w _)]
    simp [bcs, hu]⟩
theorem OwnH.step {w0 w w' : World} {B base : Nat} {v : Value} {k : Nat} {hs : List (List UInt8)} (h : OwnH w base v k hs) (hb : Below B w0 w) (hB : B ≤ w.heap.size) (hbase : B ≤ base) (g : w.grownBy w' v.ownBlock) : Below B w0 w' :=
  hb.grown g hB (fun k hk => Nat.le_trans hbase (h.ge k hk))
theorem hash_size (l : List UInt8) (hl : l.length = 32) : (Tryd.prog.info? 27).map (·.size) = some l.length := by rw [hl]; exact sizeHash
end Go.Proofs.YtpphlmbhonaglaaDoor
