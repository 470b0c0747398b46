/-
  A map keyed by ints, of elements of whatever form: told by a function ('MapG'); what a look-up, a store, a range's start and step do.
-/
import Derived.Maps.OwnSet
import Derived.Maps.RangeWalk
import Derived.Maps.Ext
namespace Go.Proofs.Ytllijeciodmckaa
open Go.RowKit Go.Maps

/-- HOW AN ELEMENT STANDS, and what it is told by. -/
structure Elm (α : Type) where
  V : Option α → Value
  D : Option α → DataW Unit
  inj : ∀ a b, V a = V b → a = b
  injD : ∀ a b, D a = D b → a = b
section
variable {α : Type} (M : Elm α)
open Classical in
noncomputable def Elm.R (v : Value) : Option (DataW Unit × List MemPlace) := if h : ∃ o, M.V o = v then some (M.D h.choose, []) else none
theorem Elm.rd (o : Option α) : M.R (M.V o) = some (M.D o, []) := by
  unfold Elm.R
  have h : ∃ o', M.V o' = M.V o := ⟨o, rfl⟩
  rw [dif_pos h, M.inj _ _ h.choose_spec]
theorem Elm.inv {v : Value} {y : DataW Unit × List MemPlace} (h : M.R v = some y) : ∃ o, v = M.V o ∧ y = (M.D o, []) := by
  unfold Elm.R at h
  split at h
  · rename_i hq
    exact ⟨_, hq.choose_spec.symm, (Option.some.inj h).symm⟩
  · cases h
/-- BLOCK b IS A MAP OF AT MOST n ENTRIES WITH THE ELEMENTS f. -/
def MapG (w : World) (P : Program) (k : TypeId) (b n : Nat) (f : Int → Option α) : Prop :=
  ∃ D, w.ownsMap P k M.R b n D ∧ ∀ x, (Lit.int .i64 x).wf = true → D.atKey (.int .i64 x) (M.D none) = M.D (f x) ∧ has D (.int .i64 x) = (f x).isSome
end
section
variable {α : Type} {M : Elm α} {w w' : World} {P : Program} {k t e : TypeId} {b n : Nat} {f : Int → Option α}
theorem same_int (x y : Int) : (Lit.int .i64 x).sameKey (.int .i64 y) = decide (x = y) := by
  unfold Lit.sameKey
  rw [Bool.eq_iff_iff]
  simp
theorem MapG.lt (h : MapG M w P k b n f) : b < w.heap.size := by
  obtain ⟨D, h, _⟩ := h
  exact h.lt
theorem MapG.mono (h : MapG M w P k b n f) {m : Nat} (hm : n ≤ m) : MapG M w P k b m f := by
  obtain ⟨D, h, hf⟩ := h
  exact ⟨D, h.mono hm, hf⟩
theorem MapG.kept (h : MapG M w P k b n f) (hb : w'.heap[b]? = w.heap[b]?) : MapG M w' P k b n f := by
  obtain ⟨D, ⟨es, clock, h1, h2⟩, hf⟩ := h
  exact ⟨D, ⟨es, clock, hb.trans h1, h2⟩, hf⟩
theorem MapG.past (h : MapG M w P k b n f) (hb : Below w.heap.size w w') : MapG M w' P k b n f := h.kept (hb.block b h.lt)
theorem MapG.congr (h : MapG M w P k b n f) {g : Int → Option α} (hg : ∀ x, f x = g x) : MapG M w P k b n g := by
  obtain rfl : f = g := funext hg
  exact h
theorem MapG.made (w : World) (P : Program) (k : TypeId) : MapG M (w.alloc (.map #[] 0)) P k w.heap.size 0 (fun _ => none) :=
  ⟨_, World.ownsMap_made w P k M.R, fun _ _ => ⟨rfl, rfl⟩⟩
/-- m[x]. -/
theorem MapG.look (h : MapG M w P k b n f) (K : Keyed P k) (hk : P.underlying k = some (.int .i64)) (ht : P.underlying t = some (.map k e)) (hz : (zeroValue e).run P w = .ok (M.V none) w) {x : Int} (hx : (Lit.int .i64 x).wf = true) :
    (Instr.lookup t (.map (some b)) (.int .i64 x) false).run P w = .ok (M.V (f x)) w := by
  obtain ⟨D, h, hf⟩ := h
  obtain ⟨v, ps, hrun, hv⟩ := h.lookup K ht hz (M.rd none) (keyOf_int_mk hk hx)
  obtain ⟨o, rfl, ho⟩ := M.inv hv
  rw [(hf x hx).1] at ho
  have := M.injD _ _ (congrArg Prod.fst ho)
  rw [← this] at hrun
  exact hrun
/-- m[x] = o. -/
theorem MapG.upd (h : MapG M w P k b n f) (K : Keyed P k) (hk : P.underlying k = some (.int .i64)) (ht : P.underlying t = some (.map k e)) (hn : n < maxLen) {x : Int} (hx : (Lit.int .i64 x).wf = true) (o : α) :
    ∃ w', (Instr.mapUpdate t (.map (some b)) (.int .i64 x) (M.V (some o))).run P w = .ok () w' ∧ MapG M w' P k b (n + 1) (fun y => if y = x then some o else f y) ∧ w.grownBy w' (some b) ∧ w'.heap.size = w.heap.size := by
  obtain ⟨D, h, hf⟩ := h
  obtain ⟨w', hrun, h', hg⟩ := h.store K ht hn (keyOf_int_mk hk hx) (M.rd (some o))
  refine ⟨w', hrun, ⟨_, h', fun y hy => ?_⟩, hg.grown, ?_⟩
  · have hkx : WideAt.IsKeyLit (.int .i64 x) := K.key (keyOf_int_mk hk hx)
    by_cases e : y = x
    · subst e
      show _ = M.D (if _ then _ else _) ∧ _ = (if _ then _ else _ : Option α).isSome
      rw [if_pos rfl]
      exact ⟨atKey_put_same h.isMap hkx _ _, has_put_same h.isMap hkx _⟩
    · show _ = M.D (if _ then _ else _) ∧ _ = (if _ then _ else _ : Option α).isSome
      rw [if_neg e]
      have hne : Lit.int .i64 y ≠ .int .i64 x := fun q => e (by cases q; rfl)
      rw [atKey_put_other hne, has_put_other hne]
      exact hf y hy
  · obtain ⟨es, c, es', c', _, rfl⟩ := hg
    simp [Go.ChangeMaps.setBlock]
variable {ops : Array Oper} {rest : List Oper} {o : Oper} {a : Act} {Q : Exit → Act → World → Prop}
theorem wpList_look_g (hg : o.guard = none) (m y : Operand) (t : TypeId) (hop : o.op = Op.lookup t m y false) (k e : TypeId) (K : Keyed P k) (hk : P.underlying k = some (.int .i64)) (ht : P.underlying t = some (.map k e))
    (hz : (zeroValue e).run P w = .ok (M.V none) w) (b n : Nat) (f : Int → Option α) (hm : a.eval m = .map (some b)) (h : MapG M w P k b n f) (x : Int) (hy : a.eval y = .int .i64 x) (hx : (Lit.int .i64 x).wf = true)
    (hK : wpList P ops Q rest (a.put o.dst (M.V (f x))) w) : wpList P ops Q (o :: rest) a w := by
  refine wpList_plain hg fun K' hK' => ?_
  have hrun := h.look K hk ht hz hx
  unfold Oper.wp
  simp [execOp, hop, hm, hy, hrun, Result.andThen]
  exact hK' _ _ hK
theorem wpList_look_v (hg : o.guard = none) (m y : Operand) (t : TypeId) (hop : o.op = Op.lookup t m y false) (k e : TypeId) (K : Keyed P k) (hk : P.underlying k = some (.int .i64)) (ht : P.underlying t = some (.map k e))
    (hz : (zeroValue e).run P w = .ok (M.V none) w) (b n : Nat) (f : Int → Option α) (hm : a.eval m = .map (some b)) (h : MapG M w P k b n f) (x : Int) (hy : a.eval y = .int .i64 x) (hx : (Lit.int .i64 x).wf = true) (v : Value) (hv : M.V (f x) = v)
    (hK : wpList P ops Q rest (a.put o.dst v) w) : wpList P ops Q (o :: rest) a w := by
  subst hv
  exact wpList_look_g hg m y t hop k e K hk ht hz b n f hm h x hy hx hK
theorem wpList_upd_g (hg : o.guard = none) (m y v : Operand) (t : TypeId) (hop : o.op = Op.mapUpdate t m y v) (k e : TypeId) (K : Keyed P k) (hk : P.underlying k = some (.int .i64)) (ht : P.underlying t = some (.map k e))
    (b n : Nat) (f : Int → Option α) (hm : a.eval m = .map (some b)) (h : MapG M w P k b n f) (hn : n < maxLen) (x : Int) (hy : a.eval y = .int .i64 x) (hx : (Lit.int .i64 x).wf = true) (z : α) (hv : a.eval v = M.V (some z))
    (hK : ∀ w', MapG M w' P k b (n + 1) (fun y => if y = x then some z else f y) → w.grownBy w' (some b) → w'.heap.size = w.heap.size → wpList P ops Q rest (a.put o.dst undef) w') : wpList P ops Q (o :: rest) a w := by
  refine wpList_plain hg fun K' hK' => ?_
  obtain ⟨w', hrun, r1, r2, r3⟩ := h.upd (M := M) K hk ht hn hx z
  unfold Oper.wp
  simp [execOp, hop, hm, hy, hv, hrun, Result.andThen]
  exact hK' _ _ (hK w' r1 r2 r3)
theorem wp_look_v {K : Act → World → Prop} (m y : Operand) (t : TypeId) (hop : o.op = Op.lookup t m y false) (k e : TypeId) (Ky : Keyed P k) (hk : P.underlying k = some (.int .i64)) (ht : P.underlying t = some (.map k e))
    (hz : (zeroValue e).run P w = .ok (M.V none) w) (b n : Nat) (f : Int → Option α) (hm : a.eval m = .map (some b)) (h : MapG M w P k b n f) (x : Int) (hy : a.eval y = .int .i64 x) (hx : (Lit.int .i64 x).wf = true) (v : Value) (hv : M.V (f x) = v)
    (hK : K (a.put o.dst v) w) : o.wp P a w K Q := by
  subst hv
  have hrun := h.look Ky hk ht hz hx
  unfold Oper.wp
  simp [execOp, hop, hm, hy, hrun, Result.andThen]
  exact hK
theorem wp_upd_g {K : Act → World → Prop} (m y v : Operand) (t : TypeId) (hop : o.op = Op.mapUpdate t m y v) (k e : TypeId) (Ky : Keyed P k) (hk : P.underlying k = some (.int .i64)) (ht : P.underlying t = some (.map k e))
    (b n : Nat) (f : Int → Option α) (hm : a.eval m = .map (some b)) (h : MapG M w P k b n f) (hn : n < maxLen) (x : Int) (hy : a.eval y = .int .i64 x) (hx : (Lit.int .i64 x).wf = true) (z : α) (hv : a.eval v = M.V (some z))
    (hK : ∀ w', MapG M w' P k b (n + 1) (fun y => if y = x then some z else f y) → w.grownBy w' (some b) → w'.heap.size = w.heap.size → K (a.put o.dst undef) w') : o.wp P a w K Q := by
  obtain ⟨w', hrun, r1, r2, r3⟩ := h.upd (M := M) Ky hk ht hn hx z
  unfold Oper.wp
  simp [execOp, hop, hm, hy, hv, hrun, Result.andThen]
  exact hK w' r1 r2 r3
/-- A RANGE UNDER WAY: 'left x': is the entry at x still to come? -/
def RngG (M : Elm α) (w : World) (P : Program) (k : TypeId) (b r n : Nat) (f : Int → Option α) (left : Int → Bool) (cnt : Nat) : Prop :=
  ∃ D lf, w.ranges P k M.R b r n D lf cnt ∧ (∀ x, (Lit.int .i64 x).wf = true → D.atKey (.int .i64 x) (M.D none) = M.D (f x) ∧ has D (.int .i64 x) = (f x).isSome ∧ lf (.int .i64 x) = left x)
theorem RngG.left_eq {r : Nat} {left : Int → Bool} {cnt : Nat} (h : RngG M w P k b r n f left cnt) : w.rangeLeft b r = cnt := by
  obtain ⟨D, lf, h, _⟩ := h
  exact h.left_eq
theorem wpList_range_g (hg : o.guard = none) (m : Operand) (t : TypeId) (hop : o.op = Op.range t m) (k e : TypeId) (K : Keyed P k) (ht : P.underlying t = some (.map k e)) (b n : Nat) (f : Int → Option α) (hm : a.eval m = .map (some b)) (h : MapG M w P k b n f)
    (hK : ∀ w' cnt, RngG M w' P k b w.heap.size n f (fun x => (f x).isSome) cnt → w.grownBy w' none → w'.heap.size = w.heap.size + 1 → wpList P ops Q rest (a.put o.dst (.pointer (some ⟨w.heap.size, 0, none⟩))) w') :
    wpList P ops Q (o :: rest) a w := by
  obtain ⟨D, h, hf⟩ := h
  exact wpList_range_own w hg m t hop k e K ht M.R b n D hm h fun w' r1 r2 r3 => hK w' _ ⟨D, _, r1, fun x hx => ⟨(hf x hx).1, (hf x hx).2, (hf x hx).2⟩⟩ r2 r3
theorem wpList_next_g (hg : o.guard = none) (it : Operand) (hop : o.op = Op.next it false) (k : TypeId) (K : Keyed P k) (hk : P.underlying k = some (.int .i64)) (b r n : Nat) (f : Int → Option α) (left : Int → Bool) (cnt : Nat)
    (hit : a.eval it = .pointer (some ⟨r, 0, none⟩)) (h : RngG M w P k b r n f left cnt)
    (hDone : (∀ x, (Lit.int .i64 x).wf = true → left x = false) → wpList P ops Q rest (a.put o.dst (.tuple #[.bool false])) w)
    (hMore : ∀ (x : Int) (c : α) (w' : World) (cnt' : Nat), (Lit.int .i64 x).wf = true → left x = true → f x = some c → RngG M w' P k b r n f (fun z => left z && !decide (z = x)) cnt' → cnt' < cnt →
      w.grownBy w' (some r) → w'.heap.size = w.heap.size → (Instr.entry (.pointer (some ⟨r, 0, none⟩))).run P w' = .ok (.tuple #[.int .i64 x, M.V (some c)]) w' → wpList P ops Q rest (a.put o.dst (.tuple #[.bool true, .int .i64 x, M.V (some c)])) w') :
    wpList P ops Q (o :: rest) a w := by
  obtain ⟨D, lf, h, hf⟩ := h
  refine wpList_next_ranges w hg it hop k K M.R (Value.int .i64) M.V (fun key kl hkey => by obtain ⟨x, rfl, _⟩ := keyOf_int_inv hk hkey; exact ⟨x, rfl⟩) (fun v y hv => by obtain ⟨c, rfl, _⟩ := M.inv hv; exact ⟨c, rfl⟩)
    b r n D lf cnt hit h (fun _ hl => hDone fun x hx => by rw [← (hf x hx).2.2]; exact hl _) fun x c kl y w' cnt' hkey hlk hv hat hrg hlt hgr hsz hen => ?_
  obtain ⟨x', ex, rfl, hwx⟩ := keyOf_int_inv hk hkey
  cases ex
  obtain ⟨q1, q2, q3⟩ := hf x hwx
  obtain ⟨c', ec, rfl⟩ := M.inv hv
  have := M.inj _ _ ec
  subst this
  have hs : (f x).isSome = true := by rw [← q2]; exact has_true_of_atKey hat
  obtain ⟨z, hz⟩ := Option.isSome_iff_exists.1 hs
  have hc : c = some z := by
    rw [hat, hz] at q1
    exact M.injD _ _ q1
  subst hc
  refine hMore x z w' cnt' hwx (by rw [← q3]; exact hlk) hz ⟨D, _, hrg, fun y hy => ⟨(hf y hy).1, (hf y hy).2.1, ?_⟩⟩ hlt hgr hsz hen
  show (lf (.int .i64 y) && !(Lit.int .i64 y).sameKey (.int .i64 x)) = _
  rw [(hf y hy).2.2, same_int]
theorem RngG.map {r : Nat} {left : Int → Bool} {cnt : Nat} (h : RngG M w P k b r n f left cnt) : MapG M w P k b n f := by
  obtain ⟨D, lf, h, hf⟩ := h
  exact ⟨D, h.owns, fun x hx => ⟨(hf x hx).1, (hf x hx).2.1⟩⟩
end
/-- Pointers to blocks. -/
def Pt : Elm Nat where
  V | none => .pointer none | some g => .pointer (some ⟨g, 0, none⟩)
  D | none => .nil | some g => .lit (.int .i64 (g : Int))
  inj a b h := by cases a <;> cases b <;> simp_all
  injD a b h := by
    rcases a with _ | a <;> rcases b with _ | b <;> simp_all
    omega
/-- Slices, from a block's beginning on. -/
def Sl : Elm (Nat × Nat × Nat) where
  V | none => .slice none 0 0 | some (g, n, c) => .slice (some ⟨g, 0, none⟩) n c
  D | none => .nil | some (g, n, c) => .agg [.lit (.int .i64 (g : Int)), .lit (.int .i64 (n : Int)), .lit (.int .i64 (c : Int))]
  inj a b h := by
    rcases a with _ | ⟨g, n, c⟩ <;> rcases b with _ | ⟨g', n', c'⟩ <;> simp_all
  injD a b h := by
    rcases a with _ | ⟨g, n, c⟩ <;> rcases b with _ | ⟨g', n', c'⟩ <;> simp_all
    omega
end Go.Proofs.Ytllijeciodmckaa
