/-
  A record's pages: what the disk is when they are written; what stands between the rounds of the loop that writes them.
-/
import Derived.Test.YtpfhggalbdjjmaaWAdd
import Derived.Test.YtpfhggalbdjjmaaWChunk
import Derived.Test.YtpfhggalbdjjmaaWConcat
import Derived.Deep.CutRange
import Derived.Sort.CutIn
namespace Go.Proofs.Ytpfhggalbdjjmaa
open Go.RowKit Go.Shelf
attribute [local go_sem] Oper.semAt_some

/-- Part number j of bytes. -/
def chk (X : List UInt8) (j : Nat) : List UInt8 := (X.drop (64 * j)).take 64
/-- The disk when parts were written, from page p on. -/
def wrStep (X : List UInt8) (st : Dk × Nat) (x : Nat) : Dk × Nat := ((st.1.put st.2 (chk X x)).spent, st.2 + 1)
def wrF (s : Dk) (p : Nat) (X : List UInt8) (pre : List Nat) : Dk × Nat := pre.foldl (wrStep X) (s, p)
theorem wrF_snoc (s : Dk) (p : Nat) (X : List UInt8) (pre : List Nat) (x : Nat) : wrF s p X (pre ++ [x]) = wrStep X (wrF s p X pre) x := by simp [wrF]
theorem snoc_ind {α : Type} {P : List α → Prop} (h0 : P []) (h1 : ∀ pre x, P pre → P (pre ++ [x])) (l : List α) : P l := by
  have : ∀ n (l : List α), l.length = n → P l := by
    intro n
    induction n with
    | zero => intro l hl; rw [List.eq_nil_of_length_eq_zero hl]; exact h0
    | succ n ih =>
      intro l hl
      have e : l = l.take n ++ l.drop n := (List.take_append_drop n l).symm
      have h2 : (l.drop n).length = 1 := by rw [List.length_drop]; omega
      obtain ⟨x, hx⟩ := List.length_eq_one_iff.1 h2
      rw [e, hx]
      exact h1 _ _ (ih _ (by rw [List.length_take]; omega))
  exact this _ l rfl
theorem wrF_page (s : Dk) (X : List UInt8) (p : Nat) (pre : List Nat) : (wrF s p X pre).2 = p + pre.length := by
  refine snoc_ind (P := fun pre => (wrF s p X pre).2 = p + pre.length) rfl (fun pre x ih => ?_) pre
  rw [wrF_snoc]
  simp only [wrStep, ih, List.length_append, List.length_cons, List.length_nil]
  omega
theorem wrF_left (s : Dk) (X : List UInt8) (p : Nat) (pre : List Nat) : ¬ (1 ≤ s.left ∧ s.left ≤ pre.length) → (wrF s p X pre).1.left = s.left - pre.length ∧ (wrF s p X pre).1.gone = s.gone := by
  refine snoc_ind (P := fun pre => ¬ (1 ≤ s.left ∧ s.left ≤ pre.length) → (wrF s p X pre).1.left = s.left - pre.length ∧ (wrF s p X pre).1.gone = s.gone) (fun _ => by simp [wrF]) (fun pre x ih h => ?_) pre
  rw [List.length_append, List.length_cons, List.length_nil] at h
  obtain ⟨h1, h2⟩ := ih (by omega)
  rw [wrF_snoc, wrStep]
  have h3 : ((wrF s p X pre).1.put (wrF s p X pre).2 (chk X x)).left = s.left - pre.length := h1
  have h4 : ((wrF s p X pre).1.put (wrF s p X pre).2 (chk X x)).gone = s.gone := h2
  rw [spent_more (by rw [h3]; omega), List.length_append, List.length_cons, List.length_nil]
  exact ⟨by show _ - 1 = _; rw [h3]; omega, h4⟩
theorem wrF_pend (s : Dk) (X : List UInt8) (p : Nat) (pre : List Nat) : (wrF s p X pre).1.pend.length = s.pend.length + pre.length := by
  refine snoc_ind (P := fun pre => (wrF s p X pre).1.pend.length = s.pend.length + pre.length) rfl (fun pre x ih => ?_) pre
  have e : ∀ t : Dk, t.spent.pend = t.pend := fun t => by unfold Dk.spent; split <;> rfl
  rw [wrF_snoc, wrStep]
  simp only [e, Dk.put, List.length_append, List.length_cons, List.length_nil, ih]
  omega
theorem chk_is {w : World} {g m c : Nat} {X : List UInt8} (h : OwnB w 5 g m c X) (x : Nat) : IsB w (some ⟨g, 64 * x, none⟩) (min 64 (m - 64 * x)) (min 64 (m - 64 * x)) (chk X x) := by
  have hl := h.len
  refine ⟨by unfold chk; rw [List.length_take, List.length_drop, hl], Nat.le_refl _, by unfold maxLen; omega, (fun q => by cases q), fun a ha j u hu => ?_⟩
  obtain rfl := Option.some.inj ha
  rw [Addr.add_lit]
  have hj : j < 64 := by
    have := (List.getElem?_eq_some_iff.1 hu).1
    unfold chk at this
    rw [List.length_take] at this
    omega
  refine h.cell _ _ ?_
  unfold chk at hu
  rw [List.getElem?_take_of_lt hj, List.getElem?_drop] at hu
  exact hu
theorem kpB_t (b1 b2 : Nat) {A B C : World} (h : KpB b1 b2 A B) (k : KpB b1 b2 B C) : KpB b1 b2 A C := fun q hq => (k q hq).trans (h q hq)
theorem kpB_b {w : World} {b1 b2 : Nat} (h1 : b1 < w.heap.size) (h2 : b2 < w.heap.size) (W : World) (l : Nat) (o o' : Obj) (hl : w.heap.size ≤ l) (_ : W.heap[l]? = some o) (_ : o.isCells = false) (_ : o.isWalk = false) : KpB b1 b2 W (W.putObj l o') := fun q hq =>
  World.putObj_heap_other (by rcases hq with rfl | rfl <;> omega)
/-- What stands between two rounds. -/
def TRec (S : Nat → Prop) (b2 b3 q : Nat) : Prop := S q ∨ q = b2 ∨ q = b3
def IRec (w8 : World) (d n : Nat) (S : Nat → Prop) (b2 b3 : Nat) (s : Dk) (p : Nat) (X : List UInt8) (pre : List Nat) (W : World) : Prop :=
  ∃ S', IsD W d n S' (wrF s p X pre).1 ∧ Ext w8 S S' ∧ Kp w8 W (TRec S b2 b3) ∧ One W b3 (.int .i64 (p + pre.length : Nat)) 3 ∧ One W b2 (.int .i64 0) 25 ∧ ¬ (1 ≤ s.left ∧ s.left ≤ pre.length)
/-- What stands when the power is gone. -/
def IxRec (w8 : World) (d n : Nat) (S : Nat → Prop) (b2 b3 : Nat) (s : Dk) (p : Nat) (X : List UInt8) (c : Code) (pre : List Nat) (W : World) : Prop :=
  c = .ret ∧ ∃ S', IsD W d n S' (wrF s p X pre).1 ∧ Ext w8 S S' ∧ Kp w8 W (TRec S b2 b3) ∧ One W b2 (.int .i64 15) 25 ∧ (1 ≤ s.left ∧ s.left = pre.length)
theorem IsD.cells {w : World} {d n : Nat} {S : Nat → Prop} {s : Dk} (h : IsD w d n S s) : ∀ q, S q → ∃ cs t z, w.heap[q]? = some (.cells cs t z) := by
  obtain ⟨L, K, ao, m, c, h, hs⟩ := h
  intro q hq
  rcases (hs q).1 hq with rfl | rfl | rfl | hq
  · exact ⟨_, _, _, h.blk⟩
  · obtain ⟨cur, hc, _⟩ := h.last.row; exact ⟨_, _, _, hc⟩
  · obtain ⟨cur, hc, _⟩ := h.kept.row; exact ⟨_, _, _, hc⟩
  · rcases h.pend.either with ⟨rfl, _⟩ | ⟨g, rfl, o, _⟩
    · cases hq
    · cases hq
      obtain ⟨cur, hc, _⟩ := o.row; exact ⟨_, _, _, hc⟩
/-- A block that is no cells may turn. -/
theorem nc_far {W : World} {row : Option Nat} {q : Nat} (hr : ∀ r, row = some r → ∃ o : Obj, W.heap[r]? = some o ∧ o.isCells = false) (hq : ∃ cs t z, W.heap[q]? = some (.cells cs t z)) : row ≠ some q := fun e => by
  obtain ⟨o, ho, hc⟩ := hr q e
  obtain ⟨cs, t, z, h⟩ := hq
  rw [h] at ho
  cases ho
  cases hc
theorem IsD.turned {W W' : World} {row : Option Nat} {d n : Nat} {S : Nat → Prop} {s : Dk} (h : IsD W d n S s) (hg : W.grownBy W' row) (hr : ∀ r, row = some r → ∃ o : Obj, W.heap[r]? = some o ∧ o.isCells = false) : IsD W' d n S s :=
  h.kp (Kp.ofGrown (S := fun q => row = some q) hg (fun _ e => e)) (fun q hq => nc_far hr (h.cells q hq))
theorem One.turned {W W' : World} {row : Option Nat} {b : Nat} {v : Value} {t : TypeId} (h : One W b v t) (hg : W.grownBy W' row) (hr : ∀ r, row = some r → ∃ o : Obj, W.heap[r]? = some o ∧ o.isCells = false) : One W' b v t :=
  h.kp (Kp.ofGrown (S := fun q => row = some q) hg (fun _ e => e)) (nc_far hr ⟨_, _, _, h⟩)
theorem Kp.turned {w W W' : World} {row : Option Nat} {T : Nat → Prop} (h : Kp w W T) (hg : W.grownBy W' row) (hr : ∀ r, row = some r → w.heap.size ≤ r) : Kp w W' T :=
  h.trans (Kp.ofGrown (S := fun q => row = some q) hg (fun _ e => e)) (fun q hq e => by have := hr q e; omega)
theorem Kp.others {W W' : World} {S' : Nat → Prop} (h : Kp W W' S') (hc : ∀ q, S' q → ∃ cs t z, W.heap[q]? = some (.cells cs t z)) : KeepsOthers W W' :=
  ⟨h.size, fun k o hk ho => by
    have hn : ¬ S' k := fun q => by
      obtain ⟨cs, t, z, e⟩ := hc k q
      rw [e] at hk
      cases hk
      cases ho
    rw [h.block k (Array.getElem?_eq_some_iff.1 hk).1 hn]
    exact hk⟩
/-- The disk gone on by one part: all that a round leaves, but for its own store. -/
theorem rec_step {w8 W W3 : World} {d n : Nat} {S S' S3 : Nat → Prop} {b2 b3 : Nat} {s' : Dk} {v3 v2 : Value} (DW : IsD W d n S' s') (eW : Ext w8 S S') (kW : Kp w8 W (TRec S b2 b3))
    (w3c : One W b3 v3 3) (w2c : One W b2 v2 25) (k3 : Kp W.drew W3 S') (e3 : Ext W.drew S' S3) (h2 : b2 < w8.heap.size) (h3 : b3 < w8.heap.size) (n2 : ¬ S b2) (n3 : ¬ S b3) :
    KeepsOthers W W3 ∧ Kp W W3 S' ∧ Ext w8 S S3 ∧ Kp w8 W3 (TRec S b2 b3) ∧ One W3 b3 v3 3 ∧ One W3 b2 v2 25 := by
  have K3 : Kp W W3 S' := (Kp.drew W S').trans k3 (fun _ _ q => q)
  have far : ∀ b, b < w8.heap.size → ¬ S b → ¬ S' b := fun b hb hn q => by rcases eW b q with h | h; exact hn h; omega
  have hs := kW.size
  refine ⟨K3.others DW.cells, K3, fun q hq => ?_, kW.trans K3 (fun q hq h => ?_), w3c.kp K3 (far b3 h3 n3), w2c.kp K3 (far b2 h2 n2)⟩
  · rcases e3 q hq with h | h
    · exact eW q h
    · exact .inr (Nat.le_trans hs h)
  · rcases eW q h with h | h
    · exact .inl h
    · omega
/-- What stands when the loop is left. -/
theorem rec_end {w w8 W : World} {d n D : Nat} {S S' : Nat → Prop} {b2 b3 : Nat} {s' : Dk} {v : Value} (B9 : Below w.heap.size w w8) (DW : IsD W d n S' s') (eW : Ext w8 S S') (kW : Kp w8 W (TRec S b2 b3)) (w2c : One W b2 v 25)
    (hD : w8.heap.size ≤ D) (hK : W.heap[D]? = some (.deferred (some []))) (h2 : w.heap.size ≤ b2) (h3 : w.heap.size ≤ b3) :
    IsD (W.putObj D (.deferred none)) d n S' s' ∧ Kp w (W.putObj D (.deferred none)) S ∧ Ext w S S' ∧ (W.putObj D (.deferred none)).cell? ⟨b2, 0, none⟩ = some v := by
  have hr : ∀ r, some D = some r → ∃ o : Obj, W.heap[r]? = some o ∧ o.isCells = false := fun r e => by cases e; exact ⟨_, hK, rfl⟩
  have hg := grownBy_putObj' W D (.deferred none)
  have k0 : Kp w W S := (Kp.ofBelow B9 S).trans kW (fun q hq h => by rcases h with h | h | h; exact h; omega; omega)
  refine ⟨DW.turned hg hr, k0.turned hg (fun r e => by cases e; exact Nat.le_trans B9.size hD), fun q hq => ?_, (w2c.turned hg hr).c⟩
  rcases eW q hq with h | h
  · exact .inl h
  · exact .inr (Nat.le_trans B9.size h)
/-- One part is written. -/
def RStep (W W3 : World) (d n : Nat) (S' : Nat → Prop) (s' : Dk) (p : Nat) (b : List UInt8) (v : Value) : Prop :=
  v = .int .i64 s'.code ∧ ∃ S3, IsD W3 d n S3 (s'.put p b).spent ∧ Kp W.drew W3 S' ∧ Ext W.drew S' S3
theorem irec_own (w8 : World) (d n : Nat) (S : Nat → Prop) (b2 b3 : Nat) (s : Dk) (p : Nat) (X : List UInt8) : OwnFrom w8.heap.size (IRec w8 d n S b2 b3 s p X) := by
  rintro pre W W' row ⟨S', h1, h2, h3, h4, h5, h6⟩ hg hr
  have hr2 := fun r e => (hr r e).2
  exact ⟨S', h1.turned hg hr2, h2, h3.turned hg (fun r e => (hr r e).1), h4.turned hg hr2, h5.turned hg hr2, h6⟩
theorem ixrec_own (w8 : World) (d n : Nat) (S : Nat → Prop) (b2 b3 : Nat) (s : Dk) (p : Nat) (X : List UInt8) (c : Code) : OwnFrom w8.heap.size (IxRec w8 d n S b2 b3 s p X c) := by
  rintro pre W W' row ⟨rfl, S', h1, h2, h3, h4, h5⟩ hg hr
  have hr2 := fun r e => (hr r e).2
  exact ⟨rfl, S', h1.turned hg hr2, h2, h3.turned hg (fun r e => (hr r e).1), h4.turned hg hr2, h5⟩
/-- What stands behind the read. -/
def Mid2 (w w5 : World) (b1 b2 b3 a d p zz : Nat) (bo : Option Addr) (bn bc : Nat) (k : Int) (n : Nat) (S : Nat → Prop) (s : Dk) (v4 v5 : Value) : Prop :=
  v5 = .int .i64 0 ∧ ∃ g5, v4 = .slice (some ⟨g5, 0, none⟩) 64 64 ∧ OwnB w5 5 g5 64 64 (s.pg p) ∧ One w5 b1 (.pointer (some ⟨a, 0, none⟩)) 128 ∧ One w5 b2 (.int .i64 0) 25 ∧ One w5 b3 (.int .i64 p) 3 ∧
    AddAt w5 a d zz bo bn bc k ∧ IsD w5 d n S s ∧ Below w.heap.size w w5
/-- THE RECORD'S PAGES ARE WRITTEN, all of them, or those up to the one at which the power goes. -/
def RecIs (w : World) (d n : Nat) (S : Nat → Prop) (s : Dk) (p : Nat) (X : List UInt8) (e : Ending) (w' : World) : Prop :=
  ∃ (m : Nat) (x : Int), m ≤ chN X.length ∧ WentD w d n S x (wrF s p X (List.range m)).1 e w' ∧ ((x = 0 ∧ m = chN X.length ∧ ¬ (1 ≤ s.left ∧ s.left ≤ m)) ∨ (x = 15 ∧ 1 ≤ s.left ∧ s.left = m))
end Go.Proofs.Ytpfhggalbdjjmaa
