/-
  ledger: close (by gen_lgx.py).
-/
import Derived.Test.YtdmnjjknkcnkgaaDoorLgW
namespace Go.Proofs.YtdmnjjknkcnkgaaDoor
open Go.RowKit
set_option linter.unusedSimpArgs false
/-- All below B, and block t, stand as they stood, but for block g. -/
structure SameB (B t g : Nat) (w w' : World) : Prop where
  le : w.heap.size ≤ w'.heap.size
  hB : B ≤ w'.heap.size
  ht : t < w'.heap.size
  same : ∀ k, k < B ∨ k = t → k ≠ g → w'.heap[k]? = w.heap[k]?
section
variable {B t g : Nat} {w w' w2 : World}
theorem SameB.refl (g : Nat) (h : B ≤ w.heap.size) (ht : t < w.heap.size) : SameB B t g w w := ⟨Nat.le_refl _, h, ht, fun _ _ _ => rfl⟩
theorem SameB.past (h : SameB B t g w w') (b : Below w'.heap.size w' w2) : SameB B t g w w2 := ⟨Nat.le_trans h.le b.size, Nat.le_trans h.hB b.size, Nat.lt_of_lt_of_le h.ht b.size, fun k hk hn => (b.block k (hk.elim (fun h1 => Nat.lt_of_lt_of_le h1 h.hB) (fun h1 => h1 ▸ h.ht))).trans (h.same k hk hn)⟩
theorem SameB.row {row : Option Nat} (h : SameB B t g w w') (b : w'.grownBy w2 row) (hr : ∀ r, row = some r → B ≤ r ∧ r ≠ t) : SameB B t g w w2 := ⟨Nat.le_trans h.le b.size, Nat.le_trans h.hB b.size, Nat.lt_of_lt_of_le h.ht b.size, fun k hk hn => (b.block k (hk.elim (fun h1 => Nat.lt_of_lt_of_le h1 h.hB) (fun h1 => h1 ▸ h.ht)) (fun e => by have := hr k e.symm; omega)).trans (h.same k hk hn)⟩
theorem SameB.grown (h : SameB B t g w w') (b : w'.grownBy w2 (some g)) : SameB B t g w w2 := ⟨Nat.le_trans h.le b.size, Nat.le_trans h.hB b.size, Nat.lt_of_lt_of_le h.ht b.size, fun k hk hn => (b.block k (hk.elim (fun h1 => Nat.lt_of_lt_of_le h1 h.hB) (fun h1 => h1 ▸ h.ht)) (fun e => hn (Option.some.inj e))).trans (h.same k hk hn)⟩
theorem SameB.trans (h : SameB B t g w w') (k : SameB B t g w' w2) : SameB B t g w w2 := ⟨Nat.le_trans h.le k.le, k.hB, k.ht, fun j hj hn => (k.same j hj hn).trans (h.same j hj hn)⟩
end
/-- A ledger whose rows are the call's own. -/
def LgX (w : World) (B t : Nat) (oa : Option Addr) (on oc : Nat) (ba : Option Addr) (bn bc : Nat) (ta : Option Addr) (tn tc : Nat) (L : Lgr) : Prop := ∃ Qo Qb Qt bo bb bt, LgO w B Qo Qb Qt oa on oc ba bn bc ta tn tc bo bb bt L ∧ t < w.heap.size ∧ ¬ Qo t ∧ ¬ Qb t ∧ ¬ Qt t
section
variable {w w' : World} {B t : Nat} {oa : Option Addr} {on oc : Nat} {ba : Option Addr} {bn bc : Nat} {ta : Option Addr} {tn tc : Nat} {L : Lgr}
theorem LgX.past (h : LgX w B t oa on oc ba bn bc ta tn tc L) (b : Below w.heap.size w w') : LgX w' B t oa on oc ba bn bc ta tn tc L := by
  obtain ⟨Qo, Qb, Qt, bo, bb, bt, h, ht, n1, n2, n3⟩ := h
  exact ⟨_, _, _, _, _, _, h.past b, Nat.lt_of_lt_of_le ht b.size, n1, n2, n3⟩
theorem LgX.grown {g : Nat} (h : LgX w B t oa on oc ba bn bc ta tn tc L) (k : w.grownBy w' (some g)) (hg : g < B) : LgX w' B t oa on oc ba bn bc ta tn tc L := by
  obtain ⟨Qo, Qb, Qt, bo, bb, bt, h, ht, n1, n2, n3⟩ := h
  exact ⟨_, _, _, _, _, _, h.grown k hg, Nat.lt_of_lt_of_le ht k.size, n1, n2, n3⟩
theorem LgX.r (h : LgX w B t oa on oc ba bn bc ta tn tc L) : LgR w (FrG B) oa on oc ba bn bc ta tn tc L := by
  obtain ⟨Qo, Qb, Qt, bo, bb, bt, h, ht, n1, n2, n3⟩ := h
  exact h.r
theorem LgX.rowB (h : LgX w B t oa on oc ba bn bc ta tn tc L) : TxtR EBk w 79 B ba bn bc L.bl := by
  obtain ⟨Qo, Qb, Qt, bo, bb, bt, h, ht, n1, n2, n3⟩ := h
  have e : bb = L.bl := lists_eq (β := Blk) h.bl.rd.1 h.bl.rd.2
  have hr := h.bl.row
  rw [e] at hr
  exact ⟨hr.either.imp id fun ⟨g, h1, h2, _⟩ => ⟨g, h1, h2, (h.gb g (h.bl.frm g (by rw [h1]; rfl))).1⟩⟩
/-- A block was put behind the others. -/
theorem LgX.appB {b : Blk} {g' c' : Nat} (h : LgX w B t oa on oc ba bn bc ta tn tc L) (hB : B ≤ w.heap.size) (o' : TxtR EBk w' 79 B (some ⟨g', 0, none⟩) (bn + 1) c' (L.bl ++ [b])) (g : w.grownBy w' (blk ba)) (hg' : blk ba = some g' ∨ w.heap.size ≤ g') :
    LgX w' B t oa on oc (some ⟨g', 0, none⟩) (bn + 1) c' ta tn tc ⟨L.next, L.op, L.bl ++ [b], L.ts⟩ := by
  obtain ⟨Qo, Qb, Qt, bo, bb, bt, h, ht, n1, n2, n3⟩ := h
  have e : bb = L.bl := lists_eq (β := Blk) h.bl.rd.1 h.bl.rd.2
  subst e
  have o2 : TxtR DB.E w' 79 0 (some ⟨g', 0, none⟩) (bn + 1) c' ((L.bl : List DB.β) ++ [(b : DB.β)]) := o'.zero
  have hx : DB.R w (fun _ => False) (b : DB.β) b := rfl
  have h0 := TxD.app (D := DB) h.bl hx (fun _ _ h => h) o2 g hg'
  have h1 := h0.imp (Q' := fun k => Qb k ∨ (w.heap.size ≤ k ∧ k < w'.heap.size)) fun k hk hh => by
    rcases hh with hh | hh | hh
    · exact .inl hh
    · exact hh.elim
    · exact .inr ⟨hh, hk⟩
  refine ⟨Qo, _, Qt, bo, _, bt, ⟨h.op.grownO g fun r er hq => h.ob r hq (h.bl.frm r er), h1, h.ts.grownO g fun r er hq => h.bt_ r (h.bl.frm r er) hq, fun k hk hh => ?_, h.ot, fun k hh hk => ?_, fun k hk => ⟨(h.go k hk).1, Nat.lt_of_lt_of_le (h.go k hk).2 g.size⟩, fun k hh => ?_, fun k hk => ⟨(h.gt k hk).1, Nat.lt_of_lt_of_le (h.gt k hk).2 g.size⟩⟩, Nat.lt_of_lt_of_le ht g.size, n1, fun hh => hh.elim n2 (fun h9 => by omega), n3⟩
  · rcases hh with hh | hh
    · exact h.ob k hk hh
    · have := (h.go k hk).2; omega
  · rcases hh with hh | hh
    · exact h.bt_ k hh hk
    · have := (h.gt k hk).2; omega
  · rcases hh with hh | hh
    · exact ⟨(h.gb k hh).1, Nat.lt_of_lt_of_le (h.gb k hh).2 g.size⟩
    · exact ⟨Nat.le_trans hB hh.1, hh.2⟩
/-- The open ones were put behind the others: they are in no block any more. -/
theorem LgX.appT (h : LgX w B t oa on oc ba bn bc ta tn tc L) (hB : B ≤ w.heap.size) : ∃ bt : List HdR, TxtR EH w 25 B ta tn tc bt ∧ ∀ (g' c' : Nat) (w' : World), TxtR EH w' 25 B (some ⟨g', 0, none⟩) (tn + 1) c' (bt ++ [⟨oa, on, oc⟩]) → w.grownBy w' (blk ta) → (blk ta = some g' ∨ w.heap.size ≤ g') →
    LgX w' B t none 0 0 ba bn bc (some ⟨g', 0, none⟩) (tn + 1) c' ⟨L.next, [], L.bl, L.ts ++ [L.op]⟩ := by
  obtain ⟨Qo, Qb, Qt, bo, bb, bt, h, ht, n1, n2, n3⟩ := h
  refine ⟨bt, ⟨h.ts.row.either.imp id fun ⟨g, h1, h2, _⟩ => ⟨g, h1, h2, (h.gt g (h.ts.frm g (by rw [h1]; rfl))).1⟩⟩, fun g' c' w' o' g hg' => ?_⟩
  have o2 : TxtR DTs.E w' 25 0 (some ⟨g', 0, none⟩) (tn + 1) c' (List.append (α := DTs.β) bt [(⟨oa, on, oc⟩ : HdR)]) := o'.zero
  have hx : DTs.R w Qo (⟨oa, on, oc⟩ : HdR) L.op := h.op.isD
  have h0 := TxD.app (D := DTs) h.ts hx (fun z hz hq => h.ot z hq (h.ts.frm z hz)) o2 g hg'
  have h1 := h0.imp (Q' := fun k => Qt k ∨ Qo k ∨ (w.heap.size ≤ k ∧ k < w'.heap.size)) fun k hk hh => by
    rcases hh with hh | hh | hh
    · exact .inl hh
    · exact .inr (.inl hh)
    · exact .inr (.inr ⟨hh, hk⟩)
  refine ⟨fun _ => False, Qb, _, [], bb, _, ⟨TxD.nil _ _ _, h.bl.grownO g fun r er hq => h.bt_ r hq (h.ts.frm r er), h1, fun k hk => hk.elim, fun k hk => hk.elim, fun k hk hh => ?_, fun k hk => hk.elim, fun k hk => ⟨(h.gb k hk).1, Nat.lt_of_lt_of_le (h.gb k hk).2 g.size⟩, fun k hh => ?_⟩, Nat.lt_of_lt_of_le ht g.size, fun h9 => h9, n2, fun hh => hh.elim n3 (fun h9 => h9.elim n1 (fun h9 => by omega))⟩
  · rcases hh with hh | hh | hh
    · exact h.bt_ k hk hh
    · exact h.ob k hh hk
    · have := (h.gb k hk).2; omega
  · rcases hh with hh | hh | hh
    · exact ⟨(h.gt k hh).1, Nat.lt_of_lt_of_le (h.gt k hh).2 g.size⟩
    · exact ⟨(h.go k hh).1, Nat.lt_of_lt_of_le (h.go k hh).2 g.size⟩
    · exact ⟨Nat.le_trans hB hh.1, hh.2⟩
theorem LgX.lt (h : LgX w B t oa on oc ba bn bc ta tn tc L) : t < w.heap.size := by
  obtain ⟨Qo, Qb, Qt, bo, bb, bt, h, ht, n1, n2, n3⟩ := h
  exact ht
theorem LgX.neB (h : LgX w B t oa on oc ba bn bc ta tn tc L) : ∀ r, blk ba = some r → B ≤ r ∧ r ≠ t := by
  obtain ⟨Qo, Qb, Qt, bo, bb, bt, h, ht, n1, n2, n3⟩ := h
  exact fun r hr => ⟨(h.gb r (h.bl.frm r hr)).1, fun e => n2 (e ▸ h.bl.frm r hr)⟩
theorem LgX.neT (h : LgX w B t oa on oc ba bn bc ta tn tc L) : ∀ r, blk ta = some r → B ≤ r ∧ r ≠ t := by
  obtain ⟨Qo, Qb, Qt, bo, bb, bt, h, ht, n1, n2, n3⟩ := h
  exact fun r hr => ⟨(h.gt r (h.ts.frm r hr)).1, fun e => n3 (e ▸ h.ts.frm r hr)⟩
theorem LgX.rowT (h : LgX w B t oa on oc ba bn bc ta tn tc L) : ∃ bt : List HdR, TxtR EH w 25 B ta tn tc bt := by
  obtain ⟨Qo, Qb, Qt, bo, bb, bt, h, ht, n1, n2, n3⟩ := h
  exact ⟨bt, ⟨h.ts.row.either.imp id fun ⟨g, h1, h2, _⟩ => ⟨g, h1, h2, (h.gt g (h.ts.frm g (by rw [h1]; rfl))).1⟩⟩⟩
end
/-- What stands while the region's operations come up. -/
inductive LCls4 (t : Nat) (w1 : World) (B : Nat) (g : Nat) (B9 : Nat) (next : Int) (oa : Option Addr) (on : Nat) (oc : Nat) (ba : Option Addr) (bn : Nat) (bc : Nat) (ta : Option Addr) (tn : Nat) (tc : Nat) (M : Lgr) (nb : Blk) (NB : Array Value) (a0 : Act) (w0 : World) (L : Array Bool) (a : Act) (w : World) : Prop
  | mk (b0 b1 b2 b3 b4 b5 b6 b7 b8 b9 b10 b11 : Bool) (x13 x14 x15 x16 x17 x18 x19 x20 x21 x22 x23 : Value) (gs : Nat) (gq : Nat) (cq : Nat) (hL : L = #[b0, b1, b2, b3, b4, b5, b6, b7, b8, b9, b10, b11]) (ha : a = ⟨(((((((((((a0.tmps.setIfInBounds 13 x13).setIfInBounds 14 x14).setIfInBounds 15 x15).setIfInBounds 16 x16).setIfInBounds 17 x17).setIfInBounds 18 x18).setIfInBounds 19 x19).setIfInBounds 20 x20).setIfInBounds 21 x21).setIfInBounds 22 x22).setIfInBounds 23 x23), a0.defers⟩) (hb : Below B w0 w) (cd0 : Hid (b0 = true → x13 = .pointer (some ⟨g, 3, none⟩))) (cd1 : Hid (b1 = true → x14 = .pointer (some ⟨g, 3, none⟩))) (cd2 : Hid (b2 = true → x15 = .pointer (some ⟨g, 3, none⟩))) (cd3 : Hid (b3 = true → x16 = .pointer (some ⟨g, 5, none⟩))) (cd4 : Hid (b4 = true → x17 = .slice ba bn bc)) (cd5 : Hid (b5 = true → x18 = .pointer (some ⟨g, 3, none⟩))) (cd6 : Hid (b6 = true → x19 = .agg NB)) (cd7 : Hid (b7 = true → x20 = .slice (some ⟨gs, 0, none⟩) 1 1)) (cd8 : Hid (b8 = true → x21 = .slice (some ⟨gq, 0, none⟩) (bn + 1) cq)) (cd9 : Hid (b9 = true → x22 = .pointer (some ⟨g, 3, none⟩))) (cd10 : Hid (b10 = true → x23 = .pointer (some ⟨g, 5, none⟩))) (f_g : Hid (b11 = false → Bk w g (dfC 1 0 next oa on oc ba bn bc ta tn tc) 68)) (f_lo : Hid (b8 = false → LgX w B9 t oa on oc ba bn bc ta tn tc M)) (f_ls : Hid (b7 = true → b8 = false → IsR EBk w (some ⟨gs, 0, none⟩) 1 1 [nb])) (f_lo2 : Hid (b8 = true → LgX w B9 t oa on oc (some ⟨gq, 0, none⟩) (bn + 1) cq ta tn tc ⟨M.next, M.op, M.bl ++ [nb], M.ts⟩)) (f_s : Hid (b11 = true → Bk w g (dfC 1 0 next oa on oc (some ⟨gq, 0, none⟩) (bn + 1) cq ta tn tc) 68)) (f_o8 : Hid (b11 = true → b8 = true)) (f_q4 : Hid (b11 = true → b4 = true)) (f_q6 : Hid (b11 = true → b6 = true)) (f_r6 : Hid (b8 = true → b6 = true)) (f_kb : Hid (SameB B9 t g w1 w)) : LCls4 t w1 B g B9 next oa on oc ba bn bc ta tn tc M nb NB a0 w0 L a w
/-- What stands while the region's operations come up. -/
inductive LCls5 (t : Nat) (w1 : World) (B : Nat) (g : Nat) (B9 : Nat) (next : Int) (oa : Option Addr) (on : Nat) (oc : Nat) (ba4 : Option Addr) (bn4 : Nat) (cq : Nat) (ta : Option Addr) (tn : Nat) (tc : Nat) (M4 : Lgr) (a0 : Act) (w0 : World) (L : Array Bool) (a : Act) (w : World) : Prop
  | mk (b0 b1 b2 b3 b4 b5 b6 b7 b8 b9 b10 b11 b12 b13 : Bool) (x24 x25 x26 x27 x28 x29 x30 x31 x32 x33 x34 x35 x36 : Value) (gs : Nat) (gt : Nat) (ct : Nat) (hL : L = #[b0, b1, b2, b3, b4, b5, b6, b7, b8, b9, b10, b11, b12, b13]) (ha : a = ⟨(((((((((((((a0.tmps.setIfInBounds 24 x24).setIfInBounds 25 x25).setIfInBounds 26 x26).setIfInBounds 27 x27).setIfInBounds 28 x28).setIfInBounds 29 x29).setIfInBounds 30 x30).setIfInBounds 31 x31).setIfInBounds 32 x32).setIfInBounds 33 x33).setIfInBounds 34 x34).setIfInBounds 35 x35).setIfInBounds 36 x36), a0.defers⟩) (hb : Below B w0 w) (cd0 : Hid (b0 = true → x24 = .pointer (some ⟨g, 3, none⟩))) (cd1 : Hid (b1 = true → x25 = .pointer (some ⟨g, 3, none⟩))) (cd2 : Hid (b2 = true → x26 = .pointer (some ⟨g, 3, none⟩))) (cd3 : Hid (b3 = true → x27 = .pointer (some ⟨g, 6, none⟩))) (cd4 : Hid (b4 = true → x28 = .slice ta tn tc)) (cd5 : Hid (b5 = true → x29 = .pointer (some ⟨g, 3, none⟩))) (cd6 : Hid (b6 = true → x30 = .pointer (some ⟨g, 3, none⟩))) (cd7 : Hid (b7 = true → x31 = .pointer (some ⟨g, 4, none⟩))) (cd8 : Hid (b8 = true → x32 = .slice oa on oc)) (cd9 : Hid (b9 = true → x33 = .slice (some ⟨gs, 0, none⟩) 1 1)) (cd10 : Hid (b10 = true → x34 = .slice (some ⟨gt, 0, none⟩) (tn + 1) ct)) (cd11 : Hid (b11 = true → x35 = .pointer (some ⟨g, 3, none⟩))) (cd12 : Hid (b12 = true → x36 = .pointer (some ⟨g, 6, none⟩))) (f_g : Hid (b13 = false → Bk w g (dfC 1 0 next oa on oc ba4 bn4 cq ta tn tc) 68)) (f_lo : Hid (b10 = false → LgX w B9 t oa on oc ba4 bn4 cq ta tn tc M4)) (f_ls : Hid (b9 = true → b10 = false → IsR EH w (some ⟨gs, 0, none⟩) 1 1 [⟨oa, on, oc⟩])) (f_lo2 : Hid (b10 = true → LgX w B9 t none 0 0 ba4 bn4 cq (some ⟨gt, 0, none⟩) (tn + 1) ct ⟨M4.next, [], M4.bl, M4.ts ++ [M4.op]⟩)) (f_s : Hid (b13 = true → Bk w g (dfC 1 0 next oa on oc ba4 bn4 cq (some ⟨gt, 0, none⟩) (tn + 1) ct) 68)) (f_o8 : Hid (b13 = true → b10 = true)) (f_q4 : Hid (b13 = true → b4 = true)) (f_q8 : Hid (b13 = true → b8 = true)) (f_kb : Hid (SameB B9 t g w1 w)) : LCls5 t w1 B g B9 next oa on oc ba4 bn4 cq ta tn tc M4 a0 w0 L a w
theorem Bk.past9 {w w' : World} {g B : Nat} {cs : Array Value} {t : TypeId} (h : Bk w g cs t) (b : Below B w w') (hg : g < B) : Bk w' g cs t := (b.block g hg).trans h
theorem blk_i : ∃ i z, Tryd.prog.info? 79 = some i ∧ i.zero = some z ∧ i.size = 66 := by
  obtain ⟨i, h1, h2, h3, h4⟩ := info_parts blk_info
  exact ⟨i, _, h1, h2, h3⟩
theorem blk_row {w : World} {g : Nat} {nb : Blk} {CL : List Value} (h : w.heap[g]? = some (.cells CL.toArray 79 (0, 0))) (hc : CL = nb.cs) : IsR EBk w (some ⟨g, 0, none⟩) 1 1 [nb] :=
  (OwnR.ofBlk (E := EBk) (l := [nb]) (n := 1) h (by rw [hc]; simp [Enc.all]; rfl) rfl (by omega)).isR
/-- What own answers, and what then stands. -/
def OwnAt (w : World) (g B t : Nat) (next : Int) (on bn tn : Nat) (L : Lgr) (e : Ending) (w' : World) : Prop :=
  ∃ oa oc ba bc ta tc, e = .returned (.pointer (some ⟨g, 3, none⟩)) ∧ Bk w' g (dfC 1 0 next oa on oc ba bn bc ta tn tc) 68 ∧ LgX w' B t oa on oc ba bn bc ta tn tc L ∧ Below g w w' ∧ B ≤ w'.heap.size ∧ SameB B t g w w'
/-- A block is closed: what then stands. -/
def ClosedIs (w : World) (g B t : Nat) (next : Int) (M : Lgr) (e : Ending) (w' : World) : Prop :=
  ∃ oa on oc ba bn bc ta tn tc, e = .returned (.int .i64 0) ∧ Bk w' g (dfC 1 0 next oa on oc ba bn bc ta tn tc) 68 ∧ LgX w' B t oa on oc ba bn bc ta tn tc ⟨M.next, [], M.bl ++ [newB M], M.ts ++ [M.op]⟩ ∧ Below g w w' ∧ B ≤ w'.heap.size ∧ SameB B t g w w'
theorem size9 {B : Nat} {w w' : World} (h : Below B w w') : w.heap.size ≤ w'.heap.size := h.size
theorem hd_one (w : World) (t : TypeId) (x : HdR) : IsR EH (w.alloc (.cells #[.slice x.a x.n x.c] t)) (some ⟨w.heap.size, 0, none⟩) 1 1 [x] := (OwnR.ofBlk (E := EH) (l := [x]) (n := 1) (heap_alloc_new w _) rfl rfl (by omega)).isR
set_option maxRecDepth 100000 in
set_option maxHeartbeats 2000000 in
theorem dclose_some (w : World) (g B9 t : Nat) (hCg : ∀ w', Below g w w' → RC w') (dn next : Int) (oa0 : Option Addr) (on oc0 : Nat) (ba0 : Option Addr) (bn bc0 : Nat) (ta0 : Option Addr) (tn tc0 : Nat) (M : Lgr) (X : Bk w g (dfC dn 0 next oa0 on oc0 ba0 bn bc0 ta0 tn tc0) 68) (hgB : g < B9) (hon : 0 < on) (HO : Calls Tryd.prog 15 #[.pointer (some ⟨g, 0, none⟩)] w (OwnAt w g B9 t next on bn tn M)) (hL : LgOk M) :
    Calls Tryd.prog 16 #[.pointer (some ⟨g, 0, none⟩)] w (ClosedIs w g B9 t next M) := by
  have hon2 : ¬ (on = 0) := by omega
  obtain ⟨c3, c4, c5, c6⟩ := df_cells X
  go_enter Tryd.func16, Tryd.ntmps16
  go_upto_region 4 with (go_at_call 15; refine HO.mono ?_; rintro e w1 ⟨oa, oc, ba, bc, ta, tc, rfl, hX, hLo, b1, hBw, hK1⟩)
  clear c3 c4 c5 c6 X HO
  obtain ⟨nb, hnb⟩ : ∃ b, newB M = b := ⟨_, rfl⟩
  obtain ⟨CL, hCL⟩ : ∃ c, nb.cs = c := ⟨_, rfl⟩
  obtain ⟨NB, hNB⟩ : ∃ c, CL.toArray = c := ⟨_, rfl⟩
  have HCN := Lib.hid hCL.symm
  have HNB := Lib.hid hNB
  have HNN := Lib.hid hnb
  have HC66 : Hid (CL.length = 66) := Lib.hid (by rw [← hCL]; exact nb.cs_len)
  have HBl : ∀ w', Below g w1.drew w' → Bk w' g (dfC 1 0 next oa on oc ba bn bc ta tn tc) 68 → LgX w' B9 t oa on oc ba bn bc ta tn tc M → Calls Tryd.prog 31 #[.pointer (some ⟨g, 3, none⟩)] w' fun e w'' => e = .returned (.agg NB) ∧ Below w'.heap.size w' w'' := fun w' hb hX' hL' => by
    have h := dblock_any w' (hCg w' (b1.trans ((Below.refl _ _).drew.trans hb))) _ g 1 0 next oa on oc ba bn bc ta tn tc M hX' hL'.r hL
    rwa [hnb, hCL, hNB] at h
  have hB0 : g ≤ w1.heap.size := by omega
  have hbn : M.bl.length = bn := hLo.r.bl.len
  have htn : M.ts.length = tn := hLo.r.ts.len
  have hbl2 := hL.bl
  have hts2 := hL.ts
  have hM0 : newB M = nb := hnb
  clear hnb hCL hNB
  go_upto_region 4 with fail
  refine region_inv (LCls4 t w1 g g B9 next oa on oc ba bn bc ta tn tc M nb NB) (by kernel_rfl) (by kernel_rfl) ?_ ?_ ?_
  · exact ⟨false, false, false, false, false, false, false, false, false, false, false, false, undef, undef, undef, undef, undef, undef, undef, undef, undef, undef, undef, 0, 0, 0, rfl, (by simp only [Act.put, List.setIfInBounds_toArray, List.set_cons_zero, List.set_cons_succ]), Below.refl _ _, (fun h => by cases h), (fun h => by cases h), (fun h => by cases h), (fun h => by cases h), (fun h => by cases h), (fun h => by cases h), (fun h => by cases h), (fun h => by cases h), (fun h => by cases h), (fun h => by cases h), (fun h => by cases h), (fun h1 => hX.past (Below.refl _ _).drew), (fun h1 => hLo.past (Below.refl _ _).drew), (fun h => by cases h), (fun h => by cases h), (fun h => by cases h), (fun h => by cases h), (fun h => by cases h), (fun h => by cases h), (fun h => by cases h), ((SameB.refl g hBw hK1.ht).past (Below.refl _ _).drew)⟩
  · refine ⟨?_, ?_, ?_, ?_, ?_, ?_, ?_, ?_, ?_, ?_, ?_, ?_, trivial⟩
    · rintro L a w ⟨b0, b1, b2, b3, b4, b5, b6, b7, b8, b9, b10, b11, x13, x14, x15, x16, x17, x18, x19, x20, x21, x22, x23, gs, gq, cq, rfl, rfl, hb, cd0, cd1, cd2, cd3, cd4, cd5, cd6, cd7, cd8, cd9, cd10, f_g, f_lo, f_ls, f_lo2, f_s, f_o8, f_q4, f_q6, f_r6, f_kb⟩ hf hd
      have hf' : b0 = false := hf
      subst hf'
      clear hf hd
      have W_kb := f_kb.out
      try simp only [List.setIfInBounds_toArray, List.set_cons_zero, List.set_cons_succ]
      intro K hK
      rw [if_pos (by rfl)]
      go_simp
      exact hK.out _ _ ⟨true, b1, b2, b3, b4, b5, b6, b7, b8, b9, b10, b11, (.pointer (some ⟨g, 3, none⟩)), x14, x15, x16, x17, x18, x19, x20, x21, x22, x23, gs, gq, cq, (by simp only [Act.put, List.setIfInBounds_toArray, List.set_cons_zero, List.set_cons_succ]), (by simp only [Act.put, List.setIfInBounds_toArray, List.set_cons_zero, List.set_cons_succ]), hb, (fun _ => rfl), cd1, cd2, cd3, cd4, cd5, cd6, cd7, cd8, cd9, cd10, f_g, f_lo, f_ls, f_lo2, f_s, f_o8, f_q4, f_q6, f_r6, f_kb⟩
    · rintro L a w ⟨b0, b1, b2, b3, b4, b5, b6, b7, b8, b9, b10, b11, x13, x14, x15, x16, x17, x18, x19, x20, x21, x22, x23, gs, gq, cq, rfl, rfl, hb, cd0, cd1, cd2, cd3, cd4, cd5, cd6, cd7, cd8, cd9, cd10, f_g, f_lo, f_ls, f_lo2, f_s, f_o8, f_q4, f_q6, f_r6, f_kb⟩ hf hd
      have hf' : b1 = false := hf
      subst hf'
      clear hf hd
      have W_kb := f_kb.out
      try simp only [List.setIfInBounds_toArray, List.set_cons_zero, List.set_cons_succ]
      intro K hK
      rw [if_pos (by rfl)]
      go_simp
      exact hK.out _ _ ⟨b0, true, b2, b3, b4, b5, b6, b7, b8, b9, b10, b11, x13, (.pointer (some ⟨g, 3, none⟩)), x15, x16, x17, x18, x19, x20, x21, x22, x23, gs, gq, cq, (by simp only [Act.put, List.setIfInBounds_toArray, List.set_cons_zero, List.set_cons_succ]), (by simp only [Act.put, List.setIfInBounds_toArray, List.set_cons_zero, List.set_cons_succ]), hb, cd0, (fun _ => rfl), cd2, cd3, cd4, cd5, cd6, cd7, cd8, cd9, cd10, f_g, f_lo, f_ls, f_lo2, f_s, f_o8, f_q4, f_q6, f_r6, f_kb⟩
    · rintro L a w ⟨b0, b1, b2, b3, b4, b5, b6, b7, b8, b9, b10, b11, x13, x14, x15, x16, x17, x18, x19, x20, x21, x22, x23, gs, gq, cq, rfl, rfl, hb, cd0, cd1, cd2, cd3, cd4, cd5, cd6, cd7, cd8, cd9, cd10, f_g, f_lo, f_ls, f_lo2, f_s, f_o8, f_q4, f_q6, f_r6, f_kb⟩ hf hd
      have hf' : b2 = false := hf
      subst hf'
      have d1 : b1 = true := hd ⟨1, .data⟩ (by simp) rfl
      subst d1
      obtain rfl := cd1.out rfl
      clear hf hd
      have W_kb := f_kb.out
      try simp only [List.setIfInBounds_toArray, List.set_cons_zero, List.set_cons_succ]
      intro K hK
      rw [if_pos (by rfl)]
      go_simp
      exact hK.out _ _ ⟨b0, true, true, b3, b4, b5, b6, b7, b8, b9, b10, b11, x13, .pointer (some ⟨g, 3, none⟩), (.pointer (some ⟨g, 3, none⟩)), x16, x17, x18, x19, x20, x21, x22, x23, gs, gq, cq, (by simp only [Act.put, List.setIfInBounds_toArray, List.set_cons_zero, List.set_cons_succ]), (by simp only [Act.put, List.setIfInBounds_toArray, List.set_cons_zero, List.set_cons_succ]), hb, cd0, (fun _ => rfl), (fun _ => rfl), cd3, cd4, cd5, cd6, cd7, cd8, cd9, cd10, f_g, f_lo, f_ls, f_lo2, f_s, f_o8, f_q4, f_q6, f_r6, f_kb⟩
    · rintro L a w ⟨b0, b1, b2, b3, b4, b5, b6, b7, b8, b9, b10, b11, x13, x14, x15, x16, x17, x18, x19, x20, x21, x22, x23, gs, gq, cq, rfl, rfl, hb, cd0, cd1, cd2, cd3, cd4, cd5, cd6, cd7, cd8, cd9, cd10, f_g, f_lo, f_ls, f_lo2, f_s, f_o8, f_q4, f_q6, f_r6, f_kb⟩ hf hd
      have hf' : b3 = false := hf
      subst hf'
      have d2 : b2 = true := hd ⟨2, .data⟩ (by simp) rfl
      subst d2
      obtain rfl := cd2.out rfl
      clear hf hd
      have W_kb := f_kb.out
      try simp only [List.setIfInBounds_toArray, List.set_cons_zero, List.set_cons_succ]
      intro K hK
      rw [if_pos (by rfl)]
      go_simp
      exact hK.out _ _ ⟨b0, b1, true, true, b4, b5, b6, b7, b8, b9, b10, b11, x13, x14, .pointer (some ⟨g, 3, none⟩), (.pointer (some ⟨g, 5, none⟩)), x17, x18, x19, x20, x21, x22, x23, gs, gq, cq, (by simp only [Act.put, List.setIfInBounds_toArray, List.set_cons_zero, List.set_cons_succ]), (by simp only [Act.put, List.setIfInBounds_toArray, List.set_cons_zero, List.set_cons_succ]), hb, cd0, cd1, (fun _ => rfl), (fun _ => rfl), cd4, cd5, cd6, cd7, cd8, cd9, cd10, f_g, f_lo, f_ls, f_lo2, f_s, f_o8, f_q4, f_q6, f_r6, f_kb⟩
    · rintro L a w ⟨b0, b1, b2, b3, b4, b5, b6, b7, b8, b9, b10, b11, x13, x14, x15, x16, x17, x18, x19, x20, x21, x22, x23, gs, gq, cq, rfl, rfl, hb, cd0, cd1, cd2, cd3, cd4, cd5, cd6, cd7, cd8, cd9, cd10, f_g, f_lo, f_ls, f_lo2, f_s, f_o8, f_q4, f_q6, f_r6, f_kb⟩ hf hd
      have hf' : b4 = false := hf
      subst hf'
      have d3 : b3 = true := hd ⟨3, .data⟩ (by simp) rfl
      subst d3
      obtain rfl := cd3.out rfl
      clear hf hd
      have W_kb := f_kb.out
      try simp only [List.setIfInBounds_toArray, List.set_cons_zero, List.set_cons_succ]
      have e_g : b11 = false := by cases hq : b11 with | false => rfl | true => exact absurd (f_q4.out hq) (by simp)
      have W_g := f_g.out e_g
      have z5 : w.cell? ⟨g, 5, none⟩ = some (.slice ba bn bc) := W_g.c rfl
      intro K hK
      rw [if_pos (by rfl)]
      go_simp
      exact hK.out _ _ ⟨b0, b1, b2, true, true, b5, b6, b7, b8, b9, b10, b11, x13, x14, x15, .pointer (some ⟨g, 5, none⟩), (.slice ba bn bc), x18, x19, x20, x21, x22, x23, gs, gq, cq, (by simp only [Act.put, List.setIfInBounds_toArray, List.set_cons_zero, List.set_cons_succ]), (by simp only [Act.put, List.setIfInBounds_toArray, List.set_cons_zero, List.set_cons_succ]), hb, cd0, cd1, cd2, (fun _ => rfl), (fun _ => rfl), cd5, cd6, cd7, cd8, cd9, cd10, f_g, f_lo, f_ls, f_lo2, f_s, f_o8, (fun _ => rfl), f_q6, f_r6, f_kb⟩
    · rintro L a w ⟨b0, b1, b2, b3, b4, b5, b6, b7, b8, b9, b10, b11, x13, x14, x15, x16, x17, x18, x19, x20, x21, x22, x23, gs, gq, cq, rfl, rfl, hb, cd0, cd1, cd2, cd3, cd4, cd5, cd6, cd7, cd8, cd9, cd10, f_g, f_lo, f_ls, f_lo2, f_s, f_o8, f_q4, f_q6, f_r6, f_kb⟩ hf hd
      have hf' : b5 = false := hf
      subst hf'
      clear hf hd
      have W_kb := f_kb.out
      try simp only [List.setIfInBounds_toArray, List.set_cons_zero, List.set_cons_succ]
      intro K hK
      rw [if_pos (by rfl)]
      go_simp
      exact hK.out _ _ ⟨b0, b1, b2, b3, b4, true, b6, b7, b8, b9, b10, b11, x13, x14, x15, x16, x17, (.pointer (some ⟨g, 3, none⟩)), x19, x20, x21, x22, x23, gs, gq, cq, (by simp only [Act.put, List.setIfInBounds_toArray, List.set_cons_zero, List.set_cons_succ]), (by simp only [Act.put, List.setIfInBounds_toArray, List.set_cons_zero, List.set_cons_succ]), hb, cd0, cd1, cd2, cd3, cd4, (fun _ => rfl), cd6, cd7, cd8, cd9, cd10, f_g, f_lo, f_ls, f_lo2, f_s, f_o8, f_q4, f_q6, f_r6, f_kb⟩
    · rintro L a w ⟨b0, b1, b2, b3, b4, b5, b6, b7, b8, b9, b10, b11, x13, x14, x15, x16, x17, x18, x19, x20, x21, x22, x23, gs, gq, cq, rfl, rfl, hb, cd0, cd1, cd2, cd3, cd4, cd5, cd6, cd7, cd8, cd9, cd10, f_g, f_lo, f_ls, f_lo2, f_s, f_o8, f_q4, f_q6, f_r6, f_kb⟩ hf hd
      have hf' : b6 = false := hf
      subst hf'
      have d5 : b5 = true := hd ⟨5, .data⟩ (by simp) rfl
      subst d5
      obtain rfl := cd5.out rfl
      clear hf hd
      have W_kb := f_kb.out
      try simp only [List.setIfInBounds_toArray, List.set_cons_zero, List.set_cons_succ]
      have e_g : b11 = false := by cases hq : b11 with | false => rfl | true => exact absurd (f_q6.out hq) (by simp)
      have W_g := f_g.out e_g
      have e_lo : b8 = false := by cases hq : b8 with | false => rfl | true => exact absurd (f_r6.out hq) (by simp)
      have W_lo := f_lo.out e_lo
      intro K hK
      rw [if_pos (by rfl)]
      go_simp
      go_at_call 31
      refine (HBl _ hb W_g W_lo).mono ?_
      rintro e w' ⟨rfl, bx⟩
      exact hK.out _ _ ⟨b0, b1, b2, b3, b4, true, true, b7, b8, b9, b10, b11, x13, x14, x15, x16, x17, .pointer (some ⟨g, 3, none⟩), (.agg NB), x20, x21, x22, x23, gs, gq, cq, (by simp only [Act.put, List.setIfInBounds_toArray, List.set_cons_zero, List.set_cons_succ]), (by simp only [Act.put, List.setIfInBounds_toArray, List.set_cons_zero, List.set_cons_succ]), hb.trans (bx.mono (Nat.le_trans hB0 hb.size)), cd0, cd1, cd2, cd3, cd4, (fun _ => rfl), (fun _ => rfl), cd7, cd8, cd9, cd10, (fun h1 => (f_g.out h1).past bx), (fun h1 => (f_lo.out h1).past bx), (fun h0 h1 => (f_ls.out h0 h1).past bx), (fun h0 => (f_lo2.out h0).past bx), (fun h0 => (f_s.out h0).past bx), f_o8, f_q4, (fun _ => rfl), (fun _ => rfl), (f_kb.out.past bx)⟩
    · rintro L a w ⟨b0, b1, b2, b3, b4, b5, b6, b7, b8, b9, b10, b11, x13, x14, x15, x16, x17, x18, x19, x20, x21, x22, x23, gs, gq, cq, rfl, rfl, hb, cd0, cd1, cd2, cd3, cd4, cd5, cd6, cd7, cd8, cd9, cd10, f_g, f_lo, f_ls, f_lo2, f_s, f_o8, f_q4, f_q6, f_r6, f_kb⟩ hf hd
      have hf' : b7 = false := hf
      subst hf'
      have d6 : b6 = true := hd ⟨6, .data⟩ (by simp) rfl
      subst d6
      obtain rfl := cd6.out rfl
      clear hf hd
      have W_kb := f_kb.out
      try simp only [List.setIfInBounds_toArray, List.set_cons_zero, List.set_cons_succ]
      intro K hK
      rw [if_pos (by rfl)]
      refine wp_buildSlice_one 26 79 _ rfl CL 66 (congrArg Value.agg HNB.out.symm) HC66.out (by omega) (by omega) Tryd.underlying26 blk_i fun w' h7 bx _ => ?_
      exact hK.out _ _ ⟨b0, b1, b2, b3, b4, b5, true, true, b8, b9, b10, b11, x13, x14, x15, x16, x17, x18, .agg NB, (.slice (some ⟨(w.heap.size), 0, none⟩) 1 1), x21, x22, x23, w.heap.size, gq, cq, (by simp only [Act.put, List.setIfInBounds_toArray, List.set_cons_zero, List.set_cons_succ]), (by simp only [Act.put, List.setIfInBounds_toArray, List.set_cons_zero, List.set_cons_succ]), hb.trans (bx.mono (Nat.le_trans hB0 hb.size)), cd0, cd1, cd2, cd3, cd4, cd5, (fun _ => rfl), (fun _ => rfl), cd8, cd9, cd10, (fun h1 => (f_g.out h1).past bx), (fun h1 => (f_lo.out h1).past bx), (fun _ _ => blk_row h7 HCN.out), (fun h0 => (f_lo2.out h0).past bx), (fun h0 => (f_s.out h0).past bx), f_o8, f_q4, f_q6, f_r6, (f_kb.out.past bx)⟩
    · rintro L a w ⟨b0, b1, b2, b3, b4, b5, b6, b7, b8, b9, b10, b11, x13, x14, x15, x16, x17, x18, x19, x20, x21, x22, x23, gs, gq, cq, rfl, rfl, hb, cd0, cd1, cd2, cd3, cd4, cd5, cd6, cd7, cd8, cd9, cd10, f_g, f_lo, f_ls, f_lo2, f_s, f_o8, f_q4, f_q6, f_r6, f_kb⟩ hf hd
      have hf' : b8 = false := hf
      subst hf'
      have d4 : b4 = true := hd ⟨4, .data⟩ (by simp) rfl
      subst d4
      have d7 : b7 = true := hd ⟨7, .data⟩ (by simp) rfl
      subst d7
      have d6 : b6 = true := hd ⟨6, .chain⟩ (by simp) rfl
      subst d6
      obtain rfl := cd4.out rfl
      obtain rfl := cd7.out rfl
      obtain rfl := cd6.out rfl
      clear hf hd
      have W_lo := f_lo.out rfl
      have W_ls := f_ls.out rfl rfl
      have W_kb := f_kb.out
      try simp only [List.setIfInBounds_toArray, List.set_cons_zero, List.set_cons_succ]
      intro K hK
      rw [if_pos (by rfl)]
      refine wp_append_r (E := EBk) _ _ 26 26 rfl rowTyBk rfl W_lo.rowB (Nat.le_trans hBw hb.size) _ rfl 1 [nb] (W_ls.src Tryd.underlying26) rfl (by omega) (bn + 1) rfl (M.bl ++ [nb]) rfl (by omega) fun q9 r9 w2 o8 g8 f8 k8 => ?_
      have hb2 := hb.trans (k8.mono (Nat.le_of_lt hgB))
      exact hK.out _ _ ⟨b0, b1, b2, b3, true, b5, true, true, true, b9, b10, b11, x13, x14, x15, x16, .slice ba bn bc, x18, .agg NB, .slice (some ⟨gs, 0, none⟩) 1 1, (.slice (some ⟨q9, 0, none⟩) (bn + 1) r9), x22, x23, gs, q9, r9, (by simp only [Act.put, List.setIfInBounds_toArray, List.set_cons_zero, List.set_cons_succ]), (by simp only [Act.put, List.setIfInBounds_toArray, List.set_cons_zero, List.set_cons_succ]), hb2, cd0, cd1, cd2, cd3, (fun _ => rfl), cd5, (fun _ => rfl), (fun _ => rfl), (fun _ => rfl), cd9, cd10, (fun h1 => Bk.past9 (f_g.out h1) k8 hgB), (fun h => by cases h), (fun _ h => by cases h), (fun _ => W_lo.appB (Nat.le_trans hBw hb.size) o8 g8 f8), (fun h0 => absurd (f_o8.out h0) (by simp)), (fun _ => rfl), f_q4, f_q6, (fun _ => rfl), ((f_kb.out).row g8 W_lo.neB)⟩
    · rintro L a w ⟨b0, b1, b2, b3, b4, b5, b6, b7, b8, b9, b10, b11, x13, x14, x15, x16, x17, x18, x19, x20, x21, x22, x23, gs, gq, cq, rfl, rfl, hb, cd0, cd1, cd2, cd3, cd4, cd5, cd6, cd7, cd8, cd9, cd10, f_g, f_lo, f_ls, f_lo2, f_s, f_o8, f_q4, f_q6, f_r6, f_kb⟩ hf hd
      have hf' : b9 = false := hf
      subst hf'
      have d0 : b0 = true := hd ⟨0, .data⟩ (by simp) rfl
      subst d0
      have d1 : b1 = true := hd ⟨1, .phase⟩ (by simp) rfl
      subst d1
      have d2 : b2 = true := hd ⟨2, .phase⟩ (by simp) rfl
      subst d2
      have d3 : b3 = true := hd ⟨3, .phase⟩ (by simp) rfl
      subst d3
      have d4 : b4 = true := hd ⟨4, .phase⟩ (by simp) rfl
      subst d4
      have d5 : b5 = true := hd ⟨5, .phase⟩ (by simp) rfl
      subst d5
      have d6 : b6 = true := hd ⟨6, .phase⟩ (by simp) rfl
      subst d6
      have d7 : b7 = true := hd ⟨7, .phase⟩ (by simp) rfl
      subst d7
      have d8 : b8 = true := hd ⟨8, .phase⟩ (by simp) rfl
      subst d8
      obtain rfl := cd0.out rfl
      obtain rfl := cd1.out rfl
      obtain rfl := cd2.out rfl
      obtain rfl := cd3.out rfl
      obtain rfl := cd4.out rfl
      obtain rfl := cd5.out rfl
      obtain rfl := cd6.out rfl
      obtain rfl := cd7.out rfl
      obtain rfl := cd8.out rfl
      clear hf hd
      have W_lo2 := f_lo2.out rfl
      have W_r6 := f_r6.out rfl
      have W_kb := f_kb.out
      try simp only [List.setIfInBounds_toArray, List.set_cons_zero, List.set_cons_succ]
      intro K hK
      rw [if_pos (by rfl)]
      go_simp
      exact hK.out _ _ ⟨true, true, true, true, true, true, true, true, true, true, b10, b11, .pointer (some ⟨g, 3, none⟩), .pointer (some ⟨g, 3, none⟩), .pointer (some ⟨g, 3, none⟩), .pointer (some ⟨g, 5, none⟩), .slice ba bn bc, .pointer (some ⟨g, 3, none⟩), .agg NB, .slice (some ⟨gs, 0, none⟩) 1 1, .slice (some ⟨gq, 0, none⟩) (bn + 1) cq, (.pointer (some ⟨g, 3, none⟩)), x23, gs, gq, cq, (by simp only [Act.put, List.setIfInBounds_toArray, List.set_cons_zero, List.set_cons_succ]), (by simp only [Act.put, List.setIfInBounds_toArray, List.set_cons_zero, List.set_cons_succ]), hb, (fun _ => rfl), (fun _ => rfl), (fun _ => rfl), (fun _ => rfl), (fun _ => rfl), (fun _ => rfl), (fun _ => rfl), (fun _ => rfl), (fun _ => rfl), (fun _ => rfl), cd10, f_g, (fun h => by cases h), (fun _ h => by cases h), f_lo2, f_s, f_o8, f_q4, f_q6, f_r6, f_kb⟩
    · rintro L a w ⟨b0, b1, b2, b3, b4, b5, b6, b7, b8, b9, b10, b11, x13, x14, x15, x16, x17, x18, x19, x20, x21, x22, x23, gs, gq, cq, rfl, rfl, hb, cd0, cd1, cd2, cd3, cd4, cd5, cd6, cd7, cd8, cd9, cd10, f_g, f_lo, f_ls, f_lo2, f_s, f_o8, f_q4, f_q6, f_r6, f_kb⟩ hf hd
      have hf' : b10 = false := hf
      subst hf'
      have d9 : b9 = true := hd ⟨9, .data⟩ (by simp) rfl
      subst d9
      have d0 : b0 = true := hd ⟨0, .phase⟩ (by simp) rfl
      subst d0
      have d1 : b1 = true := hd ⟨1, .phase⟩ (by simp) rfl
      subst d1
      have d2 : b2 = true := hd ⟨2, .phase⟩ (by simp) rfl
      subst d2
      have d3 : b3 = true := hd ⟨3, .phase⟩ (by simp) rfl
      subst d3
      have d4 : b4 = true := hd ⟨4, .phase⟩ (by simp) rfl
      subst d4
      have d5 : b5 = true := hd ⟨5, .phase⟩ (by simp) rfl
      subst d5
      have d6 : b6 = true := hd ⟨6, .phase⟩ (by simp) rfl
      subst d6
      have d7 : b7 = true := hd ⟨7, .phase⟩ (by simp) rfl
      subst d7
      have d8 : b8 = true := hd ⟨8, .phase⟩ (by simp) rfl
      subst d8
      obtain rfl := cd9.out rfl
      obtain rfl := cd0.out rfl
      obtain rfl := cd1.out rfl
      obtain rfl := cd2.out rfl
      obtain rfl := cd3.out rfl
      obtain rfl := cd4.out rfl
      obtain rfl := cd5.out rfl
      obtain rfl := cd6.out rfl
      obtain rfl := cd7.out rfl
      obtain rfl := cd8.out rfl
      clear hf hd
      have W_lo2 := f_lo2.out rfl
      have W_r6 := f_r6.out rfl
      have W_kb := f_kb.out
      try simp only [List.setIfInBounds_toArray, List.set_cons_zero, List.set_cons_succ]
      intro K hK
      rw [if_pos (by rfl)]
      go_simp
      exact hK.out _ _ ⟨true, true, true, true, true, true, true, true, true, true, true, b11, .pointer (some ⟨g, 3, none⟩), .pointer (some ⟨g, 3, none⟩), .pointer (some ⟨g, 3, none⟩), .pointer (some ⟨g, 5, none⟩), .slice ba bn bc, .pointer (some ⟨g, 3, none⟩), .agg NB, .slice (some ⟨gs, 0, none⟩) 1 1, .slice (some ⟨gq, 0, none⟩) (bn + 1) cq, .pointer (some ⟨g, 3, none⟩), (.pointer (some ⟨g, 5, none⟩)), gs, gq, cq, (by simp only [Act.put, List.setIfInBounds_toArray, List.set_cons_zero, List.set_cons_succ]), (by simp only [Act.put, List.setIfInBounds_toArray, List.set_cons_zero, List.set_cons_succ]), hb, (fun _ => rfl), (fun _ => rfl), (fun _ => rfl), (fun _ => rfl), (fun _ => rfl), (fun _ => rfl), (fun _ => rfl), (fun _ => rfl), (fun _ => rfl), (fun _ => rfl), (fun _ => rfl), f_g, (fun h => by cases h), (fun _ h => by cases h), f_lo2, f_s, f_o8, f_q4, f_q6, f_r6, f_kb⟩
    · rintro L a w ⟨b0, b1, b2, b3, b4, b5, b6, b7, b8, b9, b10, b11, x13, x14, x15, x16, x17, x18, x19, x20, x21, x22, x23, gs, gq, cq, rfl, rfl, hb, cd0, cd1, cd2, cd3, cd4, cd5, cd6, cd7, cd8, cd9, cd10, f_g, f_lo, f_ls, f_lo2, f_s, f_o8, f_q4, f_q6, f_r6, f_kb⟩ hf hd
      have hf' : b11 = false := hf
      subst hf'
      have d10 : b10 = true := hd ⟨10, .data⟩ (by simp) rfl
      subst d10
      have d8 : b8 = true := hd ⟨8, .data⟩ (by simp) rfl
      subst d8
      have d0 : b0 = true := hd ⟨0, .phase⟩ (by simp) rfl
      subst d0
      have d1 : b1 = true := hd ⟨1, .phase⟩ (by simp) rfl
      subst d1
      have d2 : b2 = true := hd ⟨2, .phase⟩ (by simp) rfl
      subst d2
      have d3 : b3 = true := hd ⟨3, .phase⟩ (by simp) rfl
      subst d3
      have d4 : b4 = true := hd ⟨4, .phase⟩ (by simp) rfl
      subst d4
      have d5 : b5 = true := hd ⟨5, .phase⟩ (by simp) rfl
      subst d5
      have d6 : b6 = true := hd ⟨6, .phase⟩ (by simp) rfl
      subst d6
      have d7 : b7 = true := hd ⟨7, .phase⟩ (by simp) rfl
      subst d7
      obtain rfl := cd10.out rfl
      obtain rfl := cd8.out rfl
      obtain rfl := cd0.out rfl
      obtain rfl := cd1.out rfl
      obtain rfl := cd2.out rfl
      obtain rfl := cd3.out rfl
      obtain rfl := cd4.out rfl
      obtain rfl := cd5.out rfl
      obtain rfl := cd6.out rfl
      obtain rfl := cd7.out rfl
      clear hf hd
      have W_g := f_g.out rfl
      have W_lo2 := f_lo2.out rfl
      have W_r6 := f_r6.out rfl
      have W_kb := f_kb.out
      try simp only [List.setIfInBounds_toArray, List.set_cons_zero, List.set_cons_succ]
      have z5 : w.cell? ⟨g, 5, none⟩ = some (.slice ba bn bc) := W_g.c rfl
      have fz := free_blk (i := 5) W_g
      intro K hK
      rw [if_pos (by rfl)]
      go_simp
      have g9 := grown_cell (grown_self w g) 5 (.slice (some ⟨gq, 0, none⟩) (bn + 1) cq)
      have hb2 := hb.grown g9 (Nat.le_trans hB0 hb.size) (fun z hz => by cases hz; exact Nat.le_refl _)
      exact hK.out _ _ ⟨true, true, true, true, true, true, true, true, true, b9, true, true, .pointer (some ⟨g, 3, none⟩), .pointer (some ⟨g, 3, none⟩), .pointer (some ⟨g, 3, none⟩), .pointer (some ⟨g, 5, none⟩), .slice ba bn bc, .pointer (some ⟨g, 3, none⟩), .agg NB, .slice (some ⟨gs, 0, none⟩) 1 1, .slice (some ⟨gq, 0, none⟩) (bn + 1) cq, x22, .pointer (some ⟨g, 5, none⟩), gs, gq, cq, (by simp only [Act.put, List.setIfInBounds_toArray, List.set_cons_zero, List.set_cons_succ]), (by simp only [Act.put, List.setIfInBounds_toArray, List.set_cons_zero, List.set_cons_succ]), hb2, (fun _ => rfl), (fun _ => rfl), (fun _ => rfl), (fun _ => rfl), (fun _ => rfl), (fun _ => rfl), (fun _ => rfl), (fun _ => rfl), (fun _ => rfl), cd9, (fun _ => rfl), (fun h => by cases h), (fun h => by cases h), (fun _ h => by cases h), (fun h0 => ((f_lo2.out h0)).grown g9 hgB), (fun _ => df_set W_g 5 _ rfl), (fun _ => rfl), (fun _ => rfl), (fun _ => rfl), f_r6, ((f_kb.out).grown g9)⟩
  · rintro act V4 ⟨b0, b1, b2, b3, b4, b5, b6, b7, b8, b9, b10, b11, x13, x14, x15, x16, x17, x18, x19, x20, x21, x22, x23, gs, gq, cq, hL, rfl, hb, cd0, cd1, cd2, cd3, cd4, cd5, cd6, cd7, cd8, cd9, cd10, f_g, f_lo, f_ls, f_lo2, f_s, f_o8, f_q4, f_q6, f_r6, f_kb⟩
    have hL' : [true, true, true, true, true, true, true, true, true, true, true, true] = [b0, b1, b2, b3, b4, b5, b6, b7, b8, b9, b10, b11] := congrArg Array.toList hL
    simp only [List.cons.injEq, and_true] at hL'
    obtain ⟨rfl, rfl, rfl, rfl, rfl, rfl, rfl, rfl, rfl, rfl, rfl, rfl⟩ := hL'
    obtain rfl := cd0.out rfl
    obtain rfl := cd1.out rfl
    obtain rfl := cd2.out rfl
    obtain rfl := cd3.out rfl
    obtain rfl := cd4.out rfl
    obtain rfl := cd5.out rfl
    obtain rfl := cd6.out rfl
    obtain rfl := cd7.out rfl
    obtain rfl := cd8.out rfl
    obtain rfl := cd9.out rfl
    obtain rfl := cd10.out rfl
    have W_lo2 := f_lo2.out rfl
    have W_s := f_s.out rfl
    have W_o8 := f_o8.out rfl
    have W_q4 := f_q4.out rfl
    have W_q6 := f_q6.out rfl
    have W_r6 := f_r6.out rfl
    have W_kb := f_kb.out
    clear hL f_g f_lo f_ls f_lo2 f_s f_o8 f_q4 f_q6 f_r6 f_kb cd0 cd1 cd2 cd3 cd4 cd5 cd6 cd7 cd8 cd9 cd10
    simp only [List.setIfInBounds_toArray, List.set_cons_zero, List.set_cons_succ]
    have BV : Below g w1 V4 := (Below.refl _ _).drew.trans hb
    have hX2 : Bk V4 g (dfC 1 0 next oa on oc (some ⟨gq, 0, none⟩) (bn + 1) cq ta tn tc) 68 := W_s
    have hLo2 : LgX V4 B9 t oa on oc (some ⟨gq, 0, none⟩) (bn + 1) cq ta tn tc ⟨M.next, M.op, M.bl ++ [nb], M.ts⟩ := W_lo2
    have B4 := b1.trans BV
    have hK4 : SameB B9 t g w1 V4 := W_kb
    have hBV : B9 ≤ V4.heap.size := Nat.le_trans hBw BV.size
    clear hb W_kb W_s W_lo2 W_o8 W_q4 W_q6 W_r6 BV HBl hX hLo b1 hBw hB0
    generalize V4 = w2 at hX2 hLo2 B4 hBV hK4 ⊢
    have hB0 : g ≤ w2.heap.size := by omega
    obtain ⟨ba4, hba4⟩ : ∃ z, (some ⟨gq, 0, none⟩ : Option Addr) = z := ⟨_, rfl⟩
    obtain ⟨bn4, hbn4⟩ : ∃ z, bn + 1 = z := ⟨_, rfl⟩
    obtain ⟨M4, hM4⟩ : ∃ z, (⟨M.next, M.op, M.bl ++ [nb], M.ts⟩ : Lgr) = z := ⟨_, rfl⟩
    rw [hba4, hbn4] at hX2 hLo2
    rw [hM4] at hLo2
    simp only [hba4, hbn4]
    have HM4 := Lib.hid hM4
    clear hba4 hbn4 hM4
    go_upto_region 5 with fail
    refine region_inv (LCls5 t w1 g g B9 next oa on oc ba4 bn4 cq ta tn tc M4) (by kernel_rfl) (by kernel_rfl) ?_ ?_ ?_
    · exact ⟨false, false, false, false, false, false, false, false, false, false, false, false, false, false, undef, undef, undef, undef, undef, undef, undef, undef, undef, undef, undef, undef, undef, 0, 0, 0, rfl, (by simp only [Act.put, List.setIfInBounds_toArray, List.set_cons_zero, List.set_cons_succ]), Below.refl _ _, (fun h => by cases h), (fun h => by cases h), (fun h => by cases h), (fun h => by cases h), (fun h => by cases h), (fun h => by cases h), (fun h => by cases h), (fun h => by cases h), (fun h => by cases h), (fun h => by cases h), (fun h => by cases h), (fun h => by cases h), (fun h => by cases h), (fun h1 => hX2.past (Below.refl _ _).drew), (fun h1 => hLo2.past (Below.refl _ _).drew), (fun h => by cases h), (fun h => by cases h), (fun h => by cases h), (fun h => by cases h), (fun h => by cases h), (fun h => by cases h), (hK4.past (Below.refl _ _).drew)⟩
    · refine ⟨?_, ?_, ?_, ?_, ?_, ?_, ?_, ?_, ?_, ?_, ?_, ?_, ?_, ?_, trivial⟩
      · rintro L a w ⟨b0, b1, b2, b3, b4, b5, b6, b7, b8, b9, b10, b11, b12, b13, x24, x25, x26, x27, x28, x29, x30, x31, x32, x33, x34, x35, x36, gs, gt, ct, rfl, rfl, hb, cd0, cd1, cd2, cd3, cd4, cd5, cd6, cd7, cd8, cd9, cd10, cd11, cd12, f_g, f_lo, f_ls, f_lo2, f_s, f_o8, f_q4, f_q8, f_kb⟩ hf hd
        have hf' : b0 = false := hf
        subst hf'
        clear hf hd
        have W_kb := f_kb.out
        try simp only [List.setIfInBounds_toArray, List.set_cons_zero, List.set_cons_succ]
        intro K hK
        rw [if_pos (by rfl)]
        go_simp
        exact hK.out _ _ ⟨true, b1, b2, b3, b4, b5, b6, b7, b8, b9, b10, b11, b12, b13, (.pointer (some ⟨g, 3, none⟩)), x25, x26, x27, x28, x29, x30, x31, x32, x33, x34, x35, x36, gs, gt, ct, (by simp only [Act.put, List.setIfInBounds_toArray, List.set_cons_zero, List.set_cons_succ]), (by simp only [Act.put, List.setIfInBounds_toArray, List.set_cons_zero, List.set_cons_succ]), hb, (fun _ => rfl), cd1, cd2, cd3, cd4, cd5, cd6, cd7, cd8, cd9, cd10, cd11, cd12, f_g, f_lo, f_ls, f_lo2, f_s, f_o8, f_q4, f_q8, f_kb⟩
      · rintro L a w ⟨b0, b1, b2, b3, b4, b5, b6, b7, b8, b9, b10, b11, b12, b13, x24, x25, x26, x27, x28, x29, x30, x31, x32, x33, x34, x35, x36, gs, gt, ct, rfl, rfl, hb, cd0, cd1, cd2, cd3, cd4, cd5, cd6, cd7, cd8, cd9, cd10, cd11, cd12, f_g, f_lo, f_ls, f_lo2, f_s, f_o8, f_q4, f_q8, f_kb⟩ hf hd
        have hf' : b1 = false := hf
        subst hf'
        clear hf hd
        have W_kb := f_kb.out
        try simp only [List.setIfInBounds_toArray, List.set_cons_zero, List.set_cons_succ]
        intro K hK
        rw [if_pos (by rfl)]
        go_simp
        exact hK.out _ _ ⟨b0, true, b2, b3, b4, b5, b6, b7, b8, b9, b10, b11, b12, b13, x24, (.pointer (some ⟨g, 3, none⟩)), x26, x27, x28, x29, x30, x31, x32, x33, x34, x35, x36, gs, gt, ct, (by simp only [Act.put, List.setIfInBounds_toArray, List.set_cons_zero, List.set_cons_succ]), (by simp only [Act.put, List.setIfInBounds_toArray, List.set_cons_zero, List.set_cons_succ]), hb, cd0, (fun _ => rfl), cd2, cd3, cd4, cd5, cd6, cd7, cd8, cd9, cd10, cd11, cd12, f_g, f_lo, f_ls, f_lo2, f_s, f_o8, f_q4, f_q8, f_kb⟩
      · rintro L a w ⟨b0, b1, b2, b3, b4, b5, b6, b7, b8, b9, b10, b11, b12, b13, x24, x25, x26, x27, x28, x29, x30, x31, x32, x33, x34, x35, x36, gs, gt, ct, rfl, rfl, hb, cd0, cd1, cd2, cd3, cd4, cd5, cd6, cd7, cd8, cd9, cd10, cd11, cd12, f_g, f_lo, f_ls, f_lo2, f_s, f_o8, f_q4, f_q8, f_kb⟩ hf hd
        have hf' : b2 = false := hf
        subst hf'
        have d1 : b1 = true := hd ⟨1, .data⟩ (by simp) rfl
        subst d1
        obtain rfl := cd1.out rfl
        clear hf hd
        have W_kb := f_kb.out
        try simp only [List.setIfInBounds_toArray, List.set_cons_zero, List.set_cons_succ]
        intro K hK
        rw [if_pos (by rfl)]
        go_simp
        exact hK.out _ _ ⟨b0, true, true, b3, b4, b5, b6, b7, b8, b9, b10, b11, b12, b13, x24, .pointer (some ⟨g, 3, none⟩), (.pointer (some ⟨g, 3, none⟩)), x27, x28, x29, x30, x31, x32, x33, x34, x35, x36, gs, gt, ct, (by simp only [Act.put, List.setIfInBounds_toArray, List.set_cons_zero, List.set_cons_succ]), (by simp only [Act.put, List.setIfInBounds_toArray, List.set_cons_zero, List.set_cons_succ]), hb, cd0, (fun _ => rfl), (fun _ => rfl), cd3, cd4, cd5, cd6, cd7, cd8, cd9, cd10, cd11, cd12, f_g, f_lo, f_ls, f_lo2, f_s, f_o8, f_q4, f_q8, f_kb⟩
      · rintro L a w ⟨b0, b1, b2, b3, b4, b5, b6, b7, b8, b9, b10, b11, b12, b13, x24, x25, x26, x27, x28, x29, x30, x31, x32, x33, x34, x35, x36, gs, gt, ct, rfl, rfl, hb, cd0, cd1, cd2, cd3, cd4, cd5, cd6, cd7, cd8, cd9, cd10, cd11, cd12, f_g, f_lo, f_ls, f_lo2, f_s, f_o8, f_q4, f_q8, f_kb⟩ hf hd
        have hf' : b3 = false := hf
        subst hf'
        have d2 : b2 = true := hd ⟨2, .data⟩ (by simp) rfl
        subst d2
        obtain rfl := cd2.out rfl
        clear hf hd
        have W_kb := f_kb.out
        try simp only [List.setIfInBounds_toArray, List.set_cons_zero, List.set_cons_succ]
        intro K hK
        rw [if_pos (by rfl)]
        go_simp
        exact hK.out _ _ ⟨b0, b1, true, true, b4, b5, b6, b7, b8, b9, b10, b11, b12, b13, x24, x25, .pointer (some ⟨g, 3, none⟩), (.pointer (some ⟨g, 6, none⟩)), x28, x29, x30, x31, x32, x33, x34, x35, x36, gs, gt, ct, (by simp only [Act.put, List.setIfInBounds_toArray, List.set_cons_zero, List.set_cons_succ]), (by simp only [Act.put, List.setIfInBounds_toArray, List.set_cons_zero, List.set_cons_succ]), hb, cd0, cd1, (fun _ => rfl), (fun _ => rfl), cd4, cd5, cd6, cd7, cd8, cd9, cd10, cd11, cd12, f_g, f_lo, f_ls, f_lo2, f_s, f_o8, f_q4, f_q8, f_kb⟩
      · rintro L a w ⟨b0, b1, b2, b3, b4, b5, b6, b7, b8, b9, b10, b11, b12, b13, x24, x25, x26, x27, x28, x29, x30, x31, x32, x33, x34, x35, x36, gs, gt, ct, rfl, rfl, hb, cd0, cd1, cd2, cd3, cd4, cd5, cd6, cd7, cd8, cd9, cd10, cd11, cd12, f_g, f_lo, f_ls, f_lo2, f_s, f_o8, f_q4, f_q8, f_kb⟩ hf hd
        have hf' : b4 = false := hf
        subst hf'
        have d3 : b3 = true := hd ⟨3, .data⟩ (by simp) rfl
        subst d3
        obtain rfl := cd3.out rfl
        clear hf hd
        have W_kb := f_kb.out
        try simp only [List.setIfInBounds_toArray, List.set_cons_zero, List.set_cons_succ]
        have e_g : b13 = false := by cases hq : b13 with | false => rfl | true => exact absurd (f_q4.out hq) (by simp)
        have W_g := f_g.out e_g
        have z6 : w.cell? ⟨g, 6, none⟩ = some (.slice ta tn tc) := W_g.c rfl
        intro K hK
        rw [if_pos (by rfl)]
        go_simp
        exact hK.out _ _ ⟨b0, b1, b2, true, true, b5, b6, b7, b8, b9, b10, b11, b12, b13, x24, x25, x26, .pointer (some ⟨g, 6, none⟩), (.slice ta tn tc), x29, x30, x31, x32, x33, x34, x35, x36, gs, gt, ct, (by simp only [Act.put, List.setIfInBounds_toArray, List.set_cons_zero, List.set_cons_succ]), (by simp only [Act.put, List.setIfInBounds_toArray, List.set_cons_zero, List.set_cons_succ]), hb, cd0, cd1, cd2, (fun _ => rfl), (fun _ => rfl), cd5, cd6, cd7, cd8, cd9, cd10, cd11, cd12, f_g, f_lo, f_ls, f_lo2, f_s, f_o8, (fun _ => rfl), f_q8, f_kb⟩
      · rintro L a w ⟨b0, b1, b2, b3, b4, b5, b6, b7, b8, b9, b10, b11, b12, b13, x24, x25, x26, x27, x28, x29, x30, x31, x32, x33, x34, x35, x36, gs, gt, ct, rfl, rfl, hb, cd0, cd1, cd2, cd3, cd4, cd5, cd6, cd7, cd8, cd9, cd10, cd11, cd12, f_g, f_lo, f_ls, f_lo2, f_s, f_o8, f_q4, f_q8, f_kb⟩ hf hd
        have hf' : b5 = false := hf
        subst hf'
        clear hf hd
        have W_kb := f_kb.out
        try simp only [List.setIfInBounds_toArray, List.set_cons_zero, List.set_cons_succ]
        intro K hK
        rw [if_pos (by rfl)]
        go_simp
        exact hK.out _ _ ⟨b0, b1, b2, b3, b4, true, b6, b7, b8, b9, b10, b11, b12, b13, x24, x25, x26, x27, x28, (.pointer (some ⟨g, 3, none⟩)), x30, x31, x32, x33, x34, x35, x36, gs, gt, ct, (by simp only [Act.put, List.setIfInBounds_toArray, List.set_cons_zero, List.set_cons_succ]), (by simp only [Act.put, List.setIfInBounds_toArray, List.set_cons_zero, List.set_cons_succ]), hb, cd0, cd1, cd2, cd3, cd4, (fun _ => rfl), cd6, cd7, cd8, cd9, cd10, cd11, cd12, f_g, f_lo, f_ls, f_lo2, f_s, f_o8, f_q4, f_q8, f_kb⟩
      · rintro L a w ⟨b0, b1, b2, b3, b4, b5, b6, b7, b8, b9, b10, b11, b12, b13, x24, x25, x26, x27, x28, x29, x30, x31, x32, x33, x34, x35, x36, gs, gt, ct, rfl, rfl, hb, cd0, cd1, cd2, cd3, cd4, cd5, cd6, cd7, cd8, cd9, cd10, cd11, cd12, f_g, f_lo, f_ls, f_lo2, f_s, f_o8, f_q4, f_q8, f_kb⟩ hf hd
        have hf' : b6 = false := hf
        subst hf'
        have d5 : b5 = true := hd ⟨5, .data⟩ (by simp) rfl
        subst d5
        obtain rfl := cd5.out rfl
        clear hf hd
        have W_kb := f_kb.out
        try simp only [List.setIfInBounds_toArray, List.set_cons_zero, List.set_cons_succ]
        intro K hK
        rw [if_pos (by rfl)]
        go_simp
        exact hK.out _ _ ⟨b0, b1, b2, b3, b4, true, true, b7, b8, b9, b10, b11, b12, b13, x24, x25, x26, x27, x28, .pointer (some ⟨g, 3, none⟩), (.pointer (some ⟨g, 3, none⟩)), x31, x32, x33, x34, x35, x36, gs, gt, ct, (by simp only [Act.put, List.setIfInBounds_toArray, List.set_cons_zero, List.set_cons_succ]), (by simp only [Act.put, List.setIfInBounds_toArray, List.set_cons_zero, List.set_cons_succ]), hb, cd0, cd1, cd2, cd3, cd4, (fun _ => rfl), (fun _ => rfl), cd7, cd8, cd9, cd10, cd11, cd12, f_g, f_lo, f_ls, f_lo2, f_s, f_o8, f_q4, f_q8, f_kb⟩
      · rintro L a w ⟨b0, b1, b2, b3, b4, b5, b6, b7, b8, b9, b10, b11, b12, b13, x24, x25, x26, x27, x28, x29, x30, x31, x32, x33, x34, x35, x36, gs, gt, ct, rfl, rfl, hb, cd0, cd1, cd2, cd3, cd4, cd5, cd6, cd7, cd8, cd9, cd10, cd11, cd12, f_g, f_lo, f_ls, f_lo2, f_s, f_o8, f_q4, f_q8, f_kb⟩ hf hd
        have hf' : b7 = false := hf
        subst hf'
        have d6 : b6 = true := hd ⟨6, .data⟩ (by simp) rfl
        subst d6
        obtain rfl := cd6.out rfl
        clear hf hd
        have W_kb := f_kb.out
        try simp only [List.setIfInBounds_toArray, List.set_cons_zero, List.set_cons_succ]
        intro K hK
        rw [if_pos (by rfl)]
        go_simp
        exact hK.out _ _ ⟨b0, b1, b2, b3, b4, b5, true, true, b8, b9, b10, b11, b12, b13, x24, x25, x26, x27, x28, x29, .pointer (some ⟨g, 3, none⟩), (.pointer (some ⟨g, 4, none⟩)), x32, x33, x34, x35, x36, gs, gt, ct, (by simp only [Act.put, List.setIfInBounds_toArray, List.set_cons_zero, List.set_cons_succ]), (by simp only [Act.put, List.setIfInBounds_toArray, List.set_cons_zero, List.set_cons_succ]), hb, cd0, cd1, cd2, cd3, cd4, cd5, (fun _ => rfl), (fun _ => rfl), cd8, cd9, cd10, cd11, cd12, f_g, f_lo, f_ls, f_lo2, f_s, f_o8, f_q4, f_q8, f_kb⟩
      · rintro L a w ⟨b0, b1, b2, b3, b4, b5, b6, b7, b8, b9, b10, b11, b12, b13, x24, x25, x26, x27, x28, x29, x30, x31, x32, x33, x34, x35, x36, gs, gt, ct, rfl, rfl, hb, cd0, cd1, cd2, cd3, cd4, cd5, cd6, cd7, cd8, cd9, cd10, cd11, cd12, f_g, f_lo, f_ls, f_lo2, f_s, f_o8, f_q4, f_q8, f_kb⟩ hf hd
        have hf' : b8 = false := hf
        subst hf'
        have d7 : b7 = true := hd ⟨7, .data⟩ (by simp) rfl
        subst d7
        obtain rfl := cd7.out rfl
        clear hf hd
        have W_kb := f_kb.out
        try simp only [List.setIfInBounds_toArray, List.set_cons_zero, List.set_cons_succ]
        have e_g : b13 = false := by cases hq : b13 with | false => rfl | true => exact absurd (f_q8.out hq) (by simp)
        have W_g := f_g.out e_g
        have z4 : w.cell? ⟨g, 4, none⟩ = some (.slice oa on oc) := W_g.c rfl
        intro K hK
        rw [if_pos (by rfl)]
        go_simp
        exact hK.out _ _ ⟨b0, b1, b2, b3, b4, b5, b6, true, true, b9, b10, b11, b12, b13, x24, x25, x26, x27, x28, x29, x30, .pointer (some ⟨g, 4, none⟩), (.slice oa on oc), x33, x34, x35, x36, gs, gt, ct, (by simp only [Act.put, List.setIfInBounds_toArray, List.set_cons_zero, List.set_cons_succ]), (by simp only [Act.put, List.setIfInBounds_toArray, List.set_cons_zero, List.set_cons_succ]), hb, cd0, cd1, cd2, cd3, cd4, cd5, cd6, (fun _ => rfl), (fun _ => rfl), cd9, cd10, cd11, cd12, f_g, f_lo, f_ls, f_lo2, f_s, f_o8, f_q4, (fun _ => rfl), f_kb⟩
      · rintro L a w ⟨b0, b1, b2, b3, b4, b5, b6, b7, b8, b9, b10, b11, b12, b13, x24, x25, x26, x27, x28, x29, x30, x31, x32, x33, x34, x35, x36, gs, gt, ct, rfl, rfl, hb, cd0, cd1, cd2, cd3, cd4, cd5, cd6, cd7, cd8, cd9, cd10, cd11, cd12, f_g, f_lo, f_ls, f_lo2, f_s, f_o8, f_q4, f_q8, f_kb⟩ hf hd
        have hf' : b9 = false := hf
        subst hf'
        have d8 : b8 = true := hd ⟨8, .data⟩ (by simp) rfl
        subst d8
        obtain rfl := cd8.out rfl
        clear hf hd
        have W_kb := f_kb.out
        try simp only [List.setIfInBounds_toArray, List.set_cons_zero, List.set_cons_succ]
        intro K hK
        rw [if_pos (by rfl)]
        go_simp
        have bx : Below w.heap.size w (w.alloc (.cells #[.slice oa on oc] 25)) := (Below.refl _ _).alloc (Nat.le_refl _) _
        exact hK.out _ _ ⟨b0, b1, b2, b3, b4, b5, b6, b7, true, true, b10, b11, b12, b13, x24, x25, x26, x27, x28, x29, x30, x31, .slice oa on oc, (.slice (some ⟨(w.heap.size), 0, none⟩) 1 1), x34, x35, x36, w.heap.size, gt, ct, (by simp only [Act.put, List.setIfInBounds_toArray, List.set_cons_zero, List.set_cons_succ]), (by simp only [Act.put, List.setIfInBounds_toArray, List.set_cons_zero, List.set_cons_succ]), hb.trans (bx.mono (Nat.le_trans hB0 hb.size)), cd0, cd1, cd2, cd3, cd4, cd5, cd6, cd7, (fun _ => rfl), (fun _ => rfl), cd10, cd11, cd12, (fun h1 => (f_g.out h1).past bx), (fun h1 => (f_lo.out h1).past bx), (fun _ _ => hd_one w _ ⟨oa, on, oc⟩), (fun h0 => (f_lo2.out h0).past bx), (fun h0 => (f_s.out h0).past bx), f_o8, f_q4, f_q8, (f_kb.out.past bx)⟩
      · rintro L a w ⟨b0, b1, b2, b3, b4, b5, b6, b7, b8, b9, b10, b11, b12, b13, x24, x25, x26, x27, x28, x29, x30, x31, x32, x33, x34, x35, x36, gs, gt, ct, rfl, rfl, hb, cd0, cd1, cd2, cd3, cd4, cd5, cd6, cd7, cd8, cd9, cd10, cd11, cd12, f_g, f_lo, f_ls, f_lo2, f_s, f_o8, f_q4, f_q8, f_kb⟩ hf hd
        have hf' : b10 = false := hf
        subst hf'
        have d4 : b4 = true := hd ⟨4, .data⟩ (by simp) rfl
        subst d4
        have d9 : b9 = true := hd ⟨9, .data⟩ (by simp) rfl
        subst d9
        obtain rfl := cd4.out rfl
        obtain rfl := cd9.out rfl
        clear hf hd
        have W_lo := f_lo.out rfl
        have W_ls := f_ls.out rfl rfl
        have W_kb := f_kb.out
        try simp only [List.setIfInBounds_toArray, List.set_cons_zero, List.set_cons_succ]
        obtain ⟨bt9, hbt9, happ9⟩ := W_lo.appT (Nat.le_trans hBV hb.size)
        intro K hK
        rw [if_pos (by rfl)]
        refine wp_append_r (E := EH) _ _ 27 27 rfl rowTyTxs rfl hbt9 (Nat.le_trans hBV hb.size) _ rfl 1 [⟨oa, on, oc⟩] (W_ls.src Tryd.underlying27) rfl (by omega) (tn + 1) rfl (bt9 ++ [⟨oa, on, oc⟩]) rfl (by omega) fun q9 r9 w2 o8 g8 f8 k8 => ?_
        have hb2 := hb.trans (k8.mono (Nat.le_of_lt hgB))
        exact hK.out _ _ ⟨b0, b1, b2, b3, true, b5, b6, b7, b8, true, true, b11, b12, b13, x24, x25, x26, x27, .slice ta tn tc, x29, x30, x31, x32, .slice (some ⟨gs, 0, none⟩) 1 1, (.slice (some ⟨q9, 0, none⟩) (tn + 1) r9), x35, x36, gs, q9, r9, (by simp only [Act.put, List.setIfInBounds_toArray, List.set_cons_zero, List.set_cons_succ]), (by simp only [Act.put, List.setIfInBounds_toArray, List.set_cons_zero, List.set_cons_succ]), hb2, cd0, cd1, cd2, cd3, (fun _ => rfl), cd5, cd6, cd7, cd8, (fun _ => rfl), (fun _ => rfl), cd11, cd12, (fun h1 => Bk.past9 (f_g.out h1) k8 hgB), (fun h => by cases h), (fun _ h => by cases h), (fun _ => happ9 _ _ _ o8 g8 f8), (fun h0 => absurd (f_o8.out h0) (by simp)), (fun _ => rfl), f_q4, f_q8, ((f_kb.out).row g8 W_lo.neT)⟩
      · rintro L a w ⟨b0, b1, b2, b3, b4, b5, b6, b7, b8, b9, b10, b11, b12, b13, x24, x25, x26, x27, x28, x29, x30, x31, x32, x33, x34, x35, x36, gs, gt, ct, rfl, rfl, hb, cd0, cd1, cd2, cd3, cd4, cd5, cd6, cd7, cd8, cd9, cd10, cd11, cd12, f_g, f_lo, f_ls, f_lo2, f_s, f_o8, f_q4, f_q8, f_kb⟩ hf hd
        have hf' : b11 = false := hf
        subst hf'
        have d0 : b0 = true := hd ⟨0, .data⟩ (by simp) rfl
        subst d0
        have d1 : b1 = true := hd ⟨1, .phase⟩ (by simp) rfl
        subst d1
        have d2 : b2 = true := hd ⟨2, .phase⟩ (by simp) rfl
        subst d2
        have d3 : b3 = true := hd ⟨3, .phase⟩ (by simp) rfl
        subst d3
        have d4 : b4 = true := hd ⟨4, .phase⟩ (by simp) rfl
        subst d4
        have d5 : b5 = true := hd ⟨5, .phase⟩ (by simp) rfl
        subst d5
        have d6 : b6 = true := hd ⟨6, .phase⟩ (by simp) rfl
        subst d6
        have d7 : b7 = true := hd ⟨7, .phase⟩ (by simp) rfl
        subst d7
        have d8 : b8 = true := hd ⟨8, .phase⟩ (by simp) rfl
        subst d8
        have d9 : b9 = true := hd ⟨9, .phase⟩ (by simp) rfl
        subst d9
        have d10 : b10 = true := hd ⟨10, .phase⟩ (by simp) rfl
        subst d10
        obtain rfl := cd0.out rfl
        obtain rfl := cd1.out rfl
        obtain rfl := cd2.out rfl
        obtain rfl := cd3.out rfl
        obtain rfl := cd4.out rfl
        obtain rfl := cd5.out rfl
        obtain rfl := cd6.out rfl
        obtain rfl := cd7.out rfl
        obtain rfl := cd8.out rfl
        obtain rfl := cd9.out rfl
        obtain rfl := cd10.out rfl
        clear hf hd
        have W_lo2 := f_lo2.out rfl
        have W_kb := f_kb.out
        try simp only [List.setIfInBounds_toArray, List.set_cons_zero, List.set_cons_succ]
        intro K hK
        rw [if_pos (by rfl)]
        go_simp
        exact hK.out _ _ ⟨true, true, true, true, true, true, true, true, true, true, true, true, b12, b13, .pointer (some ⟨g, 3, none⟩), .pointer (some ⟨g, 3, none⟩), .pointer (some ⟨g, 3, none⟩), .pointer (some ⟨g, 6, none⟩), .slice ta tn tc, .pointer (some ⟨g, 3, none⟩), .pointer (some ⟨g, 3, none⟩), .pointer (some ⟨g, 4, none⟩), .slice oa on oc, .slice (some ⟨gs, 0, none⟩) 1 1, .slice (some ⟨gt, 0, none⟩) (tn + 1) ct, (.pointer (some ⟨g, 3, none⟩)), x36, gs, gt, ct, (by simp only [Act.put, List.setIfInBounds_toArray, List.set_cons_zero, List.set_cons_succ]), (by simp only [Act.put, List.setIfInBounds_toArray, List.set_cons_zero, List.set_cons_succ]), hb, (fun _ => rfl), (fun _ => rfl), (fun _ => rfl), (fun _ => rfl), (fun _ => rfl), (fun _ => rfl), (fun _ => rfl), (fun _ => rfl), (fun _ => rfl), (fun _ => rfl), (fun _ => rfl), (fun _ => rfl), cd12, f_g, (fun h => by cases h), (fun _ h => by cases h), f_lo2, f_s, f_o8, f_q4, f_q8, f_kb⟩
      · rintro L a w ⟨b0, b1, b2, b3, b4, b5, b6, b7, b8, b9, b10, b11, b12, b13, x24, x25, x26, x27, x28, x29, x30, x31, x32, x33, x34, x35, x36, gs, gt, ct, rfl, rfl, hb, cd0, cd1, cd2, cd3, cd4, cd5, cd6, cd7, cd8, cd9, cd10, cd11, cd12, f_g, f_lo, f_ls, f_lo2, f_s, f_o8, f_q4, f_q8, f_kb⟩ hf hd
        have hf' : b12 = false := hf
        subst hf'
        have d11 : b11 = true := hd ⟨11, .data⟩ (by simp) rfl
        subst d11
        have d0 : b0 = true := hd ⟨0, .phase⟩ (by simp) rfl
        subst d0
        have d1 : b1 = true := hd ⟨1, .phase⟩ (by simp) rfl
        subst d1
        have d2 : b2 = true := hd ⟨2, .phase⟩ (by simp) rfl
        subst d2
        have d3 : b3 = true := hd ⟨3, .phase⟩ (by simp) rfl
        subst d3
        have d4 : b4 = true := hd ⟨4, .phase⟩ (by simp) rfl
        subst d4
        have d5 : b5 = true := hd ⟨5, .phase⟩ (by simp) rfl
        subst d5
        have d6 : b6 = true := hd ⟨6, .phase⟩ (by simp) rfl
        subst d6
        have d7 : b7 = true := hd ⟨7, .phase⟩ (by simp) rfl
        subst d7
        have d8 : b8 = true := hd ⟨8, .phase⟩ (by simp) rfl
        subst d8
        have d9 : b9 = true := hd ⟨9, .phase⟩ (by simp) rfl
        subst d9
        have d10 : b10 = true := hd ⟨10, .phase⟩ (by simp) rfl
        subst d10
        obtain rfl := cd11.out rfl
        obtain rfl := cd0.out rfl
        obtain rfl := cd1.out rfl
        obtain rfl := cd2.out rfl
        obtain rfl := cd3.out rfl
        obtain rfl := cd4.out rfl
        obtain rfl := cd5.out rfl
        obtain rfl := cd6.out rfl
        obtain rfl := cd7.out rfl
        obtain rfl := cd8.out rfl
        obtain rfl := cd9.out rfl
        obtain rfl := cd10.out rfl
        clear hf hd
        have W_lo2 := f_lo2.out rfl
        have W_kb := f_kb.out
        try simp only [List.setIfInBounds_toArray, List.set_cons_zero, List.set_cons_succ]
        intro K hK
        rw [if_pos (by rfl)]
        go_simp
        exact hK.out _ _ ⟨true, true, true, true, true, true, true, true, true, true, true, true, true, b13, .pointer (some ⟨g, 3, none⟩), .pointer (some ⟨g, 3, none⟩), .pointer (some ⟨g, 3, none⟩), .pointer (some ⟨g, 6, none⟩), .slice ta tn tc, .pointer (some ⟨g, 3, none⟩), .pointer (some ⟨g, 3, none⟩), .pointer (some ⟨g, 4, none⟩), .slice oa on oc, .slice (some ⟨gs, 0, none⟩) 1 1, .slice (some ⟨gt, 0, none⟩) (tn + 1) ct, .pointer (some ⟨g, 3, none⟩), (.pointer (some ⟨g, 6, none⟩)), gs, gt, ct, (by simp only [Act.put, List.setIfInBounds_toArray, List.set_cons_zero, List.set_cons_succ]), (by simp only [Act.put, List.setIfInBounds_toArray, List.set_cons_zero, List.set_cons_succ]), hb, (fun _ => rfl), (fun _ => rfl), (fun _ => rfl), (fun _ => rfl), (fun _ => rfl), (fun _ => rfl), (fun _ => rfl), (fun _ => rfl), (fun _ => rfl), (fun _ => rfl), (fun _ => rfl), (fun _ => rfl), (fun _ => rfl), f_g, (fun h => by cases h), (fun _ h => by cases h), f_lo2, f_s, f_o8, f_q4, f_q8, f_kb⟩
      · rintro L a w ⟨b0, b1, b2, b3, b4, b5, b6, b7, b8, b9, b10, b11, b12, b13, x24, x25, x26, x27, x28, x29, x30, x31, x32, x33, x34, x35, x36, gs, gt, ct, rfl, rfl, hb, cd0, cd1, cd2, cd3, cd4, cd5, cd6, cd7, cd8, cd9, cd10, cd11, cd12, f_g, f_lo, f_ls, f_lo2, f_s, f_o8, f_q4, f_q8, f_kb⟩ hf hd
        have hf' : b13 = false := hf
        subst hf'
        have d12 : b12 = true := hd ⟨12, .data⟩ (by simp) rfl
        subst d12
        have d10 : b10 = true := hd ⟨10, .data⟩ (by simp) rfl
        subst d10
        have d0 : b0 = true := hd ⟨0, .phase⟩ (by simp) rfl
        subst d0
        have d1 : b1 = true := hd ⟨1, .phase⟩ (by simp) rfl
        subst d1
        have d2 : b2 = true := hd ⟨2, .phase⟩ (by simp) rfl
        subst d2
        have d3 : b3 = true := hd ⟨3, .phase⟩ (by simp) rfl
        subst d3
        have d4 : b4 = true := hd ⟨4, .phase⟩ (by simp) rfl
        subst d4
        have d5 : b5 = true := hd ⟨5, .phase⟩ (by simp) rfl
        subst d5
        have d6 : b6 = true := hd ⟨6, .phase⟩ (by simp) rfl
        subst d6
        have d7 : b7 = true := hd ⟨7, .phase⟩ (by simp) rfl
        subst d7
        have d8 : b8 = true := hd ⟨8, .phase⟩ (by simp) rfl
        subst d8
        have d9 : b9 = true := hd ⟨9, .phase⟩ (by simp) rfl
        subst d9
        obtain rfl := cd12.out rfl
        obtain rfl := cd10.out rfl
        obtain rfl := cd0.out rfl
        obtain rfl := cd1.out rfl
        obtain rfl := cd2.out rfl
        obtain rfl := cd3.out rfl
        obtain rfl := cd4.out rfl
        obtain rfl := cd5.out rfl
        obtain rfl := cd6.out rfl
        obtain rfl := cd7.out rfl
        obtain rfl := cd8.out rfl
        obtain rfl := cd9.out rfl
        clear hf hd
        have W_g := f_g.out rfl
        have W_lo2 := f_lo2.out rfl
        have W_kb := f_kb.out
        try simp only [List.setIfInBounds_toArray, List.set_cons_zero, List.set_cons_succ]
        have z6 : w.cell? ⟨g, 6, none⟩ = some (.slice ta tn tc) := W_g.c rfl
        have fz := free_blk (i := 6) W_g
        intro K hK
        rw [if_pos (by rfl)]
        go_simp
        have g9 := grown_cell (grown_self w g) 6 (.slice (some ⟨gt, 0, none⟩) (tn + 1) ct)
        have hb2 := hb.grown g9 (Nat.le_trans hB0 hb.size) (fun z hz => by cases hz; exact Nat.le_refl _)
        exact hK.out _ _ ⟨true, true, true, true, true, true, true, true, true, true, true, b11, true, true, .pointer (some ⟨g, 3, none⟩), .pointer (some ⟨g, 3, none⟩), .pointer (some ⟨g, 3, none⟩), .pointer (some ⟨g, 6, none⟩), .slice ta tn tc, .pointer (some ⟨g, 3, none⟩), .pointer (some ⟨g, 3, none⟩), .pointer (some ⟨g, 4, none⟩), .slice oa on oc, .slice (some ⟨gs, 0, none⟩) 1 1, .slice (some ⟨gt, 0, none⟩) (tn + 1) ct, x35, .pointer (some ⟨g, 6, none⟩), gs, gt, ct, (by simp only [Act.put, List.setIfInBounds_toArray, List.set_cons_zero, List.set_cons_succ]), (by simp only [Act.put, List.setIfInBounds_toArray, List.set_cons_zero, List.set_cons_succ]), hb2, (fun _ => rfl), (fun _ => rfl), (fun _ => rfl), (fun _ => rfl), (fun _ => rfl), (fun _ => rfl), (fun _ => rfl), (fun _ => rfl), (fun _ => rfl), (fun _ => rfl), (fun _ => rfl), cd11, (fun _ => rfl), (fun h => by cases h), (fun h => by cases h), (fun _ h => by cases h), (fun h0 => ((f_lo2.out h0)).grown g9 hgB), (fun _ => df_set W_g 6 _ rfl), (fun _ => rfl), (fun _ => rfl), (fun _ => rfl), ((f_kb.out).grown g9)⟩
    · rintro act V5 ⟨b0, b1, b2, b3, b4, b5, b6, b7, b8, b9, b10, b11, b12, b13, x24, x25, x26, x27, x28, x29, x30, x31, x32, x33, x34, x35, x36, gs, gt, ct, hL, rfl, hb, cd0, cd1, cd2, cd3, cd4, cd5, cd6, cd7, cd8, cd9, cd10, cd11, cd12, f_g, f_lo, f_ls, f_lo2, f_s, f_o8, f_q4, f_q8, f_kb⟩
      have hL' : [true, true, true, true, true, true, true, true, true, true, true, true, true, true] = [b0, b1, b2, b3, b4, b5, b6, b7, b8, b9, b10, b11, b12, b13] := congrArg Array.toList hL
      simp only [List.cons.injEq, and_true] at hL'
      obtain ⟨rfl, rfl, rfl, rfl, rfl, rfl, rfl, rfl, rfl, rfl, rfl, rfl, rfl, rfl⟩ := hL'
      obtain rfl := cd0.out rfl
      obtain rfl := cd1.out rfl
      obtain rfl := cd2.out rfl
      obtain rfl := cd3.out rfl
      obtain rfl := cd4.out rfl
      obtain rfl := cd5.out rfl
      obtain rfl := cd6.out rfl
      obtain rfl := cd7.out rfl
      obtain rfl := cd8.out rfl
      obtain rfl := cd9.out rfl
      obtain rfl := cd10.out rfl
      obtain rfl := cd11.out rfl
      obtain rfl := cd12.out rfl
      have W_lo2 := f_lo2.out rfl
      have W_s := f_s.out rfl
      have W_o8 := f_o8.out rfl
      have W_q4 := f_q4.out rfl
      have W_q8 := f_q8.out rfl
      have W_kb := f_kb.out
      clear hL f_g f_lo f_ls f_lo2 f_s f_o8 f_q4 f_q8 f_kb cd0 cd1 cd2 cd3 cd4 cd5 cd6 cd7 cd8 cd9 cd10 cd11 cd12
      simp only [List.setIfInBounds_toArray, List.set_cons_zero, List.set_cons_succ]
      have BV : Below g w2 V5 := (Below.refl _ _).drew.trans hb
      have B5 := B4.trans BV
      have hX5 : Bk V5 g (dfC 1 0 next oa on oc ba4 bn4 cq (some ⟨gt, 0, none⟩) (tn + 1) ct) 68 := W_s
      have hLo5 : LgX V5 B9 t none 0 0 ba4 bn4 cq (some ⟨gt, 0, none⟩) (tn + 1) ct ⟨M4.next, [], M4.bl, M4.ts ++ [M4.op]⟩ := W_lo2
      have hK5 : SameB B9 t g w1 V5 := W_kb
      have hB5 : B9 ≤ V5.heap.size := Nat.le_trans hBV BV.size
      clear hb W_kb W_s W_lo2 W_o8 W_q4 W_q8 BV hX2 hLo2 B4 hBV
      obtain ⟨c3, c4, c5, c6⟩ := df_cells hX5
      have f4 := free_blk (i := 4) hX5
      go_wp2_with fail
      have X6 := df_set hX5 4 (.slice none 0 0) (cs := dfC 1 0 next none 0 0 ba4 bn4 cq (some ⟨gt, 0, none⟩) (tn + 1) ct) rfl
      have g6 := grown_cell (grown_self V5 g) 4 (.slice none 0 0)
      go_ret
      refine ⟨none, 0, 0, ba4, bn4, cq, _, _, _, rfl, X6, ?_, B5.grown g6 (by have := hX5.lt; omega) (fun z hz => by cases hz; exact Nat.le_refl _), Nat.le_trans hB5 g6.size, hK1.trans (hK5.grown g6)⟩
      have := hLo5.grown g6 hgB
      rw [← HM4.out] at this
      rw [HNN.out]
      exact this
end Go.Proofs.YtdmnjjknkcnkgaaDoor
