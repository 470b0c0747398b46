/-
  What stands while sessions are come upon: marks, the holds by session, who is to be gone on from (by gen_lks.py).
-/
import Derived.Test.YtllijeciodmckaaLkM
import Derived.Test.YtllijeciodmckaaLkB
import Derived.Test.YtllijeciodmckaaEI
namespace Go.Proofs.Ytllijeciodmckaa
open Go.RowKit Go.Maps
set_option linter.unusedSimpArgs false
theorem int_inf : (Try.prog.info? 3).map (fun i => (i.zero, i.size, i.bytes)) = some (some (.int .i64 0), 1, 8) := by kernel_rfl
theorem rowTyI : RowTy EI Try.prog 73 3 (0 : Int) := by
  obtain ⟨i, h1, h2, h3, h4⟩ := info_parts int_inf
  exact ⟨Try.underlying73, i, _, h1, h2, h3, rfl, by rw [h4]; decide⟩
/-- The marks, when those of L have got m. -/
def curL (cur : Int → Nat) (m : Nat) (L : List Int) : Int → Nat := fun x => if x ∈ L then cur x ||| m else cur x
structure SpI (W0 w : World) (mb n : Nat) (S : Nat → Prop) (cur : Int → Nat) (m ob mn : Nat) (M : List Hd) (f : Int → Option (Nat × Nat × Nat)) (O : List Int) (oa : Option Addr) (N c : Nat) (L : List Int) (n' : Nat) (S' : Nat → Prop) : Prop where
  opn : RowO EI w 3 ob oa N c O
  mks : Mk w mb n' S' (curL cur m L)
  le : n' ≤ n + L.length
  kp : Kp W0 w S
  ext : Ext W0 S S'
  gp : GpF w ob mn ob M f
  fo : ¬ S' ob
  fg : ∀ x g k c, f x = some (g, k, c) → ¬ S' g
  oS : ∀ z, Go.Proofs.Ytllijeciodmckaa.blk oa = some z → ¬ S' z ∧ z ≠ ob ∧ ∀ x g k c, f x = some (g, k, c) → z ≠ g
  ge : W0.heap.size ≤ ob
  pos : 0 < N
section
variable {W0 w w' : World} {mb n : Nat} {S : Nat → Prop} {cur : Int → Nat} {m ob mn : Nat} {M : List Hd} {f : Int → Option (Nat × Nat × Nat)} {O : List Int} {oa : Option Addr} {N c : Nat} {L : List Int} {n' : Nat} {S' : Nat → Prop}
theorem SpI.past (h : SpI W0 w mb n S cur m ob mn M f O oa N c L n' S') (b : Below w.heap.size w w') : SpI W0 w' mb n S cur m ob mn M f O oa N c L n' S' :=
  ⟨h.opn.past b, h.mks.past b, h.le, h.kp.trans (Kp.ofBelow b S) (fun _ _ h => h), h.ext, h.gp.past b, h.fo, h.fg, h.oS, h.ge, h.pos⟩
theorem SpI.blkO (h : SpI W0 w mb n S cur m ob mn M f O oa N c L n' S') : ∃ g, Go.Proofs.Ytllijeciodmckaa.blk oa = some g ∧ g < w.heap.size ∧ ob ≤ g := by
  have hp := h.pos
  rcases h.opn.either with ⟨rfl, rfl, _⟩ | ⟨g, off, pre, rfl, _, o, hg⟩
  · omega
  · exact ⟨g, rfl, o.lt, hg⟩
theorem SpI.size (h : SpI W0 w mb n S cur m ob mn M f O oa N c L n' S') : W0.heap.size ≤ w.heap.size := h.kp.size
theorem GpF.kp {T : Nat → Prop} {w w' : World} {ob n B : Nat} {l : List Hd} {f : Int → Option (Nat × Nat × Nat)} (h : GpF w ob n B l f) (k : Kp w w' T) (h1 : ¬ T ob) (h2 : ∀ x g k c, f x = some (g, k, c) → ¬ T g) : GpF w' ob n B l f :=
  ⟨h.map.kept (k.block ob h.map.lt h1), h.ge, h.none, fun x g q c hx => ⟨(h.row x g q c hx).1.kp k (h2 x g q c hx), (h.row x g q c hx).2⟩, h.one⟩
/-- Marks have turned. -/
theorem SpI.put (h : SpI W0 w mb n S cur m ob mn M f O oa N c L n' S') {n'' : Nat} {S'' : Nat → Prop} {L' : List Int} (hm : Mk w' mb n'' S'' (curL cur m L')) (hn : n'' ≤ n + L'.length) (k : Kp w w' S') (x : Ext w S' S'') : SpI W0 w' mb n S cur m ob mn M f O oa N c L' n'' S'' := by
  have far : ∀ q, q < w.heap.size → ¬ S' q → ¬ S'' q := fun q hq h1 h2 => by
    rcases x q h2 with h3 | h3
    · exact h1 h3
    · omega
  refine ⟨h.opn.kept fun z hz hzl => k.block z hzl (h.oS z hz).1, hm, hn, h.kp.trans k fun q hq hs => ?_, h.ext.trans x h.kp.size, h.gp.kp k h.fo h.fg, far ob h.gp.map.lt h.fo, fun y g q c hy => far g (h.gp.row y g q c hy).1.lt (h.fg y g q c hy), fun z hz => ⟨?_, (h.oS z hz).2⟩, h.ge, h.pos⟩
  · rcases h.ext q hs with h1 | h1
    · exact h1
    · omega
  · obtain ⟨g, hg, h1, h2⟩ := h.blkO
    rw [hg] at hz
    cases hz
    exact far _ h1 (h.oS _ hg).1
/-- One more is to be gone on from. -/
theorem SpI.app (h : SpI W0 w mb n S cur m ob mn M f O oa N c L n' S') {O' : List Int} {oa' : Option Addr} {N' c' : Nat} (ho : RowO EI w' 3 ob oa' N' c' O') (hg : w.grownBy w' (Go.Proofs.Ytllijeciodmckaa.blk oa))
    (hb : Go.Proofs.Ytllijeciodmckaa.blk oa' = Go.Proofs.Ytllijeciodmckaa.blk oa ∨ ∃ g, oa' = some ⟨g, 0, none⟩ ∧ w.heap.size ≤ g) (hp : 0 < N') : SpI W0 w' mb n S cur m ob mn M f O' oa' N' c' L n' S' := by
  have hk : Kp w w' (fun q => Go.Proofs.Ytllijeciodmckaa.blk oa = some q) := Kp.ofGrown hg fun g e => e
  refine ⟨ho, h.mks.kp hk fun q hq e => (h.oS q e).1 hq, h.le, h.kp.trans hk fun q hq e => ?_, h.ext, h.gp.kp hk (fun e => (h.oS ob e).2.1 rfl) fun x g q c hx e => (h.oS g e).2.2 x g q c hx rfl, h.fo, h.fg, fun z hz => ?_, h.ge, hp⟩
  · obtain ⟨g, h1, _, h2⟩ := h.blkO
    rw [h1] at e
    cases e
    have := h.ge
    omega
  · rcases hb with hb | ⟨g, rfl, hg2⟩
    · exact h.oS z (by rw [← hb]; exact hz)
    · cases hz
      refine ⟨fun e => ?_, ?_, fun x g2 q c hx e => ?_⟩
      · have := h.mks.lt g e; omega
      · intro e
        have e' : g = ob := e
        have := h.gp.map.lt; omega
      · have e' : g = g2 := e
        have := (h.gp.row x g2 q c hx).1.lt; omega
end
theorem RowO.neT {α : Type} {E : Enc α} {w : World} {e t : TypeId} {B g : Nat} {ao : Option Addr} {n c : Nat} {l : List α} {cs : Array Value} (h : RowO E w e B ao n c l) (hn : 0 < n) (hg : w.heap[g]? = some (.cells cs t (0, 0))) (hne : e ≠ t) : some g ≠ Go.Proofs.Ytllijeciodmckaa.blk ao := by
  rcases h.either with ⟨rfl, _⟩ | ⟨q, off, pre, rfl, hp, o, hq⟩
  · omega
  · intro e1
    obtain rfl := Option.some.inj e1
    obtain ⟨cur, hc, _⟩ := o.row
    rw [hg] at hc
    injection hc with hc
    injection hc with _ h2
    exact hne h2.symm
theorem or_and (x m : Nat) (hx : x ≤ 3) (hm : m = 1 ∨ m = 2) : (x ||| m) &&& m ≠ 0 ∧ (x ||| m) ||| m = x ||| m := by
  have h : x = 0 ∨ x = 1 ∨ x = 2 ∨ x = 3 := by omega
  rcases h with rfl | rfl | rfl | rfl <;> rcases hm with rfl | rfl <;> decide
theorem curL_in (cur : Int → Nat) (m : Nat) (hc : ∀ x, cur x ≤ 3) (hm : m = 1 ∨ m = 2) (L : List Int) (y : Int) (hy : y ∈ L) : decide (curL cur m L y &&& m = 0) = false ∧ (fun z => if z = y then curL cur m L y ||| m else curL cur m L z) = curL cur m L := by
  have h := or_and (cur y) m (hc y) hm
  have e : curL cur m L y = cur y ||| m := if_pos hy
  refine ⟨decide_eq_false (by rw [e]; exact h.1), funext fun z => ?_⟩
  by_cases q : z = y
  · rw [if_pos q, q, e, h.2]
  · rw [if_neg q]
theorem curL_out (cur : Int → Nat) (m : Nat) (hz : ∀ x, cur x &&& m = 0) (L : List Int) (y : Int) (hy : y ∉ L) : decide (curL cur m L y &&& m = 0) = true ∧ (fun z => if z = y then curL cur m L y ||| m else curL cur m L z) = curL cur m (L ++ [y]) := by
  have e : curL cur m L y = cur y := if_neg hy
  refine ⟨decide_eq_true (by rw [e]; exact hz y), funext fun z => ?_⟩
  unfold curL
  by_cases q : z = y
  · subst q
    rw [if_pos rfl, if_neg hy, if_pos (by simp)]
  · rw [if_neg q]
    by_cases h : z ∈ L
    · rw [if_pos h, if_pos (by simp [h])]
    · rw [if_neg h, if_neg (by simp [h, q])]
theorem take_all {l : List Hd} {y : Hd} {j : Nat} {P : Hd → Prop} (hn : ∀ z ∈ l.take j, P z) (hj : l[j]? = some y) (he : P y) : ∀ z ∈ l.take (j + 1), P z := by
  intro z hz
  rw [List.take_add_one, hj] at hz
  rcases List.mem_append.1 hz with hz | hz
  · exact hn z hz
  · obtain rfl : z = y := by simpa using hz
    exact he
theorem at_head {s a : Int} {L : List Int} {i : Nat} (h : (s :: L)[i]? = some a) : a = s ∨ a ∈ L := by
  have := List.mem_of_getElem? h
  simpa using this
theorem at_more {s a y : Int} {L : List Int} {i : Nat} (h : (s :: L)[i]? = some a) : (s :: (L ++ [y]))[i]? = some a := by
  rw [← List.cons_append, List.getElem?_append_left (List.getElem?_eq_some_iff.1 h).1]
  exact h
/-- What spread does. -/
def SpPost (mb n : Nat) (S : Nat → Prop) (cur : Int → Nat) (m : Nat) (s : Int) (M T : List Hd) (w w' : World) : Prop :=
  ∃ n' S' L, Mk w' mb n' S' (curL cur m L) ∧ (∀ x, x ∈ L ↔ Rch M T s x) ∧ n' ≤ n + T.length ∧ Kp w w' S ∧ Ext w S S'
end Go.Proofs.Ytllijeciodmckaa
