/-
  append to a slice of bytes that is nil or the call's own, of whatever.
-/
import Derived.Test.YtlcfjiiejmnghaaDoorBytes
import Derived.Deep.Upon
namespace Go.Proofs.YtlcfjiiejmnghaaDoor
open Go.RowKit

/-- NIL, OR A ROW OF THE CALL'S OWN from block base on: n bytes l. -/
def OwnN (w : World) (e : TypeId) (base : Nat) (v : Value) (n : Nat) (l : List UInt8) : Prop :=
  (v = .slice none 0 0 ∧ n = 0 ∧ l = []) ∨ ∃ g cap, v = .slice (some ⟨g, 0, none⟩) n cap ∧ base ≤ g ∧ OwnB w e g n cap l
theorem OwnN.nil (w : World) (e : TypeId) (base : Nat) : OwnN w e base (.slice none 0 0) 0 [] := .inl ⟨rfl, rfl, rfl⟩
theorem OwnN.kept {w w' : World} {e : TypeId} {base : Nat} {v : Value} {n : Nat} {l : List UInt8} (h : OwnN w e base v n l) (hb : Below w.heap.size w w') : OwnN w' e base v n l := by
  rcases h with h | ⟨g, cap, rfl, hg, ho⟩
  · exact .inl h
  · exact .inr ⟨g, cap, rfl, hg, ho.below hb ho.lt⟩
theorem OwnN.isB {w : World} {e : TypeId} {base : Nat} {v : Value} {n : Nat} {l : List UInt8} (h : OwnN w e base v n l) : ∃ ao cap, v = .slice ao n cap ∧ IsB w ao n cap l := by
  rcases h with ⟨rfl, rfl, rfl⟩ | ⟨g, cap, rfl, hg, ho⟩
  · exact ⟨none, 0, rfl, IsB.nilB w⟩
  · exact ⟨_, cap, rfl, ho.isB⟩
theorem run_append_on {P : Program} (w : World) (t tx ty e : TypeId) (hB : ByteTy P t e) (base : Nat) (v : Value) (n : Nat) (l : List UInt8) (h : OwnN w e base v n l) (hbase : base ≤ w.heap.size)
    (x : Value) (m : Nat) (cs : List UInt8) (hs : Src P 1 tx x m (bcs cs) w) (hmax : n + m ≤ 70368744177664) :
    ∃ v' w', (Builtin.append_ #[t, tx] ty #[v, x]).run P w = .ok v' w' ∧ OwnN w' e base v' (n + m) (l ++ cs) ∧ Below base w w' := by
  rcases h with ⟨rfl, rfl, rfl⟩ | ⟨g, cap, rfl, hg, ho⟩
  · obtain ⟨i, hi, hz, hsize, hby⟩ := hB.info
    have ht := hB.ht
    have hs' : Src P i.size tx x m (bcs cs) w := by rw [hsize]; exact hs
    have hcl : cs.length = m := by have := hs.newsLen; rw [bcs_length, Nat.mul_one] at this; exact this
    by_cases hm : m = 0
    · subst hm
      have : cs = [] := List.eq_nil_of_length_eq_zero hcl
      subst this
      exact ⟨_, _, run_append_nothing w t tx ty e i ht hi none 0 0 (Nat.le_refl _) x hs', .inl ⟨rfl, rfl, rfl⟩, Below.refl _ _⟩
    · have hr := run_append_grow_src (P := P) w t tx ty e i (.int .u8 0) ht hi hz none 0 0 [] (run_firstCells_none _ _ _ _ _) x m (bcs cs) hs' (by omega) (by omega) (growslice_fits (by omega) (by rw [hby]; omega))
      have hge := grownCap_ge w (0 + m) 0 e
      have hcm : grownCap w (0 + m) 0 e ≤ maxLen := grownCap_le_maxLen w (0 + m) 0 e (by simp only [maxLen]; omega)
      refine ⟨_, _, hr, .inr ⟨_, _, rfl, hbase, ⟨by simp [hcl], hge, hcm, _, heap_alloc_new w.drew _, ?_, ?_⟩⟩, ((Below.refl _ _).drew.alloc hbase _)⟩
      · simp only [Array.size_append, List.size_toArray, size_zeroCells, List.length_append, bcs_length, Value.cells, List.length_nil]
        generalize grownCap w (0 + m) 0 e = G at hge
        simp
        omega
      · simp only [List.nil_append, Array.toList_append]
        rw [Nat.zero_add, ← hcl, ← bcs_length cs]
        exact List.take_left
  · obtain ⟨g', cap', w', hr, h1, h2, h3⟩ := run_append_ob (P := P) w t tx ty e hB g n cap l ho x m cs hs hmax
    exact ⟨_, w', hr, .inr ⟨g', cap', rfl, by rcases h3 with h3 | h3 <;> omega, h1⟩, h2.below hg hbase⟩
/-- The same, as the walk meets it. -/
theorem wpList_append_on {P : Program} {w : World} {ops : Array Oper} {rest : List Oper} {o : Oper} {a : Act} {Q : Exit → Act → World → Prop} (hgd : o.guard = none) (s x : Operand) (t tx : TypeId)
    (ho : o.op = .call { callee := .builtin .append, args := #[s, x], argTypes := #[t, tx] }) (e : TypeId) (hB : ByteTy P t e) (base : Nat) (v : Value) (n : Nat) (l : List UInt8) (hsv : a.eval s = v) (h : OwnN w e base v n l) (hbase : base ≤ w.heap.size)
    (X : Value) (hx : a.eval x = X) (m : Nat) (cs : List UInt8) (hs : Src P 1 tx X m (bcs cs) w) (hmax : n + m ≤ 70368744177664)
    (hK : ∀ v' w', OwnN w' e base v' (n + m) (l ++ cs) → Below base w w' → wpList P ops Q rest (a.put o.dst v') w') :
    wpList P ops Q (o :: rest) a w := by
  refine wpList_plain hgd fun K hK' => ?_
  obtain ⟨v', w', hr, h1, h2⟩ := run_append_on (P := P) w t tx o.type e hB base v n l h hbase X m cs hs hmax
  unfold Oper.wp execOp
  simp only [ho, resolve, invoke, builtin, Sem.run_bind, Sem.run_pure, Result.andThen_ok, List.map_toArray, List.map_cons, List.map_nil, hsv, hx, hr]
  exact hK' _ _ (hK v' w' h1 h2)
end Go.Proofs.YtlcfjiiejmnghaaDoor
