/-
  Pieces of a slice of bytes; append to a row of slices of the call's own.
-/
import Derived.Test.YtpphlmbhonaglaaDoorBytes
import Derived.Deep.Upon
import Derived.Test.YtpphlmbhonaglaaDoorGen
namespace Go.Proofs.YtpphlmbhonaglaaDoor
open Go.RowKit

/-- NIL, OR A ROW OF THE CALL'S OWN from block base on: n bytes l. -/
def OwnN (w : World) (e : TypeId) (base : Nat) (v : Value) (n : Nat) (l : List UInt8) : Prop :=
  (v = .slice none 0 0 ∧ n = 0 ∧ l = []) ∨ ∃ g cap, v = .slice (some ⟨g, 0, none⟩) n cap ∧ base ≤ g ∧ OwnB w e g n cap l
theorem OwnN.nil (w : World) (e : TypeId) (base : Nat) : OwnN w e base (.slice none 0 0) 0 [] := .inl ⟨rfl, rfl, rfl⟩
theorem OwnN.kept {w w' : World} {e : TypeId} {base : Nat} {v : Value} {n : Nat} {l : List UInt8} (h : OwnN w e base v n l) (hb : Below w.heap.size w w') : OwnN w' e base v n l := by
  rcases h with h | ⟨g, cap, rfl, hg, ho⟩
  · exact .inl h
  · exact .inr ⟨g, cap, rfl, hg, ho.below hb ho.lt⟩
theorem OwnN.isB {w : World} {e : TypeId} {base : Nat} {v : Value} {n : Nat} {l : List UInt8} (h : OwnN w e base v n l) : ∃ ao cap, v = .slice ao n cap ∧ IsB w ao n cap l := by
  rcases h with ⟨rfl, rfl, rfl⟩ | ⟨g, cap, rfl, hg, ho⟩
  · exact ⟨none, 0, rfl, IsB.nilB w⟩
  · exact ⟨_, cap, rfl, ho.isB⟩
theorem run_append_on {P : Program} (w : World) (t tx ty e : TypeId) (hB : ByteTy P t e) (base : Nat) (v : Value) (n : Nat) (l : List UInt8) (h : OwnN w e base v n l) (hbase : base ≤ w.heap.size)
    (x : Value) (m : Nat) (cs : List UInt8) (hs : Src P 1 tx x m (bcs cs) w) (hmax : n + m ≤ 70368744177664) :
    ∃ v' w', (Builtin.append_ #[t, tx] ty #[v, x]).run P w = .ok v' w' ∧ OwnN w' e base v' (n + m) (l ++ cs) ∧ Below base w w' := by
  rcases h with ⟨rfl, rfl, rfl⟩ | ⟨g, cap, rfl, hg, ho⟩
  · obtain ⟨i, hi, hz, hsize, hby⟩ := hB.info
    have ht := hB.ht
    have hs' : Src P i.size tx x m (bcs cs) w := by rw [hsize]; exact hs
    have hcl : cs.length = m := by have := hs.newsLen; rw [bcs_length, Nat.mul_one] at this; exact this
    by_cases hm : m = 0
    · subst hm
      have : cs = [] := List.eq_nil_of_length_eq_zero hcl
      subst this
      exact ⟨_, _, run_append_nothing w t tx ty e i ht hi none 0 0 (Nat.le_refl _) x hs', .inl ⟨rfl, rfl, rfl⟩, Below.refl _ _⟩
    · have hr := run_append_grow_src (P := P) w t tx ty e i (.int .u8 0) ht hi hz none 0 0 [] (run_firstCells_none _ _ _ _ _) x m (bcs cs) hs' (by omega) (by omega) (growslice_fits (by omega) (by rw [hby]; omega))
      have hge := grownCap_ge w (0 + m) 0 e
      have hcm : grownCap w (0 + m) 0 e ≤ maxLen := grownCap_le_maxLen w (0 + m) 0 e (by simp only [maxLen]; omega)
      refine ⟨_, _, hr, .inr ⟨_, _, rfl, hbase, ⟨by simp [hcl], hge, hcm, _, heap_alloc_new w.drew _, ?_, ?_⟩⟩, ((Below.refl _ _).drew.alloc hbase _)⟩
      · simp only [Array.size_append, List.size_toArray, size_zeroCells, List.length_append, bcs_length, Value.cells, List.length_nil]
        generalize grownCap w (0 + m) 0 e = G at hge
        simp
        omega
      · simp only [List.nil_append, Array.toList_append]
        rw [Nat.zero_add, ← hcl, ← bcs_length cs]
        exact List.take_left
  · obtain ⟨g', cap', w', hr, h1, h2, h3⟩ := run_append_ob (P := P) w t tx ty e hB g n cap l ho x m cs hs hmax
    exact ⟨_, w', hr, .inr ⟨g', cap', rfl, by rcases h3 with h3 | h3 <;> omega, h1⟩, h2.below hg hbase⟩
/-- The same, as the walk meets it. -/
theorem wpList_append_on {P : Program} {w : World} {ops : Array Oper} {rest : List Oper} {o : Oper} {a : Act} {Q : Exit → Act → World → Prop} (hgd : o.guard = none) (s x : Operand) (t tx : TypeId)
    (ho : o.op = .call { callee := .builtin .append, args := #[s, x], argTypes := #[t, tx] }) (e : TypeId) (hB : ByteTy P t e) (base : Nat) (v : Value) (n : Nat) (l : List UInt8) (hsv : a.eval s = v) (h : OwnN w e base v n l) (hbase : base ≤ w.heap.size)
    (X : Value) (hx : a.eval x = X) (m : Nat) (cs : List UInt8) (hs : Src P 1 tx X m (bcs cs) w) (hmax : n + m ≤ 70368744177664)
    (hK : ∀ v' w', OwnN w' e base v' (n + m) (l ++ cs) → Below base w w' → wpList P ops Q rest (a.put o.dst v') w') :
    wpList P ops Q (o :: rest) a w := by
  refine wpList_plain hgd fun K hK' => ?_
  obtain ⟨v', w', hr, h1, h2⟩ := run_append_on (P := P) w t tx o.type e hB base v n l h hbase X m cs hs hmax
  unfold Oper.wp execOp
  simp only [ho, resolve, invoke, builtin, Sem.run_bind, Sem.run_pure, Result.andThen_ok, List.map_toArray, List.map_cons, List.map_nil, hsv, hx, hr]
  exact hK' _ _ (hK v' w' h1 h2)
end Go.Proofs.YtpphlmbhonaglaaDoor

namespace Go.Proofs.YtpphlmbhonaglaaDoor
open Go.RowKit

theorem IsB_mid {P : Program} {w : World} {ao : Option Addr} {n cap : Nat} {l : List UInt8} {t : TypeId} (h : IsB w ao n cap l) (ht : P.underlying t = some (.slice (P.elem t))) (hz : ∀ w' : World, (sizeOf (P.elem t)).run P w' = .ok 1 w') (lo hi : Nat) (h1 : lo ≤ hi) (h2 : hi ≤ n) :
    ∃ ao2, (∀ w' : World, (Instr.slice t (.slice ao n cap) (some (.int .i64 lo)) (some (.int .i64 hi)) none).run P w' = .ok (.slice ao2 (hi - lo) (cap - lo)) w') ∧ IsB w ao2 (hi - lo) (cap - lo) ((l.drop lo).take (hi - lo)) := by
  have hle := h.le
  have hrun : ∀ w' : World, (Instr.slice t (.slice ao n cap) (some (.int .i64 lo)) (some (.int .i64 hi)) none).run P w' = .ok (sliced ao lo hi cap 1) w' := fun w' => by
    rw [run_slice_lh w' t ao n cap ht .i64 .i64 (lo : Int) (hi : Int) (by omega) (by omega) (by omega), hz]
    simp [Result.andThen]
  by_cases he : cap = lo
  · have hn : n = lo := by omega
    have hh : hi = lo := by omega
    refine ⟨ao, fun w' => by rw [hrun, sliced, if_pos he], ?_⟩
    subst he
    subst hn
    subst hh
    rw [Nat.sub_self]
    have e : (l.drop hi).take 0 = l.drop hi := by
      have := h.len
      rw [List.take_zero, List.drop_eq_nil_of_le (by omega)]
    rw [e]
    exact IsB_end h
  · refine ⟨ao.map fun x => x.add lo, fun w' => by rw [hrun, sliced, if_neg he]; simp, ?_⟩
    have hd := IsB_drop h (m := lo) (by omega)
    exact IsB_take hd (m := hi - lo) (by omega)
/-- 'b[:k]'. -/
theorem IsB_head {P : Program} {w : World} {ao : Option Addr} {n cap : Nat} {l : List UInt8} {t : TypeId} (h : IsB w ao n cap l) (ht : P.underlying t = some (.slice (P.elem t))) (hz : ∀ w' : World, (sizeOf (P.elem t)).run P w' = .ok 1 w') (hi : Nat) (h2 : hi ≤ n) :
    ∃ ao2, (∀ w' : World, (Instr.slice t (.slice ao n cap) none (some (.int .i64 hi)) none).run P w' = .ok (.slice ao2 hi cap) w') ∧ IsB w ao2 hi cap (l.take hi) := by
  have hle := h.le
  have hrun : ∀ w' : World, (Instr.slice t (.slice ao n cap) none (some (.int .i64 hi)) none).run P w' = .ok (sliced ao 0 hi cap 1) w' := fun w' => by
    rw [run_slice_h w' t ao n cap ht .i64 (hi : Int) (by omega) (by omega), hz]
    simp [Result.andThen]
  by_cases he : cap = 0
  · exact ⟨ao, fun w' => by rw [hrun, sliced, if_pos he]; simp, IsB_take h h2⟩
  · refine ⟨ao.map fun x => x.add 0, fun w' => by rw [hrun, sliced, if_neg he]; simp, ?_⟩
    have hd := IsB_drop h (m := 0) (by omega)
    have := IsB_take hd (m := hi) (by omega)
    simpa using this

/-- A ROW OF THE CALL'S OWN, of slices that read as the pieces ps in the world w0. -/
def OwnP (w0 w : World) (base : Nat) (v : Value) (k : Nat) (ps : List (List UInt8)) : Prop :=
  ∃ xs, w.ownsRow base 36 1 v k xs ∧ ps.length = k ∧ ∀ j, j < k → ∃ bo bn bc, xs[j]? = some (.slice bo bn bc) ∧ IsB w0 bo bn bc (ps.getD j [])
theorem OwnP.nil (w0 w : World) (base : Nat) : OwnP w0 w base (.slice none 0 0) 0 [] := ⟨[], ⟨rfl, .inl ⟨rfl, rfl⟩⟩, rfl, fun j hj => by omega⟩
theorem OwnP.isP {w0 w : World} {base : Nat} {v : Value} {k : Nat} {ps : List (List UInt8)} (h : OwnP w0 w base v k ps) (hb : Below w0.heap.size w0 w) : ∃ ao cap, v = .slice ao k cap ∧ IsP w ao k ps := by
  obtain ⟨xs, ⟨hl, ho⟩, hp, hx⟩ := h
  rcases ho with ⟨rfl, rfl⟩ | ⟨g, cap, cur, rfl, hg, hc, hn, hm, hs, ht⟩
  · have : ps = [] := List.eq_nil_of_length_eq_zero hp
    subst this
    exact ⟨none, 0, rfl, isP_nil w none⟩
  · refine ⟨_, _, rfl, hp, fun _ => ⟨_, rfl⟩, fun a ha j hj => ?_⟩
    obtain rfl := Option.some.inj ha
    obtain ⟨bo, bn, bc, h1, h2⟩ := hx j hj
    refine ⟨bo, bn, bc, ?_, h2.past hb⟩
    rw [Addr.add_lit, Nat.zero_add, cell_of_row w g j cur _ (0, 0) hc]
    rw [← ht, Nat.mul_one, List.getElem?_take_of_lt hj] at h1
    simpa using h1
theorem OwnP.alloc {w0 w : World} {base : Nat} {v : Value} {k : Nat} {ps : List (List UInt8)} (h : OwnP w0 w base v k ps) (o : Obj) : OwnP w0 (w.alloc o) base v k ps := by
  obtain ⟨xs, ho, hp, hx⟩ := h
  exact ⟨xs, ho.alloc o, hp, hx⟩
theorem OwnP.ge {w0 w : World} {base : Nat} {v : Value} {k : Nat} {ps : List (List UInt8)} (h : OwnP w0 w base v k ps) (g : Nat) (hg : v.ownBlock = some g) : base ≤ g := by
  obtain ⟨xs, ⟨_, ho⟩, _, _⟩ := h
  rcases ho with ⟨rfl, rfl⟩ | ⟨g', cap, cur, rfl, hg', _⟩
  · cases hg
  · cases hg
    exact hg'
theorem OwnP.step {w0 w w' : World} {B base : Nat} {v : Value} {k : Nat} {ps : List (List UInt8)} {o : Obj} (h : OwnP w0 w base v k ps) (hb : Below B w0 w) (hB : B ≤ w.heap.size) (hbase : B ≤ base) (g : (w.alloc o).grownBy w' v.ownBlock) : Below B w0 w' :=
  (hb.alloc hB o).grown g (by simp; omega) (fun k hk => Nat.le_trans hbase (h.ge k hk))
theorem cell_new (w : World) (v : Value) (t : TypeId) : (w.alloc (.cells #[v] t)).cell? ⟨w.heap.size, 0, none⟩ = some v := by
  rw [cell_of_row _ _ _ _ t (0, 0) (heap_alloc_new w _)]
  rfl
theorem info_row : (Tryd.prog.info? 36).map (fun i => (i.zero, i.size, i.bytes)) = some (some (.slice none 0 0), 1, 24) := by kernel_rfl
/-- append of one piece. -/
theorem wpList_append_piece {w0 w : World} {ops : Array Oper} {rest : List Oper} {o : Oper} {a : Act} {Q : Exit → Act → World → Prop} (hgd : o.guard = none) (s x : Operand)
    (ho : o.op = .call { callee := .builtin .append, args := #[s, x], argTypes := #[51, 51] }) (base : Nat) (hbase : base ≤ w.heap.size)
    (v : Value) (k : Nat) (ps : List (List UInt8)) (hs : a.eval s = v) (hown : OwnP w0 w base v k ps) (g : Nat) (bo : Option Addr) (bn bc : Nat) (l : List UInt8) (hx : a.eval x = .slice (some ⟨g, 0, none⟩) 1 1)
    (hcell : w.cell? ⟨g, 0, none⟩ = some (.slice bo bn bc)) (hl : IsB w0 bo bn bc l) (hk : k ≤ 1000000)
    (h : ∀ v' w', OwnP w0 w' base v' (k + 1) (ps ++ [l]) → w.grownBy w' v.ownBlock → wpList Tryd.prog ops Q rest (a.put o.dst v') w') : wpList Tryd.prog ops Q (o :: rest) a w := by
  obtain ⟨xs, ho2, hp, hxs⟩ := hown
  obtain ⟨i0, hi, hz0, hz1, hz2⟩ := info_parts info_row
  refine wpList_append_own w hgd s x 51 ho base 36 i0 (.slice none 0 0) 1 24 Tryd.underlying51 hi hz0 hz1 hz2 rfl (by decide) v k xs hs ho2 ⟨g, 0, none⟩ 1 1 [.slice bo bn bc] hx rfl ?_ ?_ (by unfold maxLen; omega) (by omega) hbase fun v' w' h1 h2 _ => h v' w' ⟨_, h1, by simp [hp], fun j hj => ?_⟩ h2
  · intro j u hu
    obtain rfl : j = 0 := by have := (List.getElem?_eq_some_iff.1 hu).1; simpa using this
    simp at hu
    rw [← hu, Addr.add_lit]
    exact hcell
  · intro u hu
    simp at hu
    subst hu
    rfl
  · have hxl : xs.length = k := by have := ho2.1; omega
    by_cases hjk : j < k
    · obtain ⟨b1, b2, b3, h3, h4⟩ := hxs j hjk
      refine ⟨b1, b2, b3, ?_, ?_⟩
      · rw [List.getElem?_append_left (by omega)]
        exact h3
      · have e : (ps ++ [l]).getD j [] = ps.getD j [] := by simp only [List.getD]; rw [List.getElem?_append_left (by omega)]
        rw [e]
        exact h4
    · obtain rfl : j = k := by omega
      refine ⟨bo, bn, bc, ?_, ?_⟩
      · rw [List.getElem?_append_right (by omega)]
        simp [hxl]
      · have e : (ps ++ [l]).getD j [] = l := by simp only [List.getD]; rw [List.getElem?_append_right (by omega)]; simp [hp]
        rw [e]
        exact hl
end Go.Proofs.YtpphlmbhonaglaaDoor
