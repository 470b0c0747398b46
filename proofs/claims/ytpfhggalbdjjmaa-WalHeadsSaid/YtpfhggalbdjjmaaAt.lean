/-
  Bytes at an address: a whole load, a whole store, a copy into part of a block. Of no program.
-/
import Derived.Test.YtpfhggalbdjjmaaBytes
import Derived.Still
import Derived.StillTailTactics
import Derived.Deep.RegionHeld
import Derived.Laws.CopyOwn
namespace Go.Proofs.Ytpfhggalbdjjmaa
open Go.RowKit

/-- AT a LIE THE BYTES l. -/
def AtA (w : World) (a : Addr) (l : List UInt8) : Prop := ∀ j u, l[j]? = some u → w.cell? (a.add j) = some (bc u)
theorem AtA.past {w w' : World} {a : Addr} {l : List UInt8} (h : AtA w a l) (hb : Below w.heap.size w w') : AtA w' a l := fun j u hu => by
  have hc := h j u hu
  rw [hb.cell (World.block_lt_of_cell? w _ hc)]
  exact hc
theorem run_load_at {P : Program} (w : World) (ty : TypeId) (a : Addr) (l : List UInt8) (n : Nat) (e : TypeId) (hu : P.underlying ty = some (.array n e)) (hi : (P.info? ty).map (·.size) = some l.length) (h : AtA w a l) : (loadVar ty a).run P w = .ok (.agg (bcs l).toArray) w := by
  have hl : (loadCells a (bcs l).length).run P w = .ok (bcs l).toArray w :=
    run_loadCells_list (P := P) w a (bcs l) (fun j v hv => by
      rw [bcs_get] at hv
      obtain ⟨x, hx, rfl⟩ := Option.map_eq_some_iff.1 hv
      exact h j x hx)
  rw [bcs_length] at hl
  cases hq : P.info? ty with
  | none => simp [hq] at hi
  | some i =>
    have hs : i.size = l.length := by simpa [hq] using hi
    have hagg : (isAgg ty).run P w = .ok true w := by
      unfold isAgg
      rw [Sem.run_bind, run_underlying hu w]
      rfl
    simp [loadVar, Sem.run_bind, hagg, sizeOf, typeInfo, hq, hs, hl]
theorem wp_load_at {P : Program} {o : Oper} {a : Act} {w : World} {K : Act → World → Prop} {Q : Exit → Act → World → Prop} (ty : TypeId) (x : Operand) (ho : o.op = .load ty x)
    (p : Addr) (hx : a.eval x = .pointer (some p)) (l : List UInt8) (hc : AtA w p l) (n : Nat) (e : TypeId) (hu : P.underlying ty = some (.array n e)) (hi : (P.info? ty).map (·.size) = some l.length)
    (h : K (a.put o.dst (.agg (bcs l).toArray)) w) : o.wp P a w K Q := by
  unfold Oper.wp execOp
  simp only [ho, hx, Instr.loadAt, Instr.sureAddr, Sem.run_bind, Sem.run_pure, Result.andThen_ok, run_load_at w ty p l n e hu hi hc]
  exact h
theorem wpList_load_at {P : Program} {ops : Array Oper} {rest : List Oper} {o : Oper} {a : Act} {w : World} {Q : Exit → Act → World → Prop} (hgd : o.guard = none) (ty : TypeId) (x : Operand) (ho : o.op = .load ty x)
    (p : Addr) (hx : a.eval x = .pointer (some p)) (l : List UInt8) (hc : AtA w p l) (n : Nat) (e : TypeId) (hu : P.underlying ty = some (.array n e)) (hi : (P.info? ty).map (·.size) = some l.length)
    (h : wpList P ops Q rest (a.put o.dst (.agg (bcs l).toArray)) w) : wpList P ops Q (o :: rest) a w :=
  wpList_plain hgd fun _ hK => wp_load_at ty x ho p hx l hc n e hu hi (hK _ _ h)
theorem wpStill_load_at {P : Program} {ops : Array Oper} {w : World} {Q : Act → Prop} {a : Act} {o : Oper} {rest : List Oper} (hgd : Region.wanted o (yielded ops a.tmps) = true) (ty : TypeId) (x : Operand) (ho : o.op = .load ty x)
    (p : Addr) (hx : a.eval x = .pointer (some p)) (l : List UInt8) (hc : AtA w p l) (n : Nat) (e : TypeId) (hu : P.underlying ty = some (.array n e)) (hi : (P.info? ty).map (·.size) = some l.length)
    (h : wpStill P ops w Q rest (a.put o.dst (.agg (bcs l).toArray))) : wpStill P ops w Q (o :: rest) a := by
  simp only [wpStill]
  rw [if_pos hgd]
  unfold Oper.still execOp
  simp only [ho, hx, Instr.loadAt, Instr.sureAddr, Sem.run_bind, Sem.run_pure, Result.andThen_ok, run_load_at w ty p l n e hu hi hc, Oper.stillUpon]
  exact ⟨trivial, h⟩
theorem yieldsIf_load_at {P : Program} {ops : Array Oper} {S : World → Prop} {op : Oper} {a : Act} (hw : Region.wanted op (yielded ops a.tmps) = true) (ty : TypeId) (x : Operand) (ho : op.op = .load ty x)
    (p : Addr) (hx : a.eval x = .pointer (some p)) (l : List UInt8) (hS : ∀ w, S w → AtA w p l) (n : Nat) (e : TypeId) (hu : P.underlying ty = some (.array n e)) (hi : (P.info? ty).map (·.size) = some l.length) : YieldsIf P ops S op (.agg (bcs l).toArray) a :=
  .inl ⟨hw, fun w hw' => by
    unfold execOp
    simp only [ho, hx, Instr.loadAt, Instr.sureAddr, Sem.run_bind, Sem.run_pure, Result.andThen_ok, run_load_at w ty p l n e hu hi (hS w hw')]⟩

theorem wp_store_in {P : Program} {o : Oper} {a : Act} {w : World} {K : Act → World → Prop} {Q : Exit → Act → World → Prop} (ty : TypeId) (x y : Operand) (ho : o.op = .store ty x y)
    (g i : Nat) (cs old : List Value) (t : TypeId) (hx : a.eval x = .pointer (some ⟨g, i, none⟩)) (hy : a.eval y = .agg cs.toArray) (hg : w.heap[g]? = some (.cells old.toArray t (0, 0)))
    (n : Nat) (hi : (P.info? ty).map (·.size) = some n) (hn : cs.length = n) (hl : i + n ≤ old.length) (h1 : cs.toArray.all (·.oneCell') = true)
    (hK : ∀ w', w'.heap[g]? = some (.cells (old.take i ++ cs ++ old.drop (i + n)).toArray t (0, 0)) → w.grownBy w' (some g) → K (a.put o.dst undef) w') : o.wp P a w K Q := by
  have hst := run_storeCells_at P g i t cs 0 old.toArray w hg (by simp; omega) (fun v hv => (Array.all_eq_true_iff_forall_mem.1 h1) v (by simpa using hv))
  simp only [Nat.add_zero] at hst
  have hr : (storeVar ty ⟨g, i, none⟩ (.agg cs.toArray)).run P w = .ok () (w.setRow g (old.take i ++ cs ++ old.drop (i + n)).toArray) := by
    cases hq : P.info? ty with
    | none => simp [hq] at hi
    | some ii =>
      have hs : ii.size = n := by simpa [hq] using hi
      simp [storeVar, sizeOf, typeInfo, hq, Value.cells, hs, hn, hst]
  unfold Oper.wp execOp
  simp only [ho, hx, hy, Instr.storeAt, Instr.sureAddr, Sem.run_bind, Sem.run_pure, Result.andThen_ok, hr]
  exact hK _ (setRow_heap w g _ _ _ _ hg) ⟨rfl, rfl, rfl, by simp, fun k _ hk => setRow_other w g k _ (fun e => hk (by rw [e]))⟩
/-- copy, into part of a block. -/
theorem run_copy_at {P : Program} (w : World) (dT sT ty elem : TypeId) (hu : P.underlying dT = some (.slice elem)) (hsz : (P.info? elem).map (·.size) = some 1) (g o dn dc : Nat) (cur : Array Value) (t : TypeId) (hg : w.heap[g]? = some (.cells cur t (0, 0)))
    (ao : Option Addr) (m mc : Nat) (p : List UInt8) (hp : IsB w ao m mc p) (k : Nat) (hk : k = min m dn) (hfit : o + k ≤ cur.size) :
    ∃ w', (Builtin.copy_ #[dT, sT] ty #[.slice (some ⟨g, o, none⟩) dn dc, .slice ao m mc]).run P w = .ok (.int .i64 k) w' ∧ w'.heap[g]? = some (.cells (cur.toList.take o ++ bcs (p.take k) ++ cur.toList.drop (o + k)).toArray t (0, 0)) ∧ w.grownBy w' (some g) := by
  have hpl := hp.len
  have hcl : (p.take k).length = k := by rw [List.length_take]; omega
  have hbl : (bcs (p.take k)).length = k := by rw [bcs_length, hcl]
  cases ao with
  | none =>
    have h1 := hp.nil rfl
    have h2 := hp.le
    obtain rfl : m = 0 := by omega
    obtain rfl : mc = 0 := h1
    obtain rfl : k = 0 := by omega
    refine ⟨w, run_copy_nil P w dT sT ty elem _ dn dc hu (by rw [hsz]; rfl), ?_, World.grownBy.refl _ _⟩
    simp [bcs, hg]
  | some ad =>
    have hrun := run_copy_row (P := P) w dT sT ty elem g o dn dc ad m mc cur t (bcs (p.take k)) hu hsz hg
      (by rw [hbl, hk])
      (fun j v hj => by
        rw [bcs_get] at hj
        obtain ⟨x, hx, rfl⟩ := Option.map_eq_some_iff.1 hj
        refine hp.cell ad rfl j x ?_
        rw [List.getElem?_take] at hx
        split at hx
        · exact hx
        · cases hx)
      (by rw [hbl]; exact hfit) (bcs_one _)
    rw [hbl] at hrun
    exact ⟨_, hrun, setRow_heap w g _ _ _ _ hg, ⟨rfl, rfl, rfl, by simp, fun j _ hj => setRow_other w g j _ (fun e => hj (by rw [e]))⟩⟩
theorem wp_copy_at {P : Program} {o : Oper} {a : Act} {w : World} {K : Act → World → Prop} {Q : Exit → Act → World → Prop} (d s : Operand) (dT sT : TypeId)
    (ho : o.op = .call { callee := .builtin .copy, args := #[d, s], argTypes := #[dT, sT] }) (elem : TypeId) (hu : P.underlying dT = some (.slice elem)) (hsz : (P.info? elem).map (·.size) = some 1)
    (g i dn dc : Nat) (hd : a.eval d = .slice (some ⟨g, i, none⟩) dn dc) (cur : Array Value) (t : TypeId) (hg : w.heap[g]? = some (.cells cur t (0, 0)))
    (ao : Option Addr) (m mc : Nat) (p : List UInt8) (hs : a.eval s = .slice ao m mc) (hp : IsB w ao m mc p) (k : Nat) (hk : k = min m dn) (hfit : i + k ≤ cur.size)
    (h : ∀ w', w'.heap[g]? = some (.cells (cur.toList.take i ++ bcs (p.take k) ++ cur.toList.drop (i + k)).toArray t (0, 0)) → w.grownBy w' (some g) → K (a.put o.dst (.int .i64 k)) w') : o.wp P a w K Q := by
  obtain ⟨w', hr, h1, h2⟩ := run_copy_at (P := P) w dT sT o.type elem hu hsz g i dn dc cur t hg ao m mc p hp k hk hfit
  unfold Oper.wp execOp
  simp only [ho, resolve, invoke, builtin, hd, hs, hr, Sem.run_bind, Sem.run_pure, Result.andThen_ok, List.map_toArray, List.map_cons, List.map_nil]
  exact h w' h1 h2
/-- copy, into a row of the call's own. -/
theorem OwnB.spliced {w w' : World} {e : TypeId} {g n c i k : Nat} {l q : List UInt8} {cur : Array Value} (h : OwnB w e g n c l) (hg : w.heap[g]? = some (.cells cur e (0, 0))) (hq : q.length = k) (hi : i + k ≤ n)
    (hw : w'.heap[g]? = some (.cells (cur.toList.take i ++ bcs q ++ cur.toList.drop (i + k)).toArray e (0, 0))) : OwnB w' e g n c (l.take i ++ q ++ l.drop (i + k)) := by
  obtain ⟨cur', hg', hs, ht⟩ := h.row
  rw [hg] at hg'
  obtain rfl : cur = cur' := by simpa using hg'
  have hl := h.len
  have hle := h.le
  have hcl : cur.toList.length = c := by simpa using hs
  refine ⟨by simp [hq, hl]; omega, hle, h.max, _, hw, by simp [bcs_length, hq, hs]; omega, ?_⟩
  have e1 : cur.toList = bcs l ++ cur.toList.drop n := by rw [← ht, List.take_append_drop]
  have e2 : cur.toList.take i = bcs (l.take i) := by rw [e1, List.take_append_of_le_length (by rw [bcs_length]; omega), bcs_take]
  have e3 : cur.toList.drop (i + k) = bcs (l.drop (i + k)) ++ cur.toList.drop n := by
    conv => lhs; rw [e1]
    rw [List.drop_append_of_le_length (by rw [bcs_length]; omega)]
    simp [bcs]
  show List.take n (cur.toList.take i ++ bcs q ++ cur.toList.drop (i + k)) = _
  rw [e2, e3, ← List.append_assoc, ← bcs_append, ← bcs_append]
  exact List.take_left' (by rw [bcs_length]; simp [hq, hl]; omega)
theorem wpList_copy_ob {P : Program} {ops : Array Oper} {rest : List Oper} {o : Oper} {a : Act} {w : World} {Q : Exit → Act → World → Prop} (hgd : o.guard = none) (d s : Operand) (dT sT : TypeId)
    (ho : o.op = .call { callee := .builtin .copy, args := #[d, s], argTypes := #[dT, sT] }) (elem : TypeId) (hu : P.underlying dT = some (.slice elem)) (hsz : (P.info? elem).map (·.size) = some 1)
    (g n c : Nat) (l : List UInt8) (e : TypeId) (hd : a.eval d = .slice (some ⟨g, 0, none⟩) n c) (hO : OwnB w e g n c l)
    (ao : Option Addr) (m mc : Nat) (p : List UInt8) (hs : a.eval s = .slice ao m mc) (hp : IsB w ao m mc p)
    (h : ∀ w', OwnB w' e g n c (p.take (min m n) ++ l.drop (min m n)) → w.grownBy w' (some g) → wpList P ops Q rest (a.put o.dst (.int .i64 (min m n : Nat))) w') : wpList P ops Q (o :: rest) a w := by
  obtain ⟨cur, hg, hs', ht⟩ := id hO.row
  have hle := hO.le
  have hpl := hp.len
  refine wpList_plain hgd fun K hK => wp_copy_at d s dT sT ho elem hu hsz g 0 n c hd cur e hg ao m mc p hs hp (min m n) rfl (by omega) fun w' h1 h2 => hK _ _ (h w' ?_ h2)
  have := hO.spliced (i := 0) (k := min m n) hg (by rw [List.length_take]; omega) (by omega) h1
  simpa using this
/-- A slice that holds something lies in some block, at some place. -/
theorem IsB.open {w : World} {ao : Option Addr} {n c : Nat} {l : List UInt8} (h : IsB w ao n c l) (hn : 0 < n) : ∃ b off, ao = some ⟨b, off, none⟩ ∧ b < w.heap.size ∧ ∀ j u, l[j]? = some u → w.cell? ⟨b, off + j, none⟩ = some (bc u) := by
  cases ao with
  | none => have := h.nil rfl; have := h.le; omega
  | some a =>
    obtain ⟨b, off, spot⟩ := a
    have hl := h.len
    have h0 := h.cell _ rfl 0 _ (List.getElem?_eq_getElem (by omega))
    have hspot : spot = none := by simpa [Addr.add] using World.cell?_spot h0
    subst hspot
    refine ⟨b, off, rfl, World.block_lt_of_cell? w _ h0, fun j u hu => ?_⟩
    have := h.cell _ rfl j u hu
    rwa [Addr.add_lit] at this
theorem wpAnyH_renew {P : Program} {ops : Array Oper} {Q : Exit → Act → World → Prop} {md : Region.Mode} {S S' : World → Prop} (hS : ∀ w, S' w → S w) :
    ∀ (fuel : Nat) (listed : Array Bool) (a : Act) (w : World), wpAnyH P md ops Q S' fuel listed a w → wpAnyH P md ops Q S fuel listed a w
  | 0, _, _, _, h => h
  | fuel + 1, _, _, _, h => ⟨h.1, fun i hi => wpOp_mono (fun a' w' h' => ⟨hS _ h'.1, wpAnyH_renew hS fuel _ a' w' h'.2⟩) (h.2 i hi)⟩
end Go.Proofs.Ytpfhggalbdjjmaa
