/-
  What the walk through mix wants: a new schedule is built and stored; arrays of bytes are read and compared.
-/
import Derived.Test.YtlcfjiiejmnghaaDoorShaDo
import Derived.Test.YtlcfjiiejmnghaaDoorTakeIn
import Derived.Test.YtlcfjiiejmnghaaDoorRot
import Derived.Test.YtlcfjiiejmnghaaDoorHash
import Derived.Stop.BytesEq
import Derived.Deep.MidRow
namespace Go.Proofs.YtlcfjiiejmnghaaDoor
open Go.RowKit

theorem wpStill_load_mid {P : Program} {ops : Array Oper} {w : World} {Q : Act → Prop} {a : Act} {o : Oper} {rest : List Oper} (hgd : o.guard = none) (ty : TypeId) (x : Operand) (ho : o.op = .load ty x)
    (b i : Nat) (hx : a.eval x = .pointer (some ⟨b, i, none⟩)) (cs : List Value) (d : TypeDesc) (hc : w.rangeAt b i cs) (hu : P.underlying ty = some d) (hd : d.isRow = true) (hi : (P.info? ty).map (·.size) = some cs.length)
    (h : wpStill P ops w Q rest (a.put o.dst (.agg cs.toArray))) : wpStill P ops w Q (o :: rest) a := by
  have hw : Region.wanted o (yielded ops a.tmps) = true := by simp [Region.wanted, hgd]
  simp only [wpStill]
  rw [if_pos hw]
  unfold Oper.still execOp
  simp only [ho, hx, Instr.loadAt, Instr.sureAddr, Sem.run_bind, Sem.run_pure, Result.andThen_ok, run_loadVar_mid w b i ty cs d hc hu hd hi, Oper.stillUpon]
  exact ⟨trivial, h⟩
theorem foldl_set (off : Nat) : ∀ (l : List Value) (k : Nat) (cs : Array Value), off + k + l.length ≤ cs.size →
    ((l.zipIdx k).foldl (fun cs (x : Value × Nat) => cs.setIfInBounds (off + x.2) x.1) cs).toList = cs.toList.take (off + k) ++ l ++ cs.toList.drop (off + k + l.length)
  | [], k, cs, _ => by simp
  | v :: l, k, cs, h => by
    simp only [List.length_cons] at h
    simp only [List.zipIdx_cons, List.foldl_cons]
    rw [foldl_set off l (k + 1) _ (by simp; omega)]
    simp only [Array.toList_setIfInBounds, List.length_cons]
    have hk : off + k < cs.toList.length := by simp; omega
    rw [← Nat.add_assoc, List.take_add_one, List.getElem?_set_self hk, List.take_set_of_le (Nat.le_refl _), List.drop_set_of_lt (by omega)]
    simp
    rw [show off + k + 1 + l.length = off + k + (l.length + 1) by omega]
theorem fill_one (place : Nat → Option (Nat × Nat)) (z : Array Value) (i off n : Nat) (C : List Value) (hp : place i = some (off, n)) (hn : C.length = n) (hz : off + n ≤ z.size) :
    Instr.fill place z [(i, .agg C.toArray)] = some (z.toList.take off ++ C ++ z.toList.drop (off + n)).toArray := by
  have hs : (Value.agg C.toArray).cells.size = n := by simp [Value.cells, hn]
  rw [Instr.fill, hp]
  simp only [hs]
  rw [if_neg (by simp; omega)]
  simp only [Instr.fill, Value.cells]
  congr 1
  apply Array.toList_inj.1
  have := foldl_set off C 0 z (by omega)
  simp only [Nat.add_zero, hn] at this
  rw [← this]
  simp
/-- A new schedule of a block. -/
def newSch (blk : List UInt8) : List Value := bcs blk ++ (onceV false ++ (List.replicate 64 (0 : UInt32)).map cu)
theorem newSch_length (blk : List UInt8) (h : blk.length = 64) : (newSch blk).length = 131 := by simp [newSch, bcs_length, h, onceV]
theorem newSch_one (blk : List UInt8) : (newSch blk).toArray.all (·.oneCell') = true := by
  simp only [Array.all_eq_true_iff_forall_mem, List.mem_toArray, newSch, List.mem_append]
  rintro v (hv | hv | hv)
  · exact bcs_one _ v hv
  · have : (onceV false).all (·.oneCell') = true := rfl
    exact List.all_eq_true.1 this v hv
  · obtain ⟨x, _, rfl⟩ := List.mem_map.1 hv
    rfl
theorem sch_info : (Tryd.prog.info? 74).map (fun i => i.zero) = some (some (.agg (newSch (List.replicate 64 0)).toArray)) := by kernel_rfl
theorem sch_size : (Tryd.prog.info? 74).map (·.size) = some 131 := by kernel_rfl
theorem sch_places : (match Tryd.prog.underlying 74 with | some (.struct fields) => fields.toList.mapM (fun f => (Tryd.prog.info? f.type).map fun i => (f.offset, i.size)) | _ => none) = some [(0, 64), (64, 3), (67, 64)] := by kernel_rfl
theorem built_sch (blk : List UInt8) (h : blk.length = 64) : Tryd.prog.built 74 [(0, .agg (bcs blk).toArray)] = some (newSch blk).toArray := by
  have hi := sch_info
  have hp := sch_places
  unfold Program.built
  cases h1 : Tryd.prog.info? 74 with
  | none => rw [h1] at hi; cases hi
  | some it =>
    rw [h1] at hi
    simp only [Option.map_some, Option.some.injEq] at hi
    cases h2 : Tryd.prog.underlying 74 with
    | none => rw [h2] at hp; cases hp
    | some d =>
      rw [h2] at hp
      cases d <;> try (cases hp; done)
      simp only at hp
      simp only [hi, hp]
      rw [fill_one _ _ 0 0 64 (bcs blk) rfl (by rw [bcs_length, h]) (by simp [Value.cells, newSch_length])]
      simp only [Value.cells, List.take_zero, List.nil_append]
      congr 2
/-- Part of a block that is known whole is written. -/
theorem wpList_store_in {P : Program} {ops : Array Oper} {rest : List Oper} {o : Oper} {a : Act} {w : World} {Q : Exit → Act → World → Prop} (hgd : o.guard = none) (ty : TypeId) (x y : Operand) (ho : o.op = .store ty x y)
    (g i : Nat) (cs old : List Value) (t : TypeId) (hx : a.eval x = .pointer (some ⟨g, i, none⟩)) (hy : a.eval y = .agg cs.toArray) (hg : w.heap[g]? = some (.cells old.toArray t (0, 0)))
    (n : Nat) (hi : (P.info? ty).map (·.size) = some n) (hn : cs.length = n) (hl : i + n ≤ old.length) (h1 : cs.toArray.all (·.oneCell') = true)
    (hK : ∀ w', w'.heap[g]? = some (.cells (old.take i ++ cs ++ old.drop (i + n)).toArray t (0, 0)) → w.grownBy w' (some g) → wpList P ops Q rest (a.put o.dst undef) w') : wpList P ops Q (o :: rest) a w := by
  refine wpList_plain hgd fun K hK' => ?_
  have hst := run_storeCells_at P g i t cs 0 old.toArray w hg (by simp; omega) (fun v hv => (Array.all_eq_true_iff_forall_mem.1 h1) v (by simpa using hv))
  simp only [Nat.add_zero] at hst
  have hr : (storeVar ty ⟨g, i, none⟩ (.agg cs.toArray)).run P w = .ok () (w.setRow g (old.take i ++ cs ++ old.drop (i + n)).toArray) := by
    cases hq : P.info? ty with
    | none => simp [hq] at hi
    | some ii =>
      have hs : ii.size = n := by simpa [hq] using hi
      simp [storeVar, sizeOf, typeInfo, hq, Value.cells, hs, hn, hst]
  unfold Oper.wp execOp
  simp only [ho, hx, hy, Instr.storeAt, Instr.sureAddr, Sem.run_bind, Sem.run_pure, Result.andThen_ok, hr]
  exact hK' _ _ (hK _ (setRow_heap w g _ _ _ _ hg) ⟨rfl, rfl, rfl, by simp, fun k _ hk => setRow_other w g k _ (fun e => hk (by rw [e]))⟩)
theorem Sm.renew {w w' : World} {g used : Nat} {len : Int} {st sch : List UInt32} {blk last : List UInt8} {mid : List Value} (h : Sm w g st blk used len last mid sch)
    (hw : w'.heap[g]? = some (.cells ((smL st blk used len last mid sch).take 74 ++ newSch blk ++ (smL st blk used len last mid sch).drop (74 + 131)).toArray 76 (0, 0))) :
    Sm w' g st blk used len blk (onceV false) (List.replicate 64 0) := by
  refine ⟨hw.trans ?_, h.l1, h.l2, h.l2, by simp, rfl⟩
  congr 3
  have a1 := h.l1
  have a2 := h.l2
  have a3 := h.l3
  have a4 := h.l4
  have am := h.lm
  have el : (smL st blk used len last mid sch).length = 205 := by simp [smL, bcs_length, a1, a2, a3, a4, am]
  rw [List.drop_of_length_le (by omega), List.append_nil]
  have e1 : smL st blk used len last mid sch = (st.map cu ++ (bcs blk ++ [Value.int .i64 used, Value.int .u64 len])) ++ (bcs last ++ (mid ++ sch.map cu)) := by simp [smL]
  have e2 : (st.map cu ++ (bcs blk ++ [Value.int .i64 used, Value.int .u64 len])).length = 74 := by simp [bcs_length, a1, a2]
  rw [e1, ← e2, List.take_left]
  simp [smL, newSch]
theorem Sm.blk_range {w : World} {g used : Nat} {len : Int} {st sch : List UInt32} {blk last : List UInt8} {mid : List Value} (h : Sm w g st blk used len last mid sch) : w.rangeAt g 8 (bcs blk) := fun j v hv => by
  have hj : j < blk.length := by have := (List.getElem?_eq_some_iff.1 hv).1; rwa [bcs_length] at this
  rw [h.blk_cell j (by rw [← h.l2]; exact hj), ← hv, bcs_get]
  simp [List.getD, hj, bc, ub]
theorem Sm.last_range {w : World} {g used : Nat} {len : Int} {st sch : List UInt32} {blk last : List UInt8} {mid : List Value} (h : Sm w g st blk used len last mid sch) : w.rangeAt g 74 (bcs last) := fun j v hv => by
  have hj : j < last.length := by have := (List.getElem?_eq_some_iff.1 hv).1; rwa [bcs_length] at this
  rw [h.last_cell j (by rw [← h.l3]; exact hj), ← hv, bcs_get]
  simp [List.getD, hj, bc, ub]
theorem size_blk : (Tryd.prog.info? 59).map (·.size) = some 64 := by kernel_rfl
theorem equal_blk (a b : List UInt8) (ha : a.length = 64) (hb : b.length = 64) (w : World) : (Op.equalIn 10000 59 (.agg (bcs a).toArray) (.agg (bcs b).toArray)).run Tryd.prog w = .ok (a == b) w :=
  run_equalIn_bytes w 9998 59 5 64 Tryd.underlying59 Tryd.underlying5 (fun w' => by kernel_rfl) a b ha hb
theorem idx8 (T : St) (t : Nat) (ht : t < 8) (w : World) : (Instr.index 57 (.agg #[.int .u32 (u T.a), .int .u32 (u T.b), .int .u32 (u T.c), .int .u32 (u T.d), .int .u32 (u T.e), .int .u32 (u T.f), .int .u32 (u T.g), .int .u32 (u T.h)]) (.int .i64 (t : Int))).run Tryd.prog w = .ok (.int .u32 (u (T.l.getD t 0))) w := by
  obtain rfl | rfl | rfl | rfl | rfl | rfl | rfl | rfl : t = 0 ∨ t = 1 ∨ t = 2 ∨ t = 3 ∨ t = 4 ∨ t = 5 ∨ t = 6 ∨ t = 7 := by omega
  all_goals kernel_rfl
end Go.Proofs.YtlcfjiiejmnghaaDoor
