/-
  The contract of mix.
-/
import Derived.Test.YtpphlmbhonaglaaDoorShaDo
import Derived.Test.YtpphlmbhonaglaaDoorTakeIn
import Derived.Test.YtpphlmbhonaglaaDoorRot
import Derived.Test.YtpphlmbhonaglaaDoorHash
import Derived.Stop.BytesEq
import Derived.Deep.MidRow
namespace Go.Proofs.YtpphlmbhonaglaaDoor
open Go.RowKit

theorem wpStill_load_mid {P : Program} {ops : Array Oper} {w : World} {Q : Act → Prop} {a : Act} {o : Oper} {rest : List Oper} (hgd : o.guard = none) (ty : TypeId) (x : Operand) (ho : o.op = .load ty x)
    (b i : Nat) (hx : a.eval x = .pointer (some ⟨b, i, none⟩)) (cs : List Value) (d : TypeDesc) (hc : w.rangeAt b i cs) (hu : P.underlying ty = some d) (hd : d.isRow = true) (hi : (P.info? ty).map (·.size) = some cs.length)
    (h : wpStill P ops w Q rest (a.put o.dst (.agg cs.toArray))) : wpStill P ops w Q (o :: rest) a := by
  have hw : Region.wanted o (yielded ops a.tmps) = true := by simp [Region.wanted, hgd]
  simp only [wpStill]
  rw [if_pos hw]
  unfold Oper.still execOp
  simp only [ho, hx, Instr.loadAt, Instr.sureAddr, Sem.run_bind, Sem.run_pure, Result.andThen_ok, run_loadVar_mid w b i ty cs d hc hu hd hi, Oper.stillUpon]
  exact ⟨trivial, h⟩
theorem foldl_set (off : Nat) : ∀ (l : List Value) (k : Nat) (cs : Array Value), off + k + l.length ≤ cs.size →
    ((l.zipIdx k).foldl (fun cs (x : Value × Nat) => cs.setIfInBounds (off + x.2) x.1) cs).toList = cs.toList.take (off + k) ++ l ++ cs.toList.drop (off + k + l.length)
  | [], k, cs, _ => by simp
  | v :: l, k, cs, h => by
    simp only [List.length_cons] at h
    simp only [List.zipIdx_cons, List.foldl_cons]
    rw [foldl_set off l (k + 1) _ (by simp; omega)]
    simp only [Array.toList_setIfInBounds, List.length_cons]
    have hk : off + k < cs.toList.length := by simp; omega
    rw [← Nat.add_assoc, List.take_add_one, List.getElem?_set_self hk, List.take_set_of_le (Nat.le_refl _), List.drop_set_of_lt (by omega)]
    simp
    rw [show off + k + 1 + l.length = off + k + (l.length + 1) by omega]
theorem fill_one (place : Nat → Option (Nat × Nat)) (z : Array Value) (i off n : Nat) (C : List Value) (hp : place i = some (off, n)) (hn : C.length = n) (hz : off + n ≤ z.size) :
    Instr.fill place z [(i, .agg C.toArray)] = some (z.toList.take off ++ C ++ z.toList.drop (off + n)).toArray := by
  have hs : (Value.agg C.toArray).cells.size = n := by simp [Value.cells, hn]
  rw [Instr.fill, hp]
  simp only [hs]
  rw [if_neg (by simp; omega)]
  simp only [Instr.fill, Value.cells]
  congr 1
  apply Array.toList_inj.1
  have := foldl_set off C 0 z (by omega)
  simp only [Nat.add_zero, hn] at this
  rw [← this]
  simp
/-- A new schedule of a block. -/
def newSch (blk : List UInt8) : List Value := bcs blk ++ (onceV false ++ (List.replicate 64 (0 : UInt32)).map cu)
theorem newSch_length (blk : List UInt8) (h : blk.length = 64) : (newSch blk).length = 131 := by simp [newSch, bcs_length, h, onceV]
theorem newSch_one (blk : List UInt8) : (newSch blk).toArray.all (·.oneCell') = true := by
  simp only [Array.all_eq_true_iff_forall_mem, List.mem_toArray, newSch, List.mem_append]
  rintro v (hv | hv | hv)
  · exact bcs_one _ v hv
  · have : (onceV false).all (·.oneCell') = true := rfl
    exact List.all_eq_true.1 this v hv
  · obtain ⟨x, _, rfl⟩ := List.mem_map.1 hv
    rfl
theorem sch_info : (Tryd.prog.info? 66).map (fun i => i.zero) = some (some (.agg (newSch (List.replicate 64 0)).toArray)) := by kernel_rfl
theorem sch_size : (Tryd.prog.info? 66).map (·.size) = some 131 := by kernel_rfl
theorem sch_places : (match Tryd.prog.underlying 66 with | some (.struct fields) => fields.toList.mapM (fun f => (Tryd.prog.info? f.type).map fun i => (f.offset, i.size)) | _ => none) = some [(0, 64), (64, 3), (67, 64)] := by kernel_rfl
theorem built_sch (blk : List UInt8) (h : blk.length = 64) : Tryd.prog.built 66 [(0, .agg (bcs blk).toArray)] = some (newSch blk).toArray := by
  have hi := sch_info
  have hp := sch_places
  unfold Program.built
  cases h1 : Tryd.prog.info? 66 with
  | none => rw [h1] at hi; cases hi
  | some it =>
    rw [h1] at hi
    simp only [Option.map_some, Option.some.injEq] at hi
    cases h2 : Tryd.prog.underlying 66 with
    | none => rw [h2] at hp; cases hp
    | some d =>
      rw [h2] at hp
      cases d <;> try (cases hp; done)
      simp only at hp
      simp only [hi, hp]
      rw [fill_one _ _ 0 0 64 (bcs blk) rfl (by rw [bcs_length, h]) (by simp [Value.cells, newSch_length])]
      simp only [Value.cells, List.take_zero, List.nil_append]
      congr 2
/-- Part of a block that is known whole is written. -/
theorem wpList_store_in {P : Program} {ops : Array Oper} {rest : List Oper} {o : Oper} {a : Act} {w : World} {Q : Exit → Act → World → Prop} (hgd : o.guard = none) (ty : TypeId) (x y : Operand) (ho : o.op = .store ty x y)
    (g i : Nat) (cs old : List Value) (t : TypeId) (hx : a.eval x = .pointer (some ⟨g, i, none⟩)) (hy : a.eval y = .agg cs.toArray) (hg : w.heap[g]? = some (.cells old.toArray t (0, 0)))
    (n : Nat) (hi : (P.info? ty).map (·.size) = some n) (hn : cs.length = n) (hl : i + n ≤ old.length) (h1 : cs.toArray.all (·.oneCell') = true)
    (hK : ∀ w', w'.heap[g]? = some (.cells (old.take i ++ cs ++ old.drop (i + n)).toArray t (0, 0)) → w.grownBy w' (some g) → wpList P ops Q rest (a.put o.dst undef) w') : wpList P ops Q (o :: rest) a w := by
  refine wpList_plain hgd fun K hK' => ?_
  have hst := run_storeCells_at P g i t cs 0 old.toArray w hg (by simp; omega) (fun v hv => (Array.all_eq_true_iff_forall_mem.1 h1) v (by simpa using hv))
  simp only [Nat.add_zero] at hst
  have hr : (storeVar ty ⟨g, i, none⟩ (.agg cs.toArray)).run P w = .ok () (w.setRow g (old.take i ++ cs ++ old.drop (i + n)).toArray) := by
    cases hq : P.info? ty with
    | none => simp [hq] at hi
    | some ii =>
      have hs : ii.size = n := by simpa [hq] using hi
      simp [storeVar, sizeOf, typeInfo, hq, Value.cells, hs, hn, hst]
  unfold Oper.wp execOp
  simp only [ho, hx, hy, Instr.storeAt, Instr.sureAddr, Sem.run_bind, Sem.run_pure, Result.andThen_ok, hr]
  exact hK' _ _ (hK _ (setRow_heap w g _ _ _ _ hg) ⟨rfl, rfl, rfl, by simp, fun k _ hk => setRow_other w g k _ (fun e => hk (by rw [e]))⟩)
theorem Sm.renew {w w' : World} {g used : Nat} {len : Int} {st sch : List UInt32} {blk last : List UInt8} {mid : List Value} (h : Sm w g st blk used len last mid sch)
    (hw : w'.heap[g]? = some (.cells ((smL st blk used len last mid sch).take 74 ++ newSch blk ++ (smL st blk used len last mid sch).drop (74 + 131)).toArray 68 (0, 0))) :
    Sm w' g st blk used len blk (onceV false) (List.replicate 64 0) := by
  refine ⟨hw.trans ?_, h.l1, h.l2, h.l2, by simp, rfl⟩
  congr 3
  have a1 := h.l1
  have a2 := h.l2
  have a3 := h.l3
  have a4 := h.l4
  have am := h.lm
  have el : (smL st blk used len last mid sch).length = 205 := by simp [smL, bcs_length, a1, a2, a3, a4, am]
  rw [List.drop_of_length_le (by omega), List.append_nil]
  have e1 : smL st blk used len last mid sch = (st.map cu ++ (bcs blk ++ [Value.int .i64 used, Value.int .u64 len])) ++ (bcs last ++ (mid ++ sch.map cu)) := by simp [smL]
  have e2 : (st.map cu ++ (bcs blk ++ [Value.int .i64 used, Value.int .u64 len])).length = 74 := by simp [bcs_length, a1, a2]
  rw [e1, ← e2, List.take_left]
  simp [smL, newSch]
theorem Sm.blk_range {w : World} {g used : Nat} {len : Int} {st sch : List UInt32} {blk last : List UInt8} {mid : List Value} (h : Sm w g st blk used len last mid sch) : w.rangeAt g 8 (bcs blk) := fun j v hv => by
  have hj : j < blk.length := by have := (List.getElem?_eq_some_iff.1 hv).1; rwa [bcs_length] at this
  rw [h.blk_cell j (by rw [← h.l2]; exact hj), ← hv, bcs_get]
  simp [List.getD, hj, bc, ub]
theorem Sm.last_range {w : World} {g used : Nat} {len : Int} {st sch : List UInt32} {blk last : List UInt8} {mid : List Value} (h : Sm w g st blk used len last mid sch) : w.rangeAt g 74 (bcs last) := fun j v hv => by
  have hj : j < last.length := by have := (List.getElem?_eq_some_iff.1 hv).1; rwa [bcs_length] at this
  rw [h.last_cell j (by rw [← h.l3]; exact hj), ← hv, bcs_get]
  simp [List.getD, hj, bc, ub]
theorem size_blk : (Tryd.prog.info? 53).map (·.size) = some 64 := by kernel_rfl
theorem equal_blk (a b : List UInt8) (ha : a.length = 64) (hb : b.length = 64) (w : World) : (Op.equalIn 10000 53 (.agg (bcs a).toArray) (.agg (bcs b).toArray)).run Tryd.prog w = .ok (a == b) w :=
  run_equalIn_bytes w 9998 53 5 64 Tryd.underlying53 Tryd.underlying5 (fun w' => by kernel_rfl) a b ha hb
theorem idx8 (T : St) (t : Nat) (ht : t < 8) (w : World) : (Instr.index 48 (.agg #[.int .u32 (u T.a), .int .u32 (u T.b), .int .u32 (u T.c), .int .u32 (u T.d), .int .u32 (u T.e), .int .u32 (u T.f), .int .u32 (u T.g), .int .u32 (u T.h)]) (.int .i64 (t : Int))).run Tryd.prog w = .ok (.int .u32 (u (T.l.getD t 0))) w := by
  obtain rfl | rfl | rfl | rfl | rfl | rfl | rfl | rfl : t = 0 ∨ t = 1 ∨ t = 2 ∨ t = 3 ∨ t = 4 ∨ t = 5 ∨ t = 6 ∨ t = 7 := by omega
  all_goals kernel_rfl
end Go.Proofs.YtpphlmbhonaglaaDoor

namespace Go.Proofs.YtpphlmbhonaglaaDoor
open Go.RowKit

/-- THE ROUND CONSTANTS LIE IN THEIR VARIABLE. -/
def RC (w : World) : Prop := ∀ i, i < 64 → w.cell? ⟨0, i, none⟩ = some (.int .u32 (u (kk i)))
theorem RC.grown {w w' : World} {g : Nat} (h : RC w) (k : w.grownBy w' (some g)) (hg : g ≠ 0) : RC w' := fun i hi => by
  have hc := h i hi
  have hlt := World.block_lt_of_cell? w _ hc
  rw [World.cell?_of_block (w := w) (a := ⟨0, i, none⟩) (k.block _ hlt (fun e => hg (Option.some.inj e).symm))]
  exact hc
theorem RC.apart {w : World} {g : Nat} {st : List UInt32} {blk : List UInt8} {used : Nat} {len : Int} {last : List UInt8} {mid : List Value} {sch : List UInt32} (h : RC w) (hS : Sm w g st blk used len last mid sch) : g ≠ 0 := by
  rintro rfl
  have h1 := h 8 (by omega)
  have h2 := hS.blk_cell 0 (by omega)
  rw [Nat.add_zero, h1] at h2
  cases h2

set_option maxRecDepth 1000000 in
set_option maxHeartbeats 8000000 in
theorem mix_any : MixC RC := by
  intro g S blk used len w hC hSo
  obtain ⟨last, d, sch, hS, hd⟩ := hSo
  have HD := Lib.hid hd
  clear hd
  have hg0 := hC.apart hS
  have HA := Lib.hid hg0
  clear hg0
  rcases Classical.em (blk = last) with hb | hb
  · subst hb
    have he := equal_blk blk blk hS.l2 hS.l2
    rw [show (blk == blk) = true by simp] at he
    go_enter Tryd.func30, Tryd.ntmps30
    go_wp2_with fail
    refine region_all (by kernel_rfl) (by kernel_rfl) ?_
    intro w1 h1 b1
    have hS1 := hS.kept (heap_hid h1 g)
    iterate 3 still_step
    refine wpStill_load_mid rfl 53 _ rfl g 8 rfl (bcs blk) _ hS1.blk_range Tryd.underlying53 rfl (by rw [bcs_length, hS1.l2]; exact size_blk) ?_
    iterate 4 still_step
    refine wpStill_load_mid rfl 53 _ rfl g 74 rfl (bcs blk) _ hS1.last_range Tryd.underlying53 rfl (by rw [bcs_length, hS1.l3]; exact size_blk) ?_
    still_step
    refine wpStill_nil ?_
    go_wp2_with fail
    refine region_tail 8 (by kernel_rfl) (by kernel_rfl) ?_
    intro w3 h3 b3
    have hS3 := hS1.kept (heap_hid h3 g)
    simp only [List.take_succ_cons, List.take_zero, List.drop_succ_cons, List.drop_zero]
    iterate 8 still_step
    refine wpStill_nil ?_
    go_wp2_with (go_at_call 31; refine (do_any g S.l blk used len blk _ _ _ hS3 HD).mono ?_; rintro e w4 ⟨rfl, hS4, g4⟩)
    go_wp2_with fail
    have s0 : w4.cell? ⟨g, 0, none⟩ = some (.int .u32 (u S.a)) := hS4.st_cell 0 (by omega)
    have s1 : w4.cell? ⟨g, 1, none⟩ = some (.int .u32 (u S.b)) := hS4.st_cell 1 (by omega)
    have s2 : w4.cell? ⟨g, 2, none⟩ = some (.int .u32 (u S.c)) := hS4.st_cell 2 (by omega)
    have s3 : w4.cell? ⟨g, 3, none⟩ = some (.int .u32 (u S.d)) := hS4.st_cell 3 (by omega)
    have s4 : w4.cell? ⟨g, 4, none⟩ = some (.int .u32 (u S.e)) := hS4.st_cell 4 (by omega)
    have s5 : w4.cell? ⟨g, 5, none⟩ = some (.int .u32 (u S.f)) := hS4.st_cell 5 (by omega)
    have s6 : w4.cell? ⟨g, 6, none⟩ = some (.int .u32 (u S.g)) := hS4.st_cell 6 (by omega)
    have s7 : w4.cell? ⟨g, 7, none⟩ = some (.int .u32 (u S.h)) := hS4.st_cell 7 (by omega)
    go_quiet (fail)
    go_wp2_with fail
    have G4 : w.grownBy w4 (some g) := grown_then (grown_row (grown_row (World.grownBy.refl _ _) b1) b3) g4
    have hS5 := hS4.kept (w' := w4.drewN nq) rfl
    have G5 : w.grownBy (w4.drewN nq) (some g) := grown_drewN G4
    have R5 := hC.grown G5 HA.out
    clear s0 s1 s2 s3 s4 s5 s6 s7 g4
    go_loopw [2, 3, 4, 5, 6, 7, 8, 9, 84] (fun va vb vc vd ve vf vg vh i wq => ∃ (k : Nat) (T : St), k ≤ 64 ∧ Hid (T = rounds (sched (words blk 16) 48) S k) ∧ i = .int .i64 k ∧ va = .int .u32 (u T.a) ∧ vb = .int .u32 (u T.b) ∧ vc = .int .u32 (u T.c) ∧ vd = .int .u32 (u T.d) ∧ ve = .int .u32 (u T.e) ∧ vf = .int .u32 (u T.f) ∧ vg = .int .u32 (u T.g) ∧ vh = .int .u32 (u T.h) ∧ Sm wq g S.l blk used len blk (onceV true) (sched (words blk 16) 48) ∧ RC wq ∧ w.grownBy wq (some g)) (fun _ _ _ _ _ _ _ _ i _ => 64 - (intOf i).toNat)
    case atStart => exact ⟨0, S, by omega, rfl, rfl, rfl, rfl, rfl, rfl, rfl, rfl, rfl, rfl, hS5, R5, G5⟩
    case round =>
      clear hS5 R5 G5 G4
      obtain ⟨k, T, hk, HT, rfl, rfl, rfl, rfl, rfl, rfl, rfl, rfl, rfl, hQ, hR, hG⟩ := hrel
      by_cases hk64 : k < 64
      · have r1 := u_xor
        have r2 := u_and
        have r3 := u_inv
        have r4 := u_wrap
        have r5 := u_add
        have cw := hQ.sch_cell k hk64
        have cr := hR k hk64
        have k64 : (k : Int) < 64 := by omega
        go_wp2_with fail
        go_quiet ((go_at_call 33; exact Calls.quiet_of_same (turned_lit _ _ _ _ _ (by omega) (by omega) (by omega))))
        go_wp2_with (go_at_call 33; refine (turned_lit _ _ _ _ _ (by omega) (by omega) (by omega)).mono ?_; rintro e w' ⟨rfl, rfl⟩)
        go_roundw
        case rel =>
          refine ⟨k + 1, T.step (kk k) ((sched (words blk 16) 48).getD k 0), by omega, ?_, by go_num, rfl, rfl, rfl, rfl, rfl, rfl, rfl, rfl, hQ.kept rfl, fun i hi => hR i hi, grown_drewN hG⟩
          unfold Hid
          rw [rounds, ← HT.out]
        case measure => simp [intOf]; omega
      · obtain rfl : k = 64 := by omega
        have HT2 : Hid (T = rounds (sched (words blk 16) 48) S 64) := HT
        clear HT hR hk hk64
        go_wp2_with fail
        simp only [show ((64 : Nat) : Int) = 64 from rfl]
        go_loopw [150] (fun i wq => ∃ t : Nat, t ≤ 8 ∧ i = .int .i64 t ∧ Sm wq g (sums S T t) blk used len blk (onceV true) (sched (words blk 16) 48) ∧ w.grownBy wq (some g)) (fun i _ => 8 - (intOf i).toNat)
        case atStart => exact ⟨0, by omega, rfl, hQ, hG⟩
        case round =>
          clear hQ hG
          obtain ⟨t, ht, rfl, hQ, hG⟩ := hrel
          by_cases ht8 : t < 8
          · have hix := idx8 T t ht8
            have za := hQ.st_cell t ht8
            rw [sums_get S T t ht8] at za
            have HX : Hid (sums S T (t + 1) = (sums S T t).set t (S.l.getD t 0 + T.l.getD t 0)) := rfl
            generalize S.l.getD t 0 = x at za HX
            generalize T.l.getD t 0 = y at hix HX
            have t8 : (t : Int) < 8 := by omega
            have r4 := u_wrap
            have r5 := u_add
            go_wp2_with fail
            refine region_tail 11 (by kernel_rfl) (by kernel_rfl) ?_
            intro w5 h5 b5
            have hS5 := hQ.kept (heap_hid h5 g)
            replace za := cell_hid h5 za
            have tf := hS5.free t
            simp only [List.take_succ_cons, List.take_zero, List.drop_succ_cons, List.drop_zero]
            iterate 11 still_step
            refine wpStill_nil ?_
            go_wp2_with fail
            go_roundw
            case rel => exact ⟨t + 1, by omega, by go_num, by rw [HX.out]; exact hS5.set_st t _ ht8, grown_set (grown_row hG b5)⟩
            case measure => simp [intOf]; omega
          · obtain rfl : t = 8 := by omega
            have hfin : Smo wr g (S.mix blk).l blk used len := ⟨blk, true, _, by rw [St.mix, ← HT2.out, ← sums_all]; exact hQ, fun _ => rfl⟩
            clear hQ HT2
            go_wp2_with fail
            go_end0
            exact ⟨rfl, hfin, hG⟩
  · have he := equal_blk blk last hS.l2 hS.l3
    rw [show (blk == last) = false by simp [hb]] at he
    clear hb
    go_enter Tryd.func30, Tryd.ntmps30
    go_wp2_with fail
    refine region_all (by kernel_rfl) (by kernel_rfl) ?_
    intro w1 h1 b1
    have hS1 := hS.kept (heap_hid h1 g)
    iterate 3 still_step
    refine wpStill_load_mid rfl 53 _ rfl g 8 rfl (bcs blk) _ hS1.blk_range Tryd.underlying53 rfl (by rw [bcs_length, hS1.l2]; exact size_blk) ?_
    iterate 4 still_step
    refine wpStill_load_mid rfl 53 _ rfl g 74 rfl (bcs last) _ hS1.last_range Tryd.underlying53 rfl (by rw [bcs_length, hS1.l3]; exact size_blk) ?_
    still_step
    refine wpStill_nil ?_
    go_wp2_with (first
      | ((with_reducible refine wpList_load_mid rfl 53 _ rfl g 8 ?_ (bcs blk) _ hS1.blk_range Tryd.underlying53 rfl (by rw [bcs_length, hS1.l2]; exact size_blk) ?_); (rfl))
      | ((with_reducible refine wpList_build_at (o := ⟨some 32, _, _, _, _, _⟩) rfl 66 _ rfl (newSch blk).toArray ?_ ?_); (simp only [List.map_toArray, List.map_cons, List.map_nil]; exact built_sch blk hS.l2))
      | ((with_reducible refine wpList_store_in rfl 66 _ _ rfl g 74 (newSch blk) _ _ ?_ ?_ hS1.row 131 sch_size (newSch_length blk hS.l2) (by simp [smL, bcs_length, hS.l1, hS.l2, hS.l3, hS.l4, hS.lm]) (newSch_one blk) ?_); (rfl); (rfl); (intro w2 h2 g2; have hS2 := hS1.renew h2)))
    refine region_tail 8 (by kernel_rfl) (by kernel_rfl) ?_
    intro w3 h3 b3
    have hS3 := hS2.kept (heap_hid h3 g)
    simp only [List.take_succ_cons, List.take_zero, List.drop_succ_cons, List.drop_zero]
    iterate 8 still_step
    refine wpStill_nil ?_
    go_wp2_with (go_at_call 31; refine (do_any g S.l blk used len blk _ _ _ hS3 (Lib.hid (fun h => by cases h))).mono ?_; rintro e w4 ⟨rfl, hS4, g4⟩)
    go_wp2_with fail
    have s0 : w4.cell? ⟨g, 0, none⟩ = some (.int .u32 (u S.a)) := hS4.st_cell 0 (by omega)
    have s1 : w4.cell? ⟨g, 1, none⟩ = some (.int .u32 (u S.b)) := hS4.st_cell 1 (by omega)
    have s2 : w4.cell? ⟨g, 2, none⟩ = some (.int .u32 (u S.c)) := hS4.st_cell 2 (by omega)
    have s3 : w4.cell? ⟨g, 3, none⟩ = some (.int .u32 (u S.d)) := hS4.st_cell 3 (by omega)
    have s4 : w4.cell? ⟨g, 4, none⟩ = some (.int .u32 (u S.e)) := hS4.st_cell 4 (by omega)
    have s5 : w4.cell? ⟨g, 5, none⟩ = some (.int .u32 (u S.f)) := hS4.st_cell 5 (by omega)
    have s6 : w4.cell? ⟨g, 6, none⟩ = some (.int .u32 (u S.g)) := hS4.st_cell 6 (by omega)
    have s7 : w4.cell? ⟨g, 7, none⟩ = some (.int .u32 (u S.h)) := hS4.st_cell 7 (by omega)
    go_quiet (fail)
    go_wp2_with fail
    have G4 : w.grownBy w4 (some g) := grown_then (grown_row (grown_then (grown_row (World.grownBy.refl _ _) b1) g2) b3) g4
    have hS5 := hS4.kept (w' := w4.drewN nq) rfl
    have G5 : w.grownBy (w4.drewN nq) (some g) := grown_drewN G4
    have R5 := hC.grown G5 HA.out
    clear s0 s1 s2 s3 s4 s5 s6 s7 g4 g2
    go_loopw [2, 3, 4, 5, 6, 7, 8, 9, 84] (fun va vb vc vd ve vf vg vh i wq => ∃ (k : Nat) (T : St), k ≤ 64 ∧ Hid (T = rounds (sched (words blk 16) 48) S k) ∧ i = .int .i64 k ∧ va = .int .u32 (u T.a) ∧ vb = .int .u32 (u T.b) ∧ vc = .int .u32 (u T.c) ∧ vd = .int .u32 (u T.d) ∧ ve = .int .u32 (u T.e) ∧ vf = .int .u32 (u T.f) ∧ vg = .int .u32 (u T.g) ∧ vh = .int .u32 (u T.h) ∧ Sm wq g S.l blk used len blk (onceV true) (sched (words blk 16) 48) ∧ RC wq ∧ w.grownBy wq (some g)) (fun _ _ _ _ _ _ _ _ i _ => 64 - (intOf i).toNat)
    case atStart => exact ⟨0, S, by omega, rfl, rfl, rfl, rfl, rfl, rfl, rfl, rfl, rfl, rfl, hS5, R5, G5⟩
    case round =>
      clear hS5 R5 G5 G4
      obtain ⟨k, T, hk, HT, rfl, rfl, rfl, rfl, rfl, rfl, rfl, rfl, rfl, hQ, hR, hG⟩ := hrel
      by_cases hk64 : k < 64
      · have r1 := u_xor
        have r2 := u_and
        have r3 := u_inv
        have r4 := u_wrap
        have r5 := u_add
        have cw := hQ.sch_cell k hk64
        have cr := hR k hk64
        have k64 : (k : Int) < 64 := by omega
        go_wp2_with fail
        go_quiet ((go_at_call 33; exact Calls.quiet_of_same (turned_lit _ _ _ _ _ (by omega) (by omega) (by omega))))
        go_wp2_with (go_at_call 33; refine (turned_lit _ _ _ _ _ (by omega) (by omega) (by omega)).mono ?_; rintro e w' ⟨rfl, rfl⟩)
        go_roundw
        case rel =>
          refine ⟨k + 1, T.step (kk k) ((sched (words blk 16) 48).getD k 0), by omega, ?_, by go_num, rfl, rfl, rfl, rfl, rfl, rfl, rfl, rfl, hQ.kept rfl, fun i hi => hR i hi, grown_drewN hG⟩
          unfold Hid
          rw [rounds, ← HT.out]
        case measure => simp [intOf]; omega
      · obtain rfl : k = 64 := by omega
        have HT2 : Hid (T = rounds (sched (words blk 16) 48) S 64) := HT
        clear HT hR hk hk64
        go_wp2_with fail
        simp only [show ((64 : Nat) : Int) = 64 from rfl]
        go_loopw [150] (fun i wq => ∃ t : Nat, t ≤ 8 ∧ i = .int .i64 t ∧ Sm wq g (sums S T t) blk used len blk (onceV true) (sched (words blk 16) 48) ∧ w.grownBy wq (some g)) (fun i _ => 8 - (intOf i).toNat)
        case atStart => exact ⟨0, by omega, rfl, hQ, hG⟩
        case round =>
          clear hQ hG
          obtain ⟨t, ht, rfl, hQ, hG⟩ := hrel
          by_cases ht8 : t < 8
          · have hix := idx8 T t ht8
            have za := hQ.st_cell t ht8
            rw [sums_get S T t ht8] at za
            have HX : Hid (sums S T (t + 1) = (sums S T t).set t (S.l.getD t 0 + T.l.getD t 0)) := rfl
            generalize S.l.getD t 0 = x at za HX
            generalize T.l.getD t 0 = y at hix HX
            have t8 : (t : Int) < 8 := by omega
            have r4 := u_wrap
            have r5 := u_add
            go_wp2_with fail
            refine region_tail 11 (by kernel_rfl) (by kernel_rfl) ?_
            intro w5 h5 b5
            have hS5 := hQ.kept (heap_hid h5 g)
            replace za := cell_hid h5 za
            have tf := hS5.free t
            simp only [List.take_succ_cons, List.take_zero, List.drop_succ_cons, List.drop_zero]
            iterate 11 still_step
            refine wpStill_nil ?_
            go_wp2_with fail
            go_roundw
            case rel => exact ⟨t + 1, by omega, by go_num, by rw [HX.out]; exact hS5.set_st t _ ht8, grown_set (grown_row hG b5)⟩
            case measure => simp [intOf]; omega
          · obtain rfl : t = 8 := by omega
            have hfin : Smo wr g (S.mix blk).l blk used len := ⟨blk, true, _, by rw [St.mix, ← HT2.out, ← sums_all]; exact hQ, fun _ => rfl⟩
            clear hQ HT2
            go_wp2_with fail
            go_end0
            exact ⟨rfl, hfin, hG⟩
end Go.Proofs.YtpphlmbhonaglaaDoor
