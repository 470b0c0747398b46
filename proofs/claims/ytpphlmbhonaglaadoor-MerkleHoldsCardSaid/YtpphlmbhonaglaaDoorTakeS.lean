/-
  copy into the block of a sum on its way.
-/
import Derived.Test.YtpphlmbhonaglaaDoorSm
import Derived.Laws.CopyOwn
namespace Go.Proofs.YtpphlmbhonaglaaDoor
open Go.RowKit

theorem sm_splice (st : List UInt32) (blk cs : List UInt8) (used : Nat) (len : Int) (last : List UInt8) (mid : List Value) (sch : List UInt32) (n : Nat) (h1 : st.length = 8) (h2 : n + cs.length ≤ blk.length) :
    (smL st blk used len last mid sch).take (8 + n) ++ bcs cs ++ (smL st blk used len last mid sch).drop (8 + n + (bcs cs).length) = smL st (blk.take n ++ cs ++ blk.drop (n + cs.length)) used len last mid sch := by
  have e1 : (st.map cu).length = 8 := by simp [h1]
  have e2 : (bcs blk).length = blk.length := bcs_length blk
  unfold smL
  generalize [Value.int .i64 (used : Int), .int .u64 len] ++ (bcs last ++ (mid ++ sch.map cu)) = R
  rw [List.take_append, List.drop_append, e1, List.take_of_length_le (by omega), List.drop_of_length_le (by omega), show 8 + n - 8 = n by omega, bcs_length, show 8 + n + cs.length - 8 = n + cs.length by omega,
    List.take_append_of_le_length (by omega), List.drop_append_of_le_length (by omega), bcs_append, bcs_append, bcs_take]
  have e3 : (bcs blk).drop (n + cs.length) = bcs (blk.drop (n + cs.length)) := by simp [bcs]
  rw [e3]
  simp [List.append_assoc]

theorem step_copy_sm {P : Program} {ops : Array Oper} {o : Oper} {a : Act} {w : World} {K : Act → World → Prop} {Q : Exit → Act → World → Prop} {E : Prop} (hgd : o.guard = none) (d s : Operand) (dT sT : TypeId)
    (ho : o.op = .call { callee := .builtin .copy, args := #[d, s], argTypes := #[dT, sT] }) (elem : TypeId) (hu : P.underlying dT = some (.slice elem)) (hsz : (P.info? elem).map (·.size) = some 1)
    (g : Nat) (st : List UInt32) (blk : List UInt8) (used : Nat) (len : Int) (last : List UInt8) (mid : List Value) (sch : List UInt32) (h : Sm w g st blk used len last mid sch) (n : Nat) (hn : n < 64)
    (hd : a.eval d = .slice (some ⟨g, 8 + n, none⟩) (64 - n) (64 - n)) (ao : Option Addr) (pn pc : Nat) (p : List UInt8) (hs : a.eval s = .slice ao pn pc) (hp : IsB w ao pn pc p) (hpos : 0 < pn) (c : Nat) (hc : c = min pn (64 - n))
    (hK : ∀ w', Sm w' g st (blk.take n ++ p.take c ++ blk.drop (n + c)) used len last mid sch → w.grownBy w' (some g) → K (a.put o.dst (.int .i64 c)) w') :
    if Region.wanted o (yielded ops a.tmps) = true then Oper.wp P o a w K Q else E := by
  have hw : Region.wanted o (yielded ops a.tmps) = true := by simp [Region.wanted, hgd]
  rw [if_pos hw]
  have hl2 := h.l2
  have hpl := hp.len
  have hcl : (p.take c).length = c := by rw [List.length_take]; omega
  have hbl : (bcs (p.take c)).length = c := by rw [bcs_length, hcl]
  cases ao with
  | none =>
    have h1 := hp.nil rfl
    have h2 := hp.le
    omega
  | some ad =>
    have hrun := run_copy_row (P := P) w dT sT o.type elem g (8 + n) (64 - n) (64 - n) ad pn pc (smL st blk used len last mid sch).toArray 68 (bcs (p.take c)) hu hsz h.row
      (by rw [hbl, hc])
      (fun j v hj => by
        rw [bcs_get] at hj
        obtain ⟨x, hx, rfl⟩ := Option.map_eq_some_iff.1 hj
        refine hp.cell ad rfl j x ?_
        rw [List.getElem?_take] at hx
        split at hx
        · exact hx
        · cases hx)
      (by rw [hbl]; simp [smL, bcs, h.l1, h.l2]; omega) (bcs_one _)
    rw [sm_splice st blk (p.take c) used len last mid sch n h.l1 (by rw [hcl]; omega), hcl, hbl] at hrun
    unfold Oper.wp
    simp only [execOp, ho, resolve, invoke, builtin, hd, hs, hrun, Sem.run_bind, Sem.run_pure, Result.andThen_ok, List.map_toArray, List.map_cons, List.map_nil]
    refine hK _ ⟨?_, h.l1, by simp [h.l2]; omega, h.l3, h.l4, h.lm⟩ ⟨rfl, rfl, rfl, by simp, fun k _ hk => setRow_other w g k _ (fun e => hk (by rw [e]))⟩
    exact setRow_heap w g _ _ _ _ h.row
end Go.Proofs.YtpphlmbhonaglaaDoor
