/-
  slices.Grow of nil, slices.Concat of two slices of bytes, slices.Chunk.
-/
import Derived.Test.YtpfhggalbdjjmaaRecs
import Derived.Lib.AppendZerosOnto
import Derived.Test.YtpfhggalbdjjmaaDk
import Derived.Test.YtpfhggalbdjjmaaReader
namespace Go.Proofs.Ytpfhggalbdjjmaa
open Go.RowKit

/-- append of some noughts to nil. -/
theorem wpList_append_nil_zeros {P : Program} {w : World} {ops : Array Oper} {rest : List Oper} {o : Oper} {a : Act} {Q : Exit → Act → World → Prop} (hgd : o.guard = none) (s x : Operand) (t tn : TypeId)
    (ho : o.op = .call { callee := .builtin .append, args := #[s, x], argTypes := #[t, tn] }) (e : TypeId) (hB : ByteTy P t e) (kn kq : IntKind) (htn : P.underlying tn = some (.int kn)) (k : Nat) (hsv : a.eval s = .slice none 0 0) (hx : a.eval x = .int kq k) (h0 : 0 < k) (hk1 : k ≤ 1000000)
    (hK : ∀ c w', OwnB w' e w.heap.size k c (List.replicate k 0) → Below w.heap.size w w' → wpList P ops Q rest (a.put o.dst (.slice (some ⟨w.heap.size, 0, none⟩) k c)) w') :
    wpList P ops Q (o :: rest) a w := by
  obtain ⟨i, hi, hz, hsize, hby⟩ := hB.info
  have hr := Lib.run_append_grow_zeros (P := P) w t tn o.type e i (.int .u8 0) kq kn hB.ht htn hi hz none 0 0 [] (run_firstCells_none w.drew i.size 0 0 0) k h0 (by omega) (by omega) (by omega) (by rw [hby]; omega) (growslice_fits (by omega) (by rw [hby]; omega))
  simp only [Nat.zero_add] at hr
  have hge := grownCap_ge w k 0 e
  have hcm : grownCap w k 0 e ≤ maxLen := grownCap_le_maxLen w k 0 e (by simp only [maxLen]; omega)
  refine wpList_plain hgd fun K hK' => ?_
  unfold Oper.wp execOp
  simp only [ho, resolve, invoke, builtin, Sem.run_bind, Sem.run_pure, Result.andThen_ok, List.map_toArray, List.map_cons, List.map_nil, hsv, hx, hr]
  refine hK' _ _ (hK _ _ ⟨by simp, hge, hcm, _, heap_alloc_new w.drew _, ?_, ?_⟩ ((Below.refl _ _).drew.alloc (Nat.le_refl _) _))
  · simp only [Array.size_append, List.size_toArray, size_zeroCells, List.length_nil]
    simp [Value.cells]
    omega
  · have hz2 : (Builtin.zeroCells (Value.int .u8 0).cells k).toList = bcs (List.replicate k 0) := by
      apply List.ext_getElem
      · simp [Builtin.zeroCells, bcs, Value.cells]
      · intro j h1 h2
        simp [Builtin.zeroCells, bcs, bc, Value.cells, Nat.mod_one]
    simp only [Array.toList_append, List.nil_append, hz2]
    rw [List.take_append_of_le_length (by simp [bcs]), List.take_of_length_le (by simp [bcs])]
/-- A new row of nothing, with room. -/
def Grown0 (w : World) (en : Ending) (w' : World) : Prop :=
  ∃ g c, en = .returned (.slice (some ⟨g, 0, none⟩) 0 c) ∧ OwnB w' 5 g 0 c [] ∧ Below w.heap.size w w' ∧ w.heap.size ≤ g
set_option maxRecDepth 100000 in
theorem grow_any (k : Nat) (h0 : 0 < k) (hk : k ≤ 1000000) (w : World) : Calls Try.prog 73 #[.slice none 0 0, .int .i64 k] w (Grown0 w) := by
  have hk1 : (0 : Int) < (k : Int) := by omega
  have hk2 : ¬ ((k : Int) < 0) := by omega
  have hw : wrap64 ((k : Int) - 0) = k := by rw [Int.sub_zero]; exact IntWalk.wrap64_in _ (by omega)
  go_enter Try.func73, Try.ntmps73
  go_wp2_with (at_builtin; refine wpList_append_nil_zeros rfl _ _ 31 3 rfl 5 byteTy .i64 .i64 Try.underlying3 k rfl rfl h0 hk ?_; intro c w1 o1 b1)
  go_ret
  have o2 : OwnB w1 5 w.heap.size 0 c [] := OwnB.front (a := []) (b := List.replicate k 0) (by simpa using o1)
  exact ⟨_, c, rfl, o2, b1, Nat.le_refl _⟩
/-- What two slices of bytes hold stands in a row of two headers. -/
structure Two (w : World) (p : Nat) (ao : Option Addr) (an ac : Nat) (bo : Option Addr) (bn bc : Nat) : Prop where
  a : w.cell? ⟨p, 0, none⟩ = some (.slice ao an ac)
  b : w.cell? ⟨p, 1, none⟩ = some (.slice bo bn bc)
set_option maxRecDepth 100000 in
set_option maxHeartbeats 1000000 in
theorem concat_any (w : World) (p : Nat) (ao : Option Addr) (an ac : Nat) (la : List UInt8) (bo : Option Addr) (bn bc' : Nat) (lb : List UInt8) (hT : Two w p ao an ac bo bn bc') (ha : IsB w ao an ac la) (hb : IsB w bo bn bc' lb) (h0 : 0 < an + bn) (han : an ≤ 100000) (hbn : bn ≤ 100000) :
    Calls Try.prog 58 #[.slice (some ⟨p, 0, none⟩) 2 2] w (Fresh w (an + bn) (la ++ lb)) := by
  go_enter Try.func58, Try.ntmps58
  go_wp2_with fail
  go_loopw [3, 11] (fun z i wr => ∃ k sz : Nat, k ≤ 2 ∧ i = .int .i64 (k : Nat) ∧ z = .int .i64 (sz : Nat) ∧ Hid (sz = if k = 0 then 0 else if k = 1 then an else an + bn) ∧ w = wr) (fun _ i _ => 2 - (intOf i).toNat)
  case atStart => exact ⟨0, 0, by omega, rfl, rfl, rfl, rfl⟩
  case round =>
    obtain ⟨k, sz, hk, rfl, rfl, hz, rfl⟩ := hrel
    have c0 := hT.a
    have c1 := hT.b
    rcases (show k = 0 ∨ k = 1 ∨ k = 2 by omega) with rfl | rfl | rfl
    · obtain rfl : sz = 0 := hz.out
      go_wp2_with fail
      go_roundw
      case rel => exact ⟨1, an, by omega, by go_num, by go_num, rfl, trivial⟩
      case measure => simp [intOf]
    · obtain rfl : sz = an := hz.out
      have hneg : ¬ ((sz : Int) + (bn : Int) < 0) := by omega
      go_wp2_with fail
      go_roundw
      case rel => exact ⟨2, sz + bn, by omega, by go_num, by go_num, rfl, trivial⟩
      case measure => simp [intOf]
    · obtain rfl : sz = an + bn := hz.out
      go_wp2_with (go_at_call 73; refine (grow_any (an + bn) h0 (by omega) _).mono ?_; rintro en w1 ⟨g, c, rfl, o1, b1, q1⟩)
      have B1 : Below w.heap.size w w1 := b1
      go_loopw [6, 27] (fun v i w2 => ∃ (j g2 m2 c2 : Nat) (l2 : List UInt8), j ≤ 2 ∧ i = .int .i64 (j : Nat) ∧ v = .slice (some ⟨g2, 0, none⟩) m2 c2 ∧ OwnB w2 5 g2 m2 c2 l2 ∧ Hid (l2 = if j = 0 then [] else if j = 1 then la else la ++ lb) ∧ Below w.heap.size w w2 ∧ w.heap.size ≤ g2) (fun _ i _ => 2 - (intOf i).toNat)
      case atStart => exact ⟨0, g, 0, c, [], by omega, rfl, rfl, o1, rfl, B1, q1⟩
      case round =>
        obtain ⟨j, g2, m2, c2, l2, hj, rfl, rfl, o2, hl, B2, q2⟩ := hrel
        have hln := o2.len
        have d0 : wr.cell? ⟨p, 0, none⟩ = some (.slice ao an ac) := by rw [B2.cell (World.block_lt_of_cell? _ _ c0)]; exact c0
        have d1 : wr.cell? ⟨p, 1, none⟩ = some (.slice bo bn bc') := by rw [B2.cell (World.block_lt_of_cell? _ _ c1)]; exact c1
        have i0 := ha.past B2
        have i1 := hb.past B2
        rcases (show j = 0 ∨ j = 1 ∨ j = 2 by omega) with rfl | rfl | rfl
        · obtain rfl : l2 = [] := hl.out
          obtain rfl : m2 = 0 := by simpa using hln.symm
          go_wp2_with (at_builtin; refine wpList_append_ob rfl _ _ 31 31 rfl 5 byteTy g2 0 c2 [] rfl o2 _ rfl an la (i0.src byteTy.ht) an (Nat.zero_add _) la (by simp) (by omega) ?_; intro g3 c3 w3 o3 p3 q3)
          go_roundw
          case rel => exact ⟨1, g3, an, c3, la, by omega, by go_num, rfl, o3, rfl, B2.trans (p3.below q2 B2.size), by have := B2.size; omega⟩
          case measure => simp [intOf]
        · obtain rfl : l2 = la := hl.out
          go_wp2_with (at_builtin; refine wpList_append_ob rfl _ _ 31 31 rfl 5 byteTy g2 m2 c2 l2 rfl o2 _ rfl bn lb (i1.src byteTy.ht) (m2 + bn) rfl (l2 ++ lb) rfl (by have := ha.len; omega) ?_; intro g3 c3 w3 o3 p3 q3)
          go_roundw
          case rel => exact ⟨2, g3, m2 + bn, c3, l2 ++ lb, by omega, by go_num, rfl, o3, rfl, B2.trans (p3.below q2 B2.size), by have := B2.size; omega⟩
          case measure => simp [intOf]
        · have hl2 : l2 = la ++ lb := hl.out
          go_wp2_with fail
          go_ret
          have e : m2 = an + bn := by rw [← hln, hl2, List.length_append, ha.len, hb.len]
          subst e
          exact ⟨g2, c2, rfl, by rw [← hl2]; exact o2, B2, q2⟩
/-- A BOX: block b holds the one value v. -/
def One (w : World) (b : Nat) (v : Value) (t : TypeId) : Prop := w.heap[b]? = some (.cells #[v] t (0, 0))
section
variable {w w' : World} {b : Nat} {v : Value} {t : TypeId}
theorem One.lt (h : One w b v t) : b < w.heap.size := (Array.getElem?_eq_some_iff.1 h).1
theorem One.past (h : One w b v t) (x : Below w.heap.size w w') : One w' b v t := (x.block b h.lt).trans h
theorem One.kp {S : Nat → Prop} (h : One w b v t) (x : Kp w w' S) (hb : ¬ S b) : One w' b v t := (x.block b h.lt hb).trans h
theorem One.c (h : One w b v t) : w.cell? ⟨b, 0, none⟩ = some v := cell_blk h rfl
theorem One.free (h : One w b v t) : w.frozen? ⟨b, 0, none⟩ = false := free_blk h
theorem One.set (h : One w b v t) (v' : Value) : One (w.setCell ⟨b, 0, none⟩ v') b v' t := (heap_setCell_same (i := 0) h).trans rfl
theorem One.new (w : World) (v : Value) (t : TypeId) : One (w.alloc (.cells #[v] t)) w.heap.size v t := heap_alloc_new w _
end
/-- The iterator over parts of sixty-four is told. -/
def ChunkIs (w : World) (v : Value) (en : Ending) (w' : World) : Prop :=
  ∃ B1 B2, en = .returned (.func (.func 72) #[] #[.pointer (some ⟨B1, 0, none⟩), .pointer (some ⟨B2, 0, none⟩)]) ∧ One w' B1 v 31 ∧ One w' B2 (.int .i64 64) 3 ∧ Below w.heap.size w w' ∧ w.heap.size ≤ B1 ∧ w.heap.size ≤ B2
theorem chunk_any (w : World) (ao : Option Addr) (n c : Nat) : Calls Try.prog 57 #[.slice ao n c, .int .i64 64] w (ChunkIs w (.slice ao n c)) := by
  have hmf : ∀ (fn : Fn) (first cap : Array Value) (w : World), (Instr.makeFunc fn first cap).run Try.prog w = .ok (.func fn first cap) w := fun _ _ _ _ => rfl
  have h1 := One.new w (.slice ao n c) 31
  have h2 := One.new (w.alloc (.cells #[.slice ao n c] 31)) (.int .i64 64) 3
  have B1 := (Below.refl w.heap.size w).alloc (Nat.le_refl _) (.cells #[.slice ao n c] 31)
  have B2 := (Below.refl _ (w.alloc (.cells #[.slice ao n c] 31))).alloc (Nat.le_refl _) (.cells #[.int .i64 64] 3)
  have H1 := Lib.hid (h1.past B2)
  have H2 := Lib.hid h2
  clear h1 h2
  rw [World.size_alloc] at H2
  go_enter Try.func57, Try.ntmps57
  go_wp2_with fail
  go_ret
  exact ⟨_, _, rfl, H1.out, H2.out, B1.trans (B2.mono B1.size), Nat.le_refl _, by omega⟩
end Go.Proofs.Ytpfhggalbdjjmaa
