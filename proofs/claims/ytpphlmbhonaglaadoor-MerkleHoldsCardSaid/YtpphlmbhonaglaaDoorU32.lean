/-
  Unsigned numbers of 32 bits as the walk meets them ('u x' is the number of x); a row of such numbers in a block.
-/
import Derived.WalkKit
import Derived.WalkSpells
import Derived.WalkLawsBesides
import Derived.Laws.BitsAllLaws
import Derived.Laws.Rows
import Derived.Lib.Hide
import Derived.Test.YtpphlmbhonaglaaDoorSha
namespace Go.Proofs.YtpphlmbhonaglaaDoor
open Go.RowKit

def u (x : UInt32) : Int := (x.toNat : Int)
theorem u_lo (x : UInt32) : 0 ≤ u x := by unfold u; omega
theorem u_hi (x : UInt32) : u x < 4294967296 := by unfold u; have := x.toNat_lt; omega
theorem u_inj {x y : UInt32} (h : u x = u y) : x = y := UInt32.toNat_inj.1 (by unfold u at h; omega)
theorem u_add (x y : UInt32) : (u x + u y) % 4294967296 = u (x + y) := by
  unfold u; rw [UInt32.toNat_add]; omega
theorem u_xor (x y : UInt32) : bits .xor .u32 (u x) (u y) = u (x ^^^ y) := by
  unfold u; rw [u32_xor_nat _ _ x.toNat_lt y.toNat_lt, UInt32.toNat_xor]
theorem u_and (x y : UInt32) : bits .and .u32 (u x) (u y) = u (x &&& y) := by
  unfold u; rw [u32_and_nat _ _ x.toNat_lt y.toNat_lt, UInt32.toNat_and]
theorem u_or (x y : UInt32) : bits .or .u32 (u x) (u y) = u (x ||| y) := by
  unfold u; rw [u32_or_nat _ _ x.toNat_lt y.toNat_lt, UInt32.toNat_or]
theorem u_not (x : UInt32) : bits .xor .u32 4294967295 (u x) = u (~~~x) := by
  have h : (4294967295 : Int) = u 4294967295 := rfl
  rw [h, u_xor]
  congr 1
theorem u_inv (x : UInt32) : bits .xor .u32 (if IntKind.u32.signed = true then -1 else IntKind.u32.max) (u x) = u (~~~x) := u_not x
theorem u_wrap (x y : UInt32) : IntKind.u32.wrap (u x + u y) = u (x + y) := by rw [IntKind.wrap_u32']; exact u_add x y
theorem u_shr (x : UInt32) (n : Nat) : u x / 2 ^ n = u (sr x n) := by
  unfold u sr
  have h := x.toNat_lt
  have h1 : x.toNat / 2 ^ n ≤ x.toNat := Nat.div_le_self _ _
  rw [UInt32.toNat_ofNat_of_lt' (by show _ < 4294967296; omega)]
  simp
theorem u_shl (x : UInt32) (n : Nat) : u x * 2 ^ n % 4294967296 = u (UInt32.ofNat (x.toNat * 2 ^ n)) := by
  unfold u
  rw [UInt32.toNat_ofNat']
  simp
def ub (x : UInt8) : Int := (x.toNat : Int)
theorem ub_lo (x : UInt8) : 0 ≤ ub x := by unfold ub; omega
theorem ub_hi (x : UInt8) : ub x < 256 := by unfold ub; have := x.toNat_lt; omega
theorem or_parts (x y i : Nat) (h : y < 2 ^ i) : x * 2 ^ i ||| y = x * 2 ^ i + y := by
  have := Nat.shiftLeft_add_eq_or_of_lt h x
  rw [Nat.shiftLeft_eq] at this
  exact this.symm
theorem or_be4 (a b c d : UInt8) : bits .or .u32 (bits .or .u32 (bits .or .u32 (ub a * 16777216) (ub b * 65536)) (ub c * 256)) (ub d) = u (be4 a b c d) := by
  have ha := a.toNat_lt
  have hb := b.toNat_lt
  have hc := c.toNat_lt
  have hd := d.toNat_lt
  unfold ub be4 u
  generalize a.toNat = A at *
  generalize b.toNat = B at *
  generalize c.toNat = C at *
  generalize d.toNat = D at *
  have h1 : A * 16777216 ||| B * 65536 = A * 16777216 + B * 65536 := or_parts A (B * 65536) 24 (by omega)
  have h2 : A * 16777216 + B * 65536 ||| C * 256 = A * 16777216 + B * 65536 + C * 256 := by
    have := or_parts (A * 256 + B) (C * 256) 16 (by omega)
    rwa [show (A * 256 + B) * 2 ^ 16 = A * 16777216 + B * 65536 by omega] at this
  have h3 : A * 16777216 + B * 65536 + C * 256 ||| D = A * 16777216 + B * 65536 + C * 256 + D := by
    have := or_parts (A * 65536 + B * 256 + C) D 8 (by omega)
    rwa [show (A * 65536 + B * 256 + C) * 2 ^ 8 = A * 16777216 + B * 65536 + C * 256 by omega] at this
  have g1 := u32_or_nat (A * 16777216) (B * 65536) (by omega) (by omega)
  have g2 := u32_or_nat (A * 16777216 + B * 65536) (C * 256) (by omega) (by omega)
  have g3 := u32_or_nat (A * 16777216 + B * 65536 + C * 256) D (by omega) (by omega)
  rw [h1] at g1
  rw [h2] at g2
  rw [h3] at g3
  rw [show (A : Int) * 16777216 = ((A * 16777216 : Nat) : Int) by omega, show (B : Int) * 65536 = ((B * 65536 : Nat) : Int) by omega, show (C : Int) * 256 = ((C * 256 : Nat) : Int) by omega, g1, g2, g3]
  rw [UInt32.toNat_ofNat_of_lt' (by show _ < 4294967296; omega)]
def cu (x : UInt32) : Value := .int .u32 (u x)
def cus (L : List UInt32) : Array Value := (L.map cu).toArray
theorem cus_size (L : List UInt32) : (cus L).size = L.length := by simp [cus]
theorem cus_get (L : List UInt32) (j : Nat) : (cus L)[j]? = (L[j]?).map cu := by simp [cus]
theorem cus_one (L : List UInt32) : (cus L).all (·.oneCell') = true := by
  simp [cus, cu, Value.oneCell']

/-- BLOCK g HOLDS THE NUMBERS L. -/
def Ar (w : World) (t : TypeId) (g : Nat) (L : List UInt32) : Prop := w.heap[g]? = some (.cells (cus L) t (0, 0))
theorem Ar.lt {w : World} {t : TypeId} {g : Nat} {L : List UInt32} (h : Ar w t g L) : g < w.heap.size := (Array.getElem?_eq_some_iff.1 h).1
theorem Ar.cell {w : World} {t : TypeId} {g : Nat} {L : List UInt32} (h : Ar w t g L) (j : Nat) (x : UInt32) (hx : L[j]? = some x) : w.cell? ⟨g, j, none⟩ = some (.int .u32 (u x)) := by
  rw [cell_of_row w g j _ t (0, 0) h, cus_get, hx]; rfl
theorem Ar.get {w : World} {t : TypeId} {g : Nat} {L : List UInt32} (h : Ar w t g L) (j : Nat) (hj : j < L.length) : w.cell? ⟨g, j, none⟩ = some (.int .u32 (u (L.getD j 0))) :=
  h.cell j _ (by simp [List.getD, hj])
theorem Ar.free {w : World} {t : TypeId} {g : Nat} {L : List UInt32} (h : Ar w t g L) (j : Nat) : w.frozen? ⟨g, j, none⟩ = false := frozen_of_row w g j _ t h
theorem Ar.kept {w w' : World} {t : TypeId} {g : Nat} {L : List UInt32} (h : Ar w t g L) (k : w'.heap[g]? = w.heap[g]?) : Ar w' t g L := k.trans h
theorem Ar.set {w : World} {t : TypeId} {g : Nat} {L : List UInt32} (h : Ar w t g L) (j : Nat) (x : UInt32) : Ar (w.setCell ⟨g, j, none⟩ (.int .u32 (u x))) t g (L.set j x) := by
  have e := heap_setCell_same w g j _ t (.int .u32 (u x)) h
  unfold Ar
  rw [e]
  congr 2
  simp [cus, cu, List.map_set]
theorem Ar.other {w : World} {t : TypeId} {g : Nat} {L : List UInt32} (h : Ar w t g L) (a : Addr) (v : Value) (hne : g ≠ a.block) : Ar (w.setCell a v) t g L := h.kept (heap_setCell_other w a g v hne)

/-- A variable that is an array: its block is new and holds zeros. -/
theorem wpList_alloc_blk {P : Program} {w : World} {ops : Array Oper} {rest : List Oper} {o : Oper} {a : Act} {Q : Exit → Act → World → Prop} (hgd : o.guard = none) (t : TypeId) (ho : o.op = .alloc t) (Z : Array Value)
    (hz : (P.info? t).map (fun i => i.zero) = some (some (.agg Z)))
    (hK : ∀ w' g, Hid (w'.heap[g]? = some (.cells Z t (0, 0))) → Below w.heap.size w w' → w.heap.size ≤ g → wpList P ops Q rest (a.put o.dst (.pointer (some ⟨g, 0, none⟩))) w') :
    wpList P ops Q (o :: rest) a w := by
  refine wpList_plain hgd fun K hK' => ?_
  have h0 : (zeroValue t).run P w = .ok (.agg Z) w := by
    cases hq : P.info? t with
    | none => simp [hq] at hz
    | some i =>
      simp [hq] at hz
      simp [zeroValue, typeInfo, hq, hz]
  have hr : (Instr.alloc t true (.tuple #[])).run P w = .ok (.pointer (some ⟨w.heap.size, 0, none⟩)) (w.alloc (.cells Z t)) := by
    simp [Instr.alloc, h0, newVar, newRow, Value.cells]
  unfold Oper.wp execOp
  simp only [ho, Sem.run_bind, Sem.run_pure, Result.andThen_ok, hr]
  exact hK' _ _ (hK _ _ (heap_alloc_new w _) ((Below.refl _ _).alloc (Nat.le_refl _) _) (Nat.le_refl _))
theorem wpList_alloc_ar {P : Program} {w : World} {ops : Array Oper} {rest : List Oper} {o : Oper} {a : Act} {Q : Exit → Act → World → Prop} (hgd : o.guard = none) (t : TypeId) (ho : o.op = .alloc t) (N : Nat)
    (hz : (P.info? t).map (fun i => i.zero) = some (some (.agg (cus (List.replicate N 0)))))
    (hK : ∀ w' g, Ar w' t g (List.replicate N 0) → Below w.heap.size w w' → w.heap.size ≤ g → wpList P ops Q rest (a.put o.dst (.pointer (some ⟨g, 0, none⟩))) w') :
    wpList P ops Q (o :: rest) a w := wpList_alloc_blk hgd t ho _ hz fun w' g h => hK w' g h
/-- All of such an array is written. -/
theorem wpList_store_ar {P : Program} {w : World} {ops : Array Oper} {rest : List Oper} {o : Oper} {a : Act} {Q : Exit → Act → World → Prop} (hgd : o.guard = none) (ty : TypeId) (x y : Operand) (ho : o.op = .store ty x y)
    (g : Nat) (L M : List UInt32) (hx : a.eval x = .pointer (some ⟨g, 0, none⟩)) (hy : a.eval y = .agg (cus M)) (t : TypeId) (hg : Ar w t g L) (N : Nat) (hi : (P.info? ty).map (·.size) = some N) (hl : L.length = N) (hm : M.length = N)
    (hK : ∀ w', Ar w' t g M → w.grownBy w' (some g) → wpList P ops Q rest (a.put o.dst undef) w') :
    wpList P ops Q (o :: rest) a w := by
  refine wpList_store_row hgd ty x y ho g (cus M) hx hy t (cus L) hg (by rw [hi, cus_size, hm]) (by rw [cus_size, cus_size, hl, hm]) (cus_one M) (hK _ (setRow_heap w g _ _ _ _ hg) ⟨rfl, rfl, rfl, by simp, fun k _ hk => setRow_other w g k _ (fun e => hk (by rw [e]))⟩)
/-- All of such an array is read. -/
theorem wpList_load_ar {P : Program} {w : World} {ops : Array Oper} {rest : List Oper} {o : Oper} {a : Act} {Q : Exit → Act → World → Prop} (hgd : o.guard = none) (ty : TypeId) (x : Operand) (ho : o.op = .load ty x)
    (g : Nat) (L : List UInt32) (hx : a.eval x = .pointer (some ⟨g, 0, none⟩)) (t : TypeId) (hg : Ar w t g L) (n : Nat) (e : TypeId) (hu : P.underlying ty = some (.array n e)) (N : Nat) (hi : (P.info? ty).map (·.size) = some N) (hl : L.length = N)
    (hK : wpList P ops Q rest (a.put o.dst (.agg (cus L))) w) : wpList P ops Q (o :: rest) a w :=
  wpList_load_row hgd ty x ho g hx t (cus L) (0, 0) _ hg hu rfl (by rw [hi, cus_size, hl]) hK
/-- A value is put together: the kernel reckons it. -/
theorem wpList_build_at {P : Program} {ops : Array Oper} {rest : List Oper} {o : Oper} {a : Act} {w : World} {Q : Exit → Act → World → Prop} (hg : o.guard = none) (t : TypeId) (parts : Array (Nat × Operand)) (ho : o.op = .build t parts) (V : Array Value)
    (hf : P.built t (parts.map fun (i, x) => (i, a.eval x)).toList = some V) (h : wpList P ops Q rest (a.put o.dst (.agg V)) w) : wpList P ops Q (o :: rest) a w :=
  wpList_build hg t parts ho (by rw [hf]; rfl) (by rw [hf]; exact h)
/-- An array of whatever is read whole, is written whole. -/
theorem wpList_load_blk {P : Program} {w : World} {ops : Array Oper} {rest : List Oper} {o : Oper} {a : Act} {Q : Exit → Act → World → Prop} (hgd : o.guard = none) (ty : TypeId) (x : Operand) (ho : o.op = .load ty x)
    (g : Nat) (cs : Array Value) (hx : a.eval x = .pointer (some ⟨g, 0, none⟩)) (t : TypeId) (hg : Hid (w.heap[g]? = some (.cells cs t (0, 0)))) (n : Nat) (e : TypeId) (hu : P.underlying ty = some (.array n e)) (N : Nat) (hi : (P.info? ty).map (·.size) = some N) (hl : cs.size = N)
    (hK : wpList P ops Q rest (a.put o.dst (.agg cs)) w) : wpList P ops Q (o :: rest) a w :=
  wpList_load_row hgd ty x ho g hx t cs (0, 0) _ hg.out hu rfl (by rw [hi, hl]) hK
theorem wpList_store_blk {P : Program} {w : World} {ops : Array Oper} {rest : List Oper} {o : Oper} {a : Act} {Q : Exit → Act → World → Prop} (hgd : o.guard = none) (ty : TypeId) (x y : Operand) (ho : o.op = .store ty x y)
    (g : Nat) (old cs : Array Value) (hx : a.eval x = .pointer (some ⟨g, 0, none⟩)) (hy : a.eval y = .agg cs) (t : TypeId) (hg : Hid (w.heap[g]? = some (.cells old t (0, 0)))) (N : Nat) (hi : (P.info? ty).map (·.size) = some N) (hl : old.size = N) (hm : cs.size = N) (h1 : cs.all (·.oneCell') = true)
    (hK : ∀ w', Hid (w'.heap[g]? = some (.cells cs t (0, 0))) → w.grownBy w' (some g) → wpList P ops Q rest (a.put o.dst undef) w') :
    wpList P ops Q (o :: rest) a w := by
  refine wpList_store_row hgd ty x y ho g cs hx hy t old hg.out (by rw [hi, hm]) (by rw [hl, hm]) h1 (hK _ (setRow_heap w g _ _ _ _ hg.out) ⟨rfl, rfl, rfl, by simp, fun k _ hk => setRow_other w g k _ (fun e => hk (by rw [e]))⟩)

/-- Byte k of a number, 0 the lowest. -/
def byt (x : UInt32) (k : Nat) : UInt8 := UInt8.ofNat (x.toNat / 256 ^ k)
theorem u_byte3 (x : UInt32) : u x / 16777216 = ub (byt x 3) := by
  have := x.toNat_lt
  unfold u ub byt
  rw [UInt8.toNat_ofNat']
  omega
theorem u_byte2 (x : UInt32) : u x / 65536 % 256 = ub (byt x 2) := by
  unfold u ub byt
  rw [UInt8.toNat_ofNat']
  omega
theorem u_byte1 (x : UInt32) : u x / 256 % 256 = ub (byt x 1) := by
  unfold u ub byt
  rw [UInt8.toNat_ofNat']
  omega
theorem u_byte0 (x : UInt32) : u x % 256 = ub (byt x 0) := by
  unfold u ub byt
  rw [UInt8.toNat_ofNat']
  omega
/-- The state with its first t numbers grown by T's. -/
def sums (S T : St) : Nat → List UInt32
  | 0 => S.l
  | t + 1 => (sums S T t).set t (S.l.getD t 0 + T.l.getD t 0)
theorem sums_length (S T : St) : ∀ t, (sums S T t).length = 8
  | 0 => rfl
  | t + 1 => by rw [sums, List.length_set, sums_length S T t]
theorem sums_get (S T : St) (t : Nat) (h : t < 8) : (sums S T t).getD t 0 = S.l.getD t 0 := by
  match t, h with
  | 0, _ => rfl
  | 1, _ => rfl
  | 2, _ => rfl
  | 3, _ => rfl
  | 4, _ => rfl
  | 5, _ => rfl
  | 6, _ => rfl
  | 7, _ => rfl
theorem sums_all (S T : St) : sums S T 8 = (S.add T).l := rfl
/-- The first 4 t bytes of the answer. -/
def outs (S : St) : Nat → List UInt8
  | 0 => List.replicate 32 0
  | t + 1 => ((((outs S t).set (4 * t) (byt (S.l.getD t 0) 3)).set (4 * t + 1) (byt (S.l.getD t 0) 2)).set (4 * t + 2) (byt (S.l.getD t 0) 1)).set (4 * t + 3) (byt (S.l.getD t 0) 0)
theorem outs_all (S : St) : outs S 8 = (S.l.map fun x => be 4 x.toNat).flatten := by kernel_rfl
theorem outs_length (S : St) : ∀ t, (outs S t).length = 32
  | 0 => rfl
  | t + 1 => by simp [outs, outs_length S t]
/-- BLOCK g HOLDS THE BYTES l. -/
def Ab (w : World) (t : TypeId) (g : Nat) (l : List UInt8) : Prop := w.heap[g]? = some (.cells (l.map fun x => Value.int .u8 (ub x)).toArray t (0, 0))
theorem Ab.lt {w : World} {t : TypeId} {g : Nat} {l : List UInt8} (h : Ab w t g l) : g < w.heap.size := (Array.getElem?_eq_some_iff.1 h).1
theorem Ab.cell {w : World} {t : TypeId} {g : Nat} {l : List UInt8} (h : Ab w t g l) (j : Nat) (hj : j < l.length) : w.cell? ⟨g, j, none⟩ = some (.int .u8 (ub (l.getD j 0))) := by
  rw [cell_of_row w g j _ t (0, 0) h]
  simp [List.getD, hj]
theorem Ab.free {w : World} {t : TypeId} {g : Nat} {l : List UInt8} (h : Ab w t g l) (j : Nat) : w.frozen? ⟨g, j, none⟩ = false := frozen_of_row w g j _ t h
theorem Ab.kept {w w' : World} {t : TypeId} {g : Nat} {l : List UInt8} (h : Ab w t g l) (k : w'.heap[g]? = w.heap[g]?) : Ab w' t g l := k.trans h
theorem Ab.set {w : World} {t : TypeId} {g : Nat} {l : List UInt8} (h : Ab w t g l) (j : Nat) (x : UInt8) : Ab (w.setCell ⟨g, j, none⟩ (.int .u8 (ub x))) t g (l.set j x) := by
  have e := heap_setCell_same w g j _ t (.int .u8 (ub x)) h
  unfold Ab
  rw [e]
  congr 2
  simp [List.map_set]
theorem Ab.drew {w : World} {t : TypeId} {g : Nat} {l : List UInt8} (h : Ab w t g l) : Ab w.drew t g l := h
theorem u8_byte3 (x : UInt32) : IntKind.u8.wrap (u x / 16777216) = ub (byt x 3) := by
  rw [IntKind.wrap_u8', u_byte3]
  exact Int.emod_eq_of_lt (ub_lo _) (ub_hi _)
theorem u8_byte2 (x : UInt32) : IntKind.u8.wrap (u x / 65536) = ub (byt x 2) := by rw [IntKind.wrap_u8', u_byte2]
theorem u8_byte1 (x : UInt32) : IntKind.u8.wrap (u x / 256) = ub (byt x 1) := by rw [IntKind.wrap_u8', u_byte1]
theorem u8_byte0 (x : UInt32) : IntKind.u8.wrap (u x) = ub (byt x 0) := by rw [IntKind.wrap_u8', u_byte0]
theorem ub_wrap (x : UInt8) : IntKind.u8.wrap (ub x) = ub x := by
  rw [IntKind.wrap_u8']
  exact Int.emod_eq_of_lt (ub_lo _) (ub_hi _)
theorem ub_mod (x : UInt8) : ub x % 256 = ub x := Int.emod_eq_of_lt (ub_lo _) (ub_hi _)
theorem far_cell {g h : Nat} (hne : g ≠ h) (w : World) (i j : Nat) (v : Value) : (w.setCell ⟨h, i, none⟩ v).cell? ⟨g, j, none⟩ = w.cell? ⟨g, j, none⟩ :=
  World.cell?_setCell_other w _ _ _ (fun e => hne (by cases e; rfl))
end Go.Proofs.YtpphlmbhonaglaaDoor
