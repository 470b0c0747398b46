/-
  What a slice of bytes holds, over any program: a slice that can be read ('IsB'), a row of the call's own ('OwnB'), and one law for append to such a row, whatever is appended.
  Rows of whatever takes so many cells, over any program: a slice that can be read ('IsR'), a row of the call's own ('OwnR'), one law for append to it, one for make.
  Rows of rows of whatever: each header lies in a cell.
  A cell of a block.
  Elements with rows behind their cells (changes, transactions, lists of them): read as plain data; each level's blocks have a property Q.
  What contracts say: a slice of bytes that is new, one that went on; a bool that is told.
  Values, plain: whether two are the same, what is wrong with one.
  A value: how one lies in cells.
  Changes, transactions, blocks, ledgers as plain data: how they lie in cells.
  Rows of whatever, of the call's own or nil; append to them in a region that draws its order.
  slices.Clone of changes, transactions, rows of them, blocks, values: of nil too (by gen_lgc.py).
  Rows of the call's own whose elements lead on: in blocks that have a property, what they lead to beside the row's own block; append to one.
  Blocks that are made, read and written whole. Of no program.
  A block's cells; a store of a whole block.
-/
import Derived.WalkKit
import Derived.WalkSpells
import Derived.WalkLawsBesides
import Derived.Deep.AppendSrc
import Derived.Lib.Hide
import Derived.Lib.SlBytesRow
import Derived.Test.YtdmnjjknkcnkgaaGreatDoorProg
import Derived.Laws.Rows
import Derived.Still
import Derived.StillTailTactics
import Derived.Deep.RegionHeld
import Derived.Great.BuildSlice
namespace Go.Proofs.YtdmnjjknkcnkgaaGreatDoor
open Go.RowKit
theorem rf {α : Sort _} {P : Prop} {a : α} (_ : P) : a = a := rfl
theorem nf {p : Prop} (h : false = true) : p := by cases h

/-- The cell of a byte. -/
def bc (u : UInt8) : Value := .int .u8 (u.toNat : Int)
def bcs (l : List UInt8) : List Value := l.map bc

theorem bcs_length (l : List UInt8) : (bcs l).length = l.length := by simp [bcs]
theorem bcs_append (a b : List UInt8) : bcs (a ++ b) = bcs a ++ bcs b := by simp [bcs]
theorem bcs_get (l : List UInt8) (j : Nat) : (bcs l)[j]? = (l[j]?).map bc := by simp [bcs]
theorem bcs_one (l : List UInt8) : ∀ u ∈ bcs l, u.oneCell' = true := by
  intro u hu
  obtain ⟨x, _, rfl⟩ := List.mem_map.1 hu
  rfl
theorem bcs_take (l : List UInt8) (n : Nat) : (bcs l).take n = bcs (l.take n) := by simp [bcs]
theorem byteCells_bcs (s : ByteArray) : byteCells s = bcs s.data.toList := rfl

/-- The types' facts that the laws want: t is a slice of e, e holds bytes. -/
structure ByteTy (P : Program) (t e : TypeId) : Prop where
  ht : P.underlying t = some (.slice e)
  he : P.underlying e = some (.int .u8)
  info : ∃ i, P.info? e = some i ∧ i.zero = some (.int .u8 0) ∧ i.size = 1 ∧ i.bytes = 1

/-- THE SLICE ao, n, cap READS AS THE BYTES l. -/
structure IsB (w : World) (ao : Option Addr) (n cap : Nat) (l : List UInt8) : Prop where
  len : l.length = n
  le : n ≤ cap
  max : cap ≤ maxLen
  nil : ao = none → cap = 0
  cell : ∀ a, ao = some a → ∀ j u, l[j]? = some u → w.cell? (a.add j) = some (bc u)

/-- THE ROW IN BLOCK g IS THE CALL's OWN AND ITS FIRST n CELLS HOLD THE BYTES l. -/
structure OwnB (w : World) (e : TypeId) (g n cap : Nat) (l : List UInt8) : Prop where
  len : l.length = n
  le : n ≤ cap
  max : cap ≤ maxLen
  row : ∃ cur, w.heap[g]? = some (.cells cur e (0, 0)) ∧ cur.size = cap ∧ cur.toList.take n = bcs l

theorem IsB.nilB (w : World) : IsB w none 0 0 [] := ⟨rfl, Nat.le_refl _, Nat.zero_le _, fun _ => rfl, fun a h => by cases h⟩

theorem OwnB.lt {w : World} {e : TypeId} {g n cap : Nat} {l : List UInt8} (h : OwnB w e g n cap l) : g < w.heap.size := by
  obtain ⟨cur, hg, _⟩ := h.row
  exact (Array.getElem?_eq_some_iff.1 hg).1

theorem OwnB.cell {w : World} {e : TypeId} {g n cap : Nat} {l : List UInt8} (h : OwnB w e g n cap l) (j : Nat) (u : UInt8) (hu : l[j]? = some u) : w.cell? ⟨g, j, none⟩ = some (bc u) := by
  obtain ⟨cur, hg, hs, ht⟩ := h.row
  have hj : j < l.length := (List.getElem?_eq_some_iff.1 hu).1
  have hl := h.len
  rw [cell_of_row w g j cur e (0, 0) hg]
  have h1 : (bcs l)[j]? = some (bc u) := by rw [bcs_get, hu]; rfl
  rw [← ht, List.getElem?_take_of_lt (by omega)] at h1
  simpa using h1

theorem OwnB.isB {w : World} {e : TypeId} {g n cap : Nat} {l : List UInt8} (h : OwnB w e g n cap l) : IsB w (some ⟨g, 0, none⟩) n cap l :=
  ⟨h.len, h.le, h.max, (fun h => by cases h), fun a ha j u hu => by
    obtain rfl := Option.some.inj ha
    rw [Addr.add_lit, Nat.zero_add]
    exact h.cell j u hu⟩

theorem OwnB.kept {w w' : World} {e : TypeId} {g n cap : Nat} {l : List UInt8} (h : OwnB w e g n cap l) (hb : w'.heap[g]? = w.heap[g]?) : OwnB w' e g n cap l := by
  obtain ⟨cur, hg, hs, ht⟩ := h.row
  exact ⟨h.len, h.le, h.max, cur, by rw [hb]; exact hg, hs, ht⟩
theorem OwnB.grown {w w' : World} {row : Option Nat} {e : TypeId} {g n cap : Nat} {l : List UInt8} (h : OwnB w e g n cap l) (hg : w.grownBy w' row) (hne : some g ≠ row) : OwnB w' e g n cap l :=
  h.kept (hg.block g h.lt hne)
theorem OwnB.below {w w' : World} {B : Nat} {e : TypeId} {g n cap : Nat} {l : List UInt8} (h : OwnB w e g n cap l) (hb : Below B w w') (hg : g < B) : OwnB w' e g n cap l :=
  h.kept (hb.block g hg)
theorem OwnB.alloc {w : World} {e : TypeId} {g n cap : Nat} {l : List UInt8} (h : OwnB w e g n cap l) (o : Obj) : OwnB (w.alloc o) e g n cap l :=
  h.kept (Below.heap_alloc w o g h.lt)
theorem OwnB.drew {w : World} {e : TypeId} {g n cap : Nat} {l : List UInt8} (h : OwnB w e g n cap l) : OwnB w.drew e g n cap l := ⟨h.len, h.le, h.max, h.row⟩


theorem IsB.grown {w w' : World} {row : Option Nat} {ao : Option Addr} {n cap : Nat} {l : List UInt8} (h : IsB w ao n cap l) (hg : w.grownBy w' row) (hne : ∀ a,ao = some a → some a.block ≠ row) : IsB w' ao n cap l :=
  ⟨h.len, h.le, h.max, h.nil, fun a ha j u hu => hg.cell (h.cell a ha j u hu) (by
    have e : (a.add j).block = a.block := by unfold Addr.add; split <;> rfl
    rw [e]
    exact hne a ha)⟩
theorem IsB.below {w w' : World} {B : Nat} {ao : Option Addr} {n cap : Nat} {l : List UInt8} (h : IsB w ao n cap l) (hb : Below B w w') (hlt : ∀ a, ao = some a → a.block < B) : IsB w' ao n cap l :=
  ⟨h.len, h.le, h.max, h.nil, fun a ha j u hu => by
    have e : (a.add j).block = a.block := by unfold Addr.add; split <;> rfl
    rw [hb.cell (by rw [e]; exact hlt a ha)]
    exact h.cell a ha j u hu⟩
/-- What was there when the call began reads as it did. -/
theorem IsB.past {w w' : World} {ao : Option Addr} {n cap : Nat} {l : List UInt8} (h : IsB w ao n cap l) (hb : Below w.heap.size w w') : IsB w' ao n cap l :=
  ⟨h.len, h.le, h.max, h.nil, fun a ha j u hu => by
    have hc := h.cell a ha j u hu
    rw [hb.cell (World.block_lt_of_cell? w _ hc)]
    exact hc⟩
theorem IsB.alloc {w : World} {ao : Option Addr} {n cap : Nat} {l : List UInt8} (h : IsB w ao n cap l) (o : Obj) : IsB (w.alloc o) ao n cap l :=
  h.past ((Below.refl _ _).alloc (Nat.le_refl _) o)
theorem IsB.drew {w : World} {ao : Option Addr} {n cap : Nat} {l : List UInt8} (h : IsB w ao n cap l) : IsB w.drew ao n cap l := h.past (Below.refl _ _).drew

theorem IsB.src {P : Program} {w : World} {ao : Option Addr} {n cap : Nat} {l : List UInt8} {t e : TypeId} (h : IsB w ao n cap l) (ht : P.underlying t = some (.slice e)) : Src P 1 t (.slice ao n cap) n (bcs l) w := by
  cases ao with
  | none =>
    have hc := h.nil rfl
    have hle := h.le
    obtain rfl : n = 0 := by omega
    obtain rfl : l = [] := List.eq_nil_of_length_eq_zero h.len
    exact Src.ofNil w ht cap
  | some a =>
    refine Src.ofSlice w ht a n cap (bcs l) (by rw [bcs_length, h.len, Nat.mul_one]) (fun j u hu => ?_) (bcs_one l)
    rw [bcs_get] at hu
    obtain ⟨x, hx, rfl⟩ := Option.map_eq_some_iff.1 hu
    exact h.cell a rfl j x hx

/-- 'string(b)'. -/
theorem IsB.conv {P : Program} {w : World} {ao : Option Addr} {n cap : Nat} {l : List UInt8} {t e dst : TypeId} (h : IsB w ao n cap l) (hB : ByteTy P t e) (hd : P.underlying dst = some .string) :
    (convert t dst (.slice ao n cap)).run P w = .ok (.string ⟨l.toArray⟩) w := by
  have hb : ∀ (xs : List UInt8) (s : ByteArray), (xs.map fun u => (u.toNat : Int)).foldl (fun r m => r.push (UInt8.ofNat m.toNat)) s = ⟨s.data ++ xs.toArray⟩ := by
    intro xs s
    rw [foldl_push_bytes, List.map_map]
    have hid : (fun n : Int => UInt8.ofNat n.toNat) ∘ (fun u : UInt8 => (u.toNat : Int)) = id := by funext u; simp
    rw [hid, List.map_id]
  cases ao with
  | none =>
    have hc := h.nil rfl
    have hle := h.le
    obtain rfl : n = 0 := by omega
    obtain rfl : l = [] := List.eq_nil_of_length_eq_zero h.len
    rw [run_convert_bytes_nil w t e hB.ht hB.he 0 cap dst hd]
    rfl
  | some a =>
    have hl : (loadCells a n).run P w = .ok ((l.map fun u => (u.toNat : Int)).map (Value.int .u8)).toArray w := by
      have := run_loadCells_list (P := P) w a (bcs l) (fun j v hj => by
        rw [bcs_get] at hj
        obtain ⟨x, hx, rfl⟩ := Option.map_eq_some_iff.1 hj
        exact h.cell a rfl j x hx)
      rw [bcs_length, h.len] at this
      rw [this]
      simp [bcs, bc, Function.comp_def]
    rw [run_convert_bytes_string w t dst e _ n cap hB.ht hB.he hd, run_bytesToString w _ n cap _ hl, hb]
    simp [ByteArray.empty, ByteArray.emptyWithCapacity]
    rfl

/-- FROM w TO w' ONLY NEW BLOCKS CAME, AND ROW g WAS WRITTEN BEHIND ITS FIRST n CELLS. -/
structure Puts (w w' : World) (g n : Nat) : Prop where
  os : w'.os = w.os
  tape : w'.tape = w.tape
  output : w'.output = w.output
  size : w.heap.size ≤ w'.heap.size
  block : ∀ k, k < w.heap.size → k ≠ g → w'.heap[k]? = w.heap[k]?
  row : ∀ cur t, w.heap[g]? = some (.cells cur t (0, 0)) → ∃ cur', w'.heap[g]? = some (.cells cur' t (0, 0)) ∧ cur'.size = cur.size ∧ cur'.toList.take n = cur.toList.take n

theorem Puts.refl (w : World) (g n : Nat) : Puts w w g n := ⟨rfl, rfl, rfl, Nat.le_refl _, fun _ _ _ => rfl, fun cur _ h => ⟨cur, h, rfl, rfl⟩⟩
theorem Puts.trans {a b c : World} {g n g' n' : Nat} (h : Puts a b g n) (k : Puts b c g' n') (hg : (g' = g ∧ n ≤ n') ∨ (g' ≠ g ∧ a.heap.size ≤ g')) : Puts a c g n := by
  refine ⟨k.os.trans h.os, k.tape.trans h.tape, k.output.trans h.output, Nat.le_trans h.size k.size, fun i hi hne => ?_, fun cur t hc => ?_⟩
  · have hs := h.size
    rw [k.block i (by omega) (by rcases hg with ⟨rfl, _⟩ | ⟨_, hge⟩ <;> omega), h.block i hi hne]
  · obtain ⟨c1, h1, s1, t1⟩ := h.row cur t hc
    rcases hg with ⟨rfl, hn⟩ | ⟨hne, hge⟩
    · obtain ⟨c2, h2, s2, t2⟩ := k.row c1 t h1
      refine ⟨c2, h2, s2.trans s1, ?_⟩
      have e := congrArg (List.take n) t2
      rw [List.take_take, List.take_take, Nat.min_eq_left hn] at e
      rw [e, t1]
    · refine ⟨c1, ?_, s1, t1⟩
      rw [k.block g (Array.getElem?_eq_some_iff.1 h1).1 (Ne.symm hne)]
      exact h1
theorem Puts.alloc {a b : World} {g n : Nat} (h : Puts a b g n) (o : Obj) (hg : g < a.heap.size) : Puts a (b.alloc o) g n := by
  have hs := h.size
  refine ⟨h.os, h.tape, h.output, by simp; omega, fun k hk hne => ?_, fun cur t hc => ?_⟩
  · rw [Below.heap_alloc b o k (by omega), h.block k hk hne]
  · obtain ⟨c1, h1, s1, t1⟩ := h.row cur t hc
    exact ⟨c1, by rw [Below.heap_alloc b o g (by omega)]; exact h1, s1, t1⟩
theorem Puts.drew {a b : World} {g n : Nat} (h : Puts a b g n) : Puts a b.drew g n := ⟨h.os, h.tape, h.output, h.size, h.block, h.row⟩
theorem Puts.below {w w' : World} {g n B : Nat} (h : Puts w w' g n) (hg : B ≤ g) (hB : B ≤ w.heap.size) : Below B w w' :=
  ⟨h.os, h.tape, h.output, h.size, fun k hk => h.block k (by omega) (by omega)⟩
theorem Below.puts {w w' : World} (h : Below w.heap.size w w') (g n : Nat) : Puts w w' g n :=
  ⟨h.os, h.tape, h.output, h.size, fun k hk _ => h.block k hk, fun cur t hc => ⟨cur, by rw [h.block g (Array.getElem?_eq_some_iff.1 hc).1]; exact hc, rfl, rfl⟩⟩

theorem OwnB.puts {w w' : World} {e : TypeId} {g n cap g0 n0 : Nat} {l : List UInt8} (h : OwnB w e g n cap l) (k : Puts w w' g0 n0) (hne : g ≠ g0 ∨ n ≤ n0) : OwnB w' e g n cap l := by
  by_cases hg : g = g0
  · subst hg
    have hn : n ≤ n0 := by omega
    obtain ⟨cur, hc, hs, ht⟩ := h.row
    obtain ⟨c1, h1, s1, t1⟩ := k.row cur e hc
    refine ⟨h.len, h.le, h.max, c1, h1, s1.trans hs, ?_⟩
    have e := congrArg (List.take n) t1
    rw [List.take_take, List.take_take, Nat.min_eq_left hn] at e
    rw [e, ht]
  · exact h.kept (k.block g h.lt hg)
theorem IsB.puts {w w' : World} {g n0 : Nat} {ao : Option Addr} {n cap : Nat} {l : List UInt8} (h : IsB w ao n cap l) (k : Puts w w' g n0) (hne : ∀ a, ao = some a → a.block ≠ g) : IsB w' ao n cap l :=
  ⟨h.len, h.le, h.max, h.nil, fun a ha j u hu => by
    have e : (a.add j).block = a.block := by unfold Addr.add; split <;> rfl
    have hc := h.cell a ha j u hu
    rw [World.cell?_of_block (w := w) (a := a.add j) (k.block _ (World.block_lt_of_cell? w _ hc) (by rw [e]; exact hne a ha))]
    exact hc⟩

/-- One byte in a new block of its own. -/
theorem src_one {P : Program} {t e : TypeId} (ht : P.underlying t = some (.slice e)) (w : World) (v : Value) (b : UInt8) (hv : v = bc b) : Src P 1 t (.slice (some ⟨w.heap.size,0,none⟩) 1 1) 1 (bcs [b]) (w.alloc (.cells #[v] e)) := by
  refine Src.ofSlice _ ht _ 1 1 (bcs [b]) rfl (fun j u hu => ?_) (bcs_one _)
  match j, hu with
  | 0, hu =>
    rw [Addr.add_lit, cell_of_row _ _ _ _ e (0, 0) (heap_alloc_new w _)]
    simp [bcs] at hu
    simp [hv, hu]
  | j + 1, hu => simp [bcs] at hu
/-- Some bytes in a new block of their own. -/
theorem src_lit {P : Program} {t e : TypeId} (ht : P.underlying t = some (.slice e)) (w : World) (cs : Array Value) (l : List UInt8) (m : Nat) (hv : cs.toList = bcs l) (hm : l.length = m) : Src P 1 t (.slice (some ⟨w.heap.size,0,none⟩) m m) m (bcs l) (w.alloc (.cells cs e)) := by
  refine Src.ofSlice _ ht _ m m (bcs l) (by rw [bcs_length, hm, Nat.mul_one]) (fun j u hu => ?_) (bcs_one _)
  rw [Addr.add_lit, Nat.zero_add, cell_of_row _ _ _ _ e (0, 0) (heap_alloc_new w _), ← hu, ← hv]
  simp
theorem bc_mod (q : Nat) : Value.int .u8 ((q : Int) % 256) = bc (UInt8.ofNat (q % 256)) := by
  simp only [bc, Value.int.injEq, true_and, UInt8.toNat_ofNat']
  omega

/-- append, TO A ROW OF THE CALL's OWN, OF WHATEVER: the row goes on by what came; what was there reads on as it did. -/
theorem run_append_ob {P : Program} (w : World) (t tx ty e : TypeId) (hB : ByteTy P t e) (g n cap : Nat) (l : List UInt8) (h : OwnB w e g n cap l)
    (x : Value) (m : Nat) (cs : List UInt8) (hs : Src P 1 tx x m (bcs cs) w) (hmax : n + m ≤ 70368744177664) :
    ∃ g' cap' w', (Builtin.append_ #[t, tx] ty #[.slice (some ⟨g, 0, none⟩) n cap, x]).run P w = .ok (.slice (some ⟨g', 0, none⟩) (n + m) cap') w' ∧
      OwnB w' e g' (n + m) cap' (l ++ cs) ∧ Puts w w' g n ∧ (g' = g ∨ w.heap.size ≤ g') := by
  obtain ⟨i, hi, hz, hsize, hby⟩ := hB.info
  have ht := hB.ht
  have hs' : Src P i.size tx x m (bcs cs) w := by rw [hsize]; exact hs
  have hcl : cs.length = m := by have := hs.newsLen; rw [bcs_length, Nat.mul_one] at this; exact this
  obtain ⟨cur, hg, hcs, htake⟩ := h.row
  have hln := h.len
  have hle := h.le
  have hmx := h.max
  have hll : (l ++ cs).length = n + m := by rw [List.length_append, hln, hcl]
  by_cases hroom : n + m ≤ cap
  · have hst := run_storeCells_at P g (n * i.size) e (bcs cs) 0 cur w hg (by rw [hsize, bcs_length]; omega) (bcs_one cs)
    simp only [Nat.add_zero] at hst
    have hr : (Builtin.append_ #[t, tx] ty #[.slice (some ⟨g, 0, none⟩) n cap, x]).run P w =
        .ok (.slice (some ⟨g, 0, none⟩) (n + m) cap) (w.setRow g (cur.toList.take (n * i.size) ++ bcs cs ++ cur.toList.drop (n * i.size + (bcs cs).length)).toArray) := by
      rcases hs'.kind with ⟨e', hk⟩ | hk <;> simp [Builtin.append_, run_underlying ht, run_underlying hk, sizeOf, typeInfo, hi, hs'.len, hroom, hs'.cells, Addr.add_lit, hst]
    have hall : OwnB (w.setRow g (cur.toList.take (n * i.size) ++ bcs cs ++ cur.toList.drop (n * i.size + (bcs cs).length)).toArray) e g (n + m) cap (l ++ cs) := by
      refine ⟨hll, hroom, hmx, _, setRow_heap w g cur _ e _ hg, ?_, ?_⟩
      · simp only [List.size_toArray, List.length_append, List.length_take, List.length_drop, Array.length_toList, bcs_length]
        rw [hsize]
        omega
      · rw [hsize, Nat.mul_one, htake, ← bcs_append]
        show List.take (n + m) (bcs (l ++ cs) ++ _) = _
        rw [← hll, ← bcs_length]
        exact List.take_left
    refine ⟨g, cap, _, hr, hall, ⟨rfl, rfl, rfl, by simp, fun k _ hk => setRow_other w g k _ hk, fun c0 t0 h0 => ?_⟩, .inl rfl⟩
    rw [hg] at h0
    obtain ⟨rfl, rfl⟩ : cur = c0 ∧ e = t0 := by simpa using h0
    refine ⟨_, setRow_heap w g cur _ e _ hg, ?_, ?_⟩
    · simp only [List.size_toArray, List.length_append, List.length_take, List.length_drop, Array.length_toList, bcs_length]
      rw [hsize]
      omega
    · rw [hsize, Nat.mul_one, List.append_assoc]
      show List.take n (List.take n cur.toList ++ _) = _
      rw [List.take_append_of_le_length (by simp; omega), List.take_take, Nat.min_self]
  · have hold : (Builtin.firstCells i.size n (.slice (some ⟨g, 0, none⟩) n cap)).run P w.drew = .ok (bcs l).toArray w.drew :=
      run_firstCells_some w.drew i.size n ⟨g, 0, none⟩ n cap (bcs l) (by rw [bcs_length, hln, hsize, Nat.mul_one]) (fun j u hu => by
        rw [bcs_get] at hu
        obtain ⟨y, hy, rfl⟩ := Option.map_eq_some_iff.1 hu
        rw [Addr.add_lit, Nat.zero_add]
        exact h.drew.cell j y hy)
    have hr := run_append_grow_src (P := P) w t tx ty e i (.int .u8 0) ht hi hz (some ⟨g, 0, none⟩) n cap (bcs l) hold x m (bcs cs) hs' (by omega) (by omega)
      (growslice_fits (by omega) (by rw [hby]; omega))
    have hge := grownCap_ge w (n + m) cap e
    have hcm : grownCap w (n + m) cap e ≤ maxLen := grownCap_le_maxLen w (n + m) cap e (by simp only [maxLen]; omega)
    refine ⟨w.heap.size, grownCap w (n + m) cap e, _, hr, ⟨hll, hge, hcm, _, heap_alloc_new w.drew _, ?_, ?_⟩, Below.puts ((Below.refl _ _).drew.alloc (Nat.le_refl _) _) _ _, .inr (Nat.le_refl _)⟩
    · simp only [Array.size_append, List.size_toArray, size_zeroCells, List.length_append, bcs_length, Value.cells]
      simp
      omega
    · rw [← bcs_append]
      simp only [Array.toList_append]
      rw [← hll, ← bcs_length (l ++ cs)]
      exact List.take_left

/-- The same, as the walk meets it. -/
theorem wpList_append_ob {P : Program} {w : World} {ops : Array Oper} {rest : List Oper} {o : Oper} {a : Act} {Q : Exit → Act → World → Prop} (hgd : o.guard = none) (s x : Operand) (t tx : TypeId)
    (ho : o.op = .call { callee := .builtin .append,args := #[s,x],argTypes := #[t,tx] }) (e : TypeId) (hB : ByteTy P t e) (g n cap : Nat) (l : List UInt8) (hsv : a.eval s = .slice (some ⟨g,0,none⟩) n cap) (h : OwnB w e g n cap l)
    (X : Value) (hx : a.eval x = X) (m : Nat) (cs : List UInt8) (hs : Src P 1 tx X m (bcs cs) w) (N : Nat) (hN : n + m = N) (L : List UInt8) (hL : l ++ cs = L) (hmax : N ≤ 70368744177664)
    (hK : ∀ g' cap' w', OwnB w' e g' N cap' L → Puts w w' g n → (g' = g ∨ w.heap.size ≤ g') → wpList P ops Q rest (a.put o.dst (.slice (some ⟨g', 0, none⟩) N cap')) w') :
    wpList P ops Q (o :: rest) a w := by
  subst hN
  subst hL
  refine wpList_plain hgd fun K hK' => ?_
  obtain ⟨g', cap', w', hr, h1, h2, h3⟩ := run_append_ob (P := P) w t tx o.type e hB g n cap l h X m cs hs hmax
  unfold Oper.wp execOp
  simp only [ho, resolve, invoke, builtin, Sem.run_bind, Sem.run_pure, Result.andThen_ok, List.map_toArray, List.map_cons, List.map_nil, hsv, hx, hr]
  exact hK' _ _ (hK g' cap' w' h1 h2 h3)

/-- 'make([]byte, 0, N)'. -/
theorem wpList_make_ob {P : Program} {w : World} {ops : Array Oper} {rest : List Oper} {o : Oper} {a : Act} {Q : Exit → Act → World → Prop} (hgd : o.guard = none) (l c : Operand) (t : TypeId)
    (ho : o.op = Op.makeSlice t l c) (e : TypeId) (hB : ByteTy P t e) (kl kc : IntKind) (C : Int) (N : Nat) (hl : a.eval l = .int kl 0) (hc : a.eval c = .int kc C) (hC : C = (N : Int)) (hN : N ≤ 70368744177664)
    (hK : ∀ w', OwnB w' e w.heap.size 0 N [] → Below w.heap.size w w' → wpList P ops Q rest (a.put o.dst (.slice (some ⟨w.heap.size, 0, none⟩) 0 N)) w') :
    wpList P ops Q (o :: rest) a w := by
  obtain ⟨i, hi, hz, hsize, hby⟩ := hB.info
  refine wpList_make_own w hgd l c t ho w.heap.size e i (.int .u8 0) 1 hB.ht hi hz hsize kl kc C N hl hc hC (by rw [hby]; omega) (by simp only [maxLen]; omega) (Nat.le_refl _) fun w' hown hgr => ?_
  refine hK w' ?_ ((Below.refl _ w).grown hgr (Nat.le_refl _) (fun k h => by cases h))
  rcases hown.2 with ⟨h, _⟩ | ⟨g, cap, cur, hv, _, hg, hnc, hcm, hcs, htake⟩
  · cases h
  · simp only [Value.slice.injEq, Option.some.injEq, Addr.mk.injEq, and_true] at hv
    obtain ⟨rfl, _, rfl⟩ := hv
    exact ⟨rfl, Nat.zero_le _, hcm, cur, hg, by rw [hcs, Nat.mul_one], by simp [bcs]⟩

/-- Bytes in a new block. -/
theorem isB_lit (w : World) (cs : Array Value) (e : TypeId) (l : List UInt8) (m : Nat) (hv : cs.toList = bcs l) (hm : l.length = m) (hM : m ≤ 1000000) : IsB (w.alloc (.cells cs e)) (some ⟨w.heap.size,0,none⟩) m m l :=
  ⟨hm, Nat.le_refl _, by unfold maxLen; omega, (fun h => by cases h), fun a ha j u hu => by
    obtain rfl := Option.some.inj ha
    rw [Addr.add_lit, Nat.zero_add, cell_of_row _ _ _ _ e (0, 0) (heap_alloc_new w _), ← Array.getElem?_toList, hv, bcs_get, hu]
    rfl⟩
/-- A number's k lowest bytes, the lowest first. -/
def le : Nat → Nat → List UInt8
  | 0, _ => []
  | k + 1, x => UInt8.ofNat (x % 256) :: le k (x / 256)
theorem le_length : ∀ k x, (le k x).length = k
  | 0, _ => rfl
  | k + 1, x => by rw [le, List.length_cons, le_length k]
theorem le_snoc : ∀ k x, le (k + 1) x = le k x ++ [UInt8.ofNat (x / 256 ^ k % 256)]
  | 0, x => by simp [le]
  | k + 1, x => by
    rw [le, le_snoc k (x / 256)]
    rw [show le (k + 1) x = UInt8.ofNat (x % 256) :: le k (x / 256) from rfl, List.cons_append, Nat.div_div_eq_div_mul, ← Nat.pow_succ']

/-- HOW AN ELEMENT LIES IN CELLS. -/
structure Enc (α : Type) where
  sz : Nat
  f : α → List Value
  len : ∀ x, (f x).length = sz
  one : ∀ x, ∀ u ∈ f x, u.oneCell' = true
section
variable {α : Type} (E : Enc α)
def Enc.all (l : List α) : List Value := l.flatMap E.f
theorem Enc.all_nil : E.all [] = [] := rfl
theorem Enc.all_cons (x : α) (l : List α) : E.all (x :: l) = E.f x ++ E.all l := rfl
theorem Enc.all_length (l : List α) : (E.all l).length = l.length * E.sz := by
  induction l with
  | nil => simp [Enc.all]
  | cons x l ih => rw [E.all_cons, List.length_append, ih, E.len, List.length_cons, Nat.succ_mul, Nat.add_comm]
theorem Enc.all_append (a b : List α) : E.all (a ++ b) = E.all a ++ E.all b := by simp [Enc.all]
theorem Enc.all_one (l : List α) : ∀ u ∈ E.all l, u.oneCell' = true := by
  intro u hu
  obtain ⟨x, _, h⟩ := List.mem_flatMap.1 hu
  exact E.one x u h
theorem Enc.all_take : ∀ (l : List α) (n : Nat), (E.all l).take (n * E.sz) = E.all (l.take n)
  | [], n => by simp [Enc.all]
  | x :: l, 0 => by simp [Enc.all]
  | x :: l, n + 1 => by
    rw [E.all_cons, List.take_succ_cons, E.all_cons, ← Enc.all_take l n, Nat.succ_mul, Nat.add_comm, List.take_append, E.len, Nat.add_sub_cancel_left, List.take_of_length_le (by rw [E.len]; omega)]
theorem Enc.all_drop : ∀ (l : List α) (n : Nat), (E.all l).drop (n * E.sz) = E.all (l.drop n)
  | [], n => by simp [Enc.all]
  | x :: l, 0 => by simp [Enc.all]
  | x :: l, n + 1 => by
    rw [E.all_cons,List.drop_succ_cons, ← Enc.all_drop l n,Nat.succ_mul,Nat.add_comm,List.drop_append,E.len,Nat.add_sub_cancel_left,List.drop_of_length_le (by rw [E.len]; omega),List.nil_append]
theorem Enc.all_get : ∀ (l : List α) (i j : Nat) (x : α), l[i]? = some x → j < E.sz → (E.all l)[i * E.sz + j]? = (E.f x)[j]?
  | [], i, j, x, h, _ => by simp at h
  | y :: l, 0, j, x, h, hj => by
    obtain rfl : y = x := by simpa using h
    rw [E.all_cons, Nat.zero_mul, Nat.zero_add, List.getElem?_append_left (by rw [E.len]; exact hj)]
  | y :: l, i + 1, j, x, h, hj => by
    rw [E.all_cons, List.getElem?_append_right (by rw [E.len, Nat.succ_mul]; omega), E.len, Nat.succ_mul, show i * E.sz + E.sz + j - E.sz = i * E.sz + j by omega]
    exact Enc.all_get l i j x (by simpa using h) hj
theorem Enc.all_set (l : List α) (i : Nat) (x : α) (h : i < l.length) : E.all (l.set i x) = (E.all l).take (i * E.sz) ++ E.f x ++ (E.all l).drop ((i + 1) * E.sz) := by
  rw [E.all_take, E.all_drop, List.set_eq_take_append_cons_drop, if_pos h, E.all_append, E.all_cons, List.append_assoc]

/-- The types' facts that the laws want: t is a slice of e, whose zero is 'zero'. -/
structure RowTy (P : Program) (t e : TypeId) (zero : α) : Prop where
  ht : P.underlying t = some (.slice e)
  info : ∃ i z, P.info? e = some i ∧ i.zero = some z ∧ i.size = E.sz ∧ z.cells.toList = E.f zero ∧ i.bytes ≤ 1000
/-- THE SLICE ao, n, cap READS AS THE ELEMENTS l. -/
structure IsR (w : World) (ao : Option Addr) (n cap : Nat) (l : List α) : Prop where
  len : l.length = n
  le : n ≤ cap
  max : cap ≤ maxLen
  nil : ao = none → cap = 0
  cell : ∀ a, ao = some a → ∀ j u, (E.all l)[j]? = some u → w.cell? (a.add j) = some u
/-- THE ROW IN BLOCK g IS THE CALL's OWN AND ITS FIRST n ELEMENTS ARE l. -/
structure OwnR (w : World) (e : TypeId) (g n cap : Nat) (l : List α) : Prop where
  len : l.length = n
  le : n ≤ cap
  max : cap ≤ maxLen
  row : ∃ cur, w.heap[g]? = some (.cells cur e (0, 0)) ∧ cur.size = cap * E.sz ∧ cur.toList.take (n * E.sz) = E.all l
end
section
variable {α : Type} {E : Enc α} {w w' : World} {e : TypeId} {g n cap : Nat} {l : List α} {ao : Option Addr}
theorem IsR.nilR (w : World) : IsR E w none 0 0 [] := ⟨rfl, Nat.le_refl _, Nat.zero_le _, fun _ => rfl, fun a h => by cases h⟩
theorem OwnR.lt (h : OwnR E w e g n cap l) : g < w.heap.size := by
  obtain ⟨cur, hg, _⟩ := h.row
  exact (Array.getElem?_eq_some_iff.1 hg).1
theorem OwnR.cell (h : OwnR E w e g n cap l) (j : Nat) (u : Value) (hu : (E.all l)[j]? = some u) : w.cell? ⟨g, j, none⟩ = some u := by
  obtain ⟨cur, hg, hs, ht⟩ := h.row
  have hj : j < (E.all l).length := (List.getElem?_eq_some_iff.1 hu).1
  rw [E.all_length, h.len] at hj
  rw [cell_of_row w g j cur e (0, 0) hg]
  rw [← ht, List.getElem?_take_of_lt hj] at hu
  simpa using hu
theorem OwnR.isR (h : OwnR E w e g n cap l) : IsR E w (some ⟨g, 0, none⟩) n cap l :=
  ⟨h.len, h.le, h.max, (fun h => by cases h), fun a ha j u hu => by
    obtain rfl := Option.some.inj ha
    rw [Addr.add_lit, Nat.zero_add]
    exact h.cell j u hu⟩
theorem OwnR.kept (h : OwnR E w e g n cap l) (hb : w'.heap[g]? = w.heap[g]?) : OwnR E w' e g n cap l := by
  obtain ⟨cur, hg, hs, ht⟩ := h.row
  exact ⟨h.len, h.le, h.max, cur, by rw [hb]; exact hg, hs, ht⟩
theorem OwnR.grown {row : Option Nat} (h : OwnR E w e g n cap l) (hg : w.grownBy w' row) (hne : some g ≠ row) : OwnR E w' e g n cap l := h.kept (hg.block g h.lt hne)
theorem OwnR.below {B : Nat} (h : OwnR E w e g n cap l) (hb : Below B w w') (hg : g < B) : OwnR E w' e g n cap l := h.kept (hb.block g hg)
theorem OwnR.past (h : OwnR E w e g n cap l) (hb : Below w.heap.size w w') : OwnR E w' e g n cap l := h.below hb h.lt
theorem OwnR.alloc (h : OwnR E w e g n cap l) (o : Obj) : OwnR E (w.alloc o) e g n cap l := h.kept (Below.heap_alloc w o g h.lt)
theorem OwnR.drew (h : OwnR E w e g n cap l) : OwnR E w.drew e g n cap l := ⟨h.len, h.le, h.max, h.row⟩
theorem OwnR.puts {g0 n0 : Nat} (h : OwnR E w e g n cap l) (k : Puts w w' g0 n0) (hne : g ≠ g0) : OwnR E w' e g n cap l := h.kept (k.block g h.lt hne)
theorem IsR.grown {row : Option Nat} (h : IsR E w ao n cap l) (hg : w.grownBy w' row) (hne : ∀ a, ao = some a → some a.block ≠ row) : IsR E w' ao n cap l :=
  ⟨h.len, h.le, h.max, h.nil, fun a ha j u hu => hg.cell (h.cell a ha j u hu) (by
    have e : (a.add j).block = a.block := by unfold Addr.add; split <;> rfl
    rw [e]
    exact hne a ha)⟩
theorem IsR.past (h : IsR E w ao n cap l) (hb : Below w.heap.size w w') : IsR E w' ao n cap l :=
  ⟨h.len, h.le, h.max, h.nil, fun a ha j u hu => by
    have hc := h.cell a ha j u hu
    rw [hb.cell (World.block_lt_of_cell? w _ hc)]
    exact hc⟩
theorem IsR.alloc (h : IsR E w ao n cap l) (o : Obj) : IsR E (w.alloc o) ao n cap l := h.past ((Below.refl _ _).alloc (Nat.le_refl _) o)
theorem IsR.drew (h : IsR E w ao n cap l) : IsR E w.drew ao n cap l := h.past (Below.refl _ _).drew
theorem IsR.src {P : Program} {t : TypeId} (h : IsR E w ao n cap l) (ht : P.underlying t = some (.slice e)) : Src P E.sz t (.slice ao n cap) n (E.all l) w := by
  cases ao with
  | none =>
    have hc := h.nil rfl
    have hle := h.le
    obtain rfl : n = 0 := by omega
    obtain rfl : l = [] := List.eq_nil_of_length_eq_zero h.len
    exact Src.ofNil w ht cap
  | some a => exact Src.ofSlice w ht a n cap (E.all l) (by rw [E.all_length, h.len]) (fun j u hu => h.cell a rfl j u hu) (E.all_one l)
theorem IsR.has (h : IsR E w ao n cap l) (hn : 0 < n) : ∃ a, ao = some a := by
  cases ao with
  | none => have := h.nil rfl; have := h.le; omega
  | some a => exact ⟨a, rfl⟩
/-- A slice that holds something lies in some block, at some place. -/
theorem IsR.open (h : IsR E w ao n cap l) (hn : 0 < n) (hz : 0 < E.sz) : ∃ b off, ao = some ⟨b, off, none⟩ ∧ b < w.heap.size ∧ ∀ j u, (E.all l)[j]? = some u → w.cell? ⟨b, off + j, none⟩ = some u := by
  obtain ⟨⟨b, off, spot⟩, rfl⟩ := h.has hn
  have hc : ∀ j u, (E.all l)[j]? = some u → w.cell? ((⟨b, off, spot⟩ : Addr).add j) = some u := h.cell _ rfl
  have hl : 0 < (E.all l).length := by rw [E.all_length, h.len]; exact Nat.mul_pos hn hz
  have h0 := hc 0 _ (List.getElem?_eq_getElem hl)
  have hspot : spot = none := by simpa [Addr.add] using World.cell?_spot h0
  subst hspot
  refine ⟨b, off, rfl, ?_, fun j u hu => by have := hc j u hu; rwa [Addr.add_lit] at this⟩
  exact World.block_lt_of_cell? w _ h0
/-- A new block that holds a row. -/
theorem OwnR.ofBlk {cs : Array Value} (hb : w.heap[g]? = some (.cells cs e (0, 0))) (hc : cs.toList = E.all l) (hl : l.length = n) (hn : n ≤ 1000000) : OwnR E w e g n n l :=
  ⟨hl, Nat.le_refl _, by unfold maxLen; omega, cs, hb, by rw [← Array.length_toList, hc, E.all_length, hl], by rw [hc, List.take_of_length_le (by rw [E.all_length, hl]; exact Nat.le_refl _)]⟩
/-- append, TO A ROW OF THE CALL's OWN, OF WHATEVER. -/
theorem run_append_or {P : Program} {zero : α} (w : World) (t tx ty e : TypeId) (hB : RowTy E P t e zero) (g n cap : Nat) (l : List α) (h : OwnR E w e g n cap l)
    (x : Value) (m : Nat) (cs : List α) (hs : Src P E.sz tx x m (E.all cs) w) (hcl : cs.length = m) (hmax : n + m ≤ 1000000) :
    ∃ g' cap' w', (Builtin.append_ #[t, tx] ty #[.slice (some ⟨g, 0, none⟩) n cap, x]).run P w = .ok (.slice (some ⟨g', 0, none⟩) (n + m) cap') w' ∧
      OwnR E w' e g' (n + m) cap' (l ++ cs) ∧ Puts w w' g (n * E.sz) ∧ (g' = g ∨ w.heap.size ≤ g') := by
  obtain ⟨i, z, hi, hz, hsize, hzc, hby⟩ := hB.info
  have ht := hB.ht
  have hs' : Src P i.size tx x m (E.all cs) w := by rw [hsize]; exact hs
  obtain ⟨cur, hg, hcs, htake⟩ := h.row
  have hln := h.len
  have hle := h.le
  have hmx := h.max
  have hll : (l ++ cs).length = n + m := by rw [List.length_append, hln, hcl]
  have hal := E.all_length cs
  rw [hcl] at hal
  by_cases hroom : n + m ≤ cap
  · have hsm : n * E.sz + m * E.sz ≤ cap * E.sz := by rw [← Nat.add_mul]; exact Nat.mul_le_mul_right _ hroom
    have hst := run_storeCells_at P g (n * i.size) e (E.all cs) 0 cur w hg (by rw [hsize, hal]; omega) (E.all_one cs)
    simp only [Nat.add_zero] at hst
    have hr : (Builtin.append_ #[t, tx] ty #[.slice (some ⟨g, 0, none⟩) n cap, x]).run P w =
        .ok (.slice (some ⟨g, 0, none⟩) (n + m) cap) (w.setRow g (cur.toList.take (n * i.size) ++ E.all cs ++ cur.toList.drop (n * i.size + (E.all cs).length)).toArray) := by
      rcases hs'.kind with ⟨e', hk⟩ | hk <;> simp [Builtin.append_, run_underlying ht, run_underlying hk, sizeOf, typeInfo, hi, hs'.len, hroom, hs'.cells, Addr.add_lit, hst]
    have hsz : ((cur.toList.take (n * i.size) ++ E.all cs ++ cur.toList.drop (n * i.size + (E.all cs).length)).toArray).size = cap * E.sz := by
      simp only [List.size_toArray, List.length_append, List.length_take, List.length_drop, Array.length_toList, hal]
      rw [hsize]
      omega
    have hall : OwnR E (w.setRow g (cur.toList.take (n * i.size) ++ E.all cs ++ cur.toList.drop (n * i.size + (E.all cs).length)).toArray) e g (n + m) cap (l ++ cs) := by
      refine ⟨hll, hroom, hmx, _, setRow_heap w g cur _ e _ hg, hsz, ?_⟩
      rw [hsize, htake, ← E.all_append]
      show List.take ((n + m) * E.sz) (E.all (l ++ cs) ++ _) = _
      rw [← hll, ← E.all_length]
      exact List.take_left
    refine ⟨g, cap, _, hr, hall, ⟨rfl, rfl, rfl, by simp, fun k _ hk => setRow_other w g k _ hk, fun c0 t0 h0 => ?_⟩, .inl rfl⟩
    rw [hg] at h0
    obtain ⟨rfl, rfl⟩ : cur = c0 ∧ e = t0 := by simpa using h0
    refine ⟨_, setRow_heap w g cur _ e _ hg, by rw [hsz, hcs], ?_⟩
    rw [hsize, List.append_assoc]
    show List.take (n * E.sz) (List.take (n * E.sz) cur.toList ++ _) = _
    rw [List.take_append_of_le_length (by simp; omega), List.take_take, Nat.min_self]
  · have hold : (Builtin.firstCells i.size n (.slice (some ⟨g, 0, none⟩) n cap)).run P w.drew = .ok (E.all l).toArray w.drew :=
      run_firstCells_some w.drew i.size n ⟨g, 0, none⟩ n cap (E.all l) (by rw [E.all_length, hln, hsize]) (fun j u hu => by
        rw [Addr.add_lit, Nat.zero_add]
        exact h.drew.cell j u hu)
    have hr := run_append_grow_src (P := P) w t tx ty e i z ht hi hz (some ⟨g, 0, none⟩) n cap (E.all l) hold x m (E.all cs) hs' (by omega) (by omega)
      (growslice_fits (by omega) (Nat.le_trans (Nat.mul_le_mul hmax hby) (by omega)))
    have hge := grownCap_ge w (n + m) cap e
    have hcm : grownCap w (n + m) cap e ≤ maxLen := grownCap_le_maxLen w (n + m) cap e (by simp only [maxLen]; omega)
    have hzl : z.cells.size = E.sz := by rw [← Array.length_toList, hzc, E.len]
    refine ⟨w.heap.size, grownCap w (n + m) cap e, _, hr, ⟨hll, hge, hcm, _, heap_alloc_new w.drew _, ?_, ?_⟩, Below.puts ((Below.refl _ _).drew.alloc (Nat.le_refl _) _) _ _, .inr (Nat.le_refl _)⟩
    · simp only [Array.size_append, List.size_toArray, size_zeroCells, List.length_append, hzl, hal, E.all_length, hln]
      rw [← Nat.add_mul, ← Nat.add_mul]
      congr 1
      omega
    · rw [← E.all_append]
      simp only [Array.toList_append]
      rw [← hll, ← E.all_length (l ++ cs)]
      exact List.take_left
/-- The same, as the walk meets it. -/
theorem wpList_append_or {P : Program} {zero : α} {ops : Array Oper} {rest : List Oper} {o : Oper} {a : Act} {Q : Exit → Act → World → Prop} (hgd : o.guard = none) (s x : Operand) (t tx : TypeId)
    (ho : o.op = .call { callee := .builtin .append,args := #[s,x],argTypes := #[t,tx] }) (e : TypeId) (hB : RowTy E P t e zero) (g n cap : Nat) (l : List α) (hsv : a.eval s = .slice (some ⟨g,0,none⟩) n cap) (h : OwnR E w e g n cap l)
    (X : Value) (hx : a.eval x = X) (m : Nat) (cs : List α) (hs : Src P E.sz tx X m (E.all cs) w) (hcl : cs.length = m) (N : Nat) (hN : n + m = N) (L : List α) (hL : l ++ cs = L) (hmax : N ≤ 1000000)
    (hK : ∀ g' cap' w', OwnR E w' e g' N cap' L → Puts w w' g (n * E.sz) → (g' = g ∨ w.heap.size ≤ g') → wpList P ops Q rest (a.put o.dst (.slice (some ⟨g', 0, none⟩) N cap')) w') :
    wpList P ops Q (o :: rest) a w := by
  subst hN
  subst hL
  refine wpList_plain hgd fun K hK' => ?_
  obtain ⟨g', cap', w', hr, h1, h2, h3⟩ := run_append_or (P := P) w t tx o.type e hB g n cap l h X m cs hs hcl hmax
  unfold Oper.wp execOp
  simp only [ho, resolve, invoke, builtin, Sem.run_bind, Sem.run_pure, Result.andThen_ok, List.map_toArray, List.map_cons, List.map_nil, hsv, hx, hr]
  exact hK' _ _ (hK g' cap' w' h1 h2 h3)
/-- append to nil, of something. -/
theorem run_append_nr {P : Program} {zero : α} (w : World) (t tx ty e : TypeId) (hB : RowTy E P t e zero) (c : Nat) (hc : c = 0)
    (x : Value) (m : Nat) (cs : List α) (hs : Src P E.sz tx x m (E.all cs) w) (hcl : cs.length = m) (hpos : 0 < m) (hmax : m ≤ 1000000) :
    ∃ cap' w', (Builtin.append_ #[t, tx] ty #[.slice none 0 c, x]).run P w = .ok (.slice (some ⟨w.heap.size, 0, none⟩) m cap') w' ∧
      OwnR E w' e w.heap.size m cap' cs ∧ Below w.heap.size w w' := by
  subst hc
  obtain ⟨i, z, hi, hz, hsize, hzc, hby⟩ := hB.info
  have ht := hB.ht
  have hs' : Src P i.size tx x m (E.all cs) w := by rw [hsize]; exact hs
  have hal := E.all_length cs
  rw [hcl] at hal
  have hr := run_append_grow_src (P := P) w t tx ty e i z ht hi hz none 0 0 [] (run_firstCells_none w.drew i.size 0 0 0) x m (E.all cs) hs' (by omega) (by omega)
    (growslice_fits (by omega) (Nat.le_trans (Nat.mul_le_mul (show 0 + m ≤ 1000000 by omega) hby) (by omega)))
  simp only [Nat.zero_add, List.nil_append] at hr
  have hge := grownCap_ge w m 0 e
  have hcm : grownCap w m 0 e ≤ maxLen := grownCap_le_maxLen w m 0 e (by simp only [maxLen]; omega)
  have hzl : z.cells.size = E.sz := by rw [← Array.length_toList, hzc, E.len]
  refine ⟨grownCap w m 0 e, _, hr, ⟨hcl, hge, hcm, _, heap_alloc_new w.drew _, ?_, ?_⟩, (Below.refl _ _).drew.alloc (Nat.le_refl _) _⟩
  · simp only [Array.size_append, List.size_toArray, size_zeroCells, hzl, hal]
    rw [← Nat.add_mul]
    congr 1
    omega
  · simp only [Array.toList_append]
    rw [← hal]
    exact List.take_left
theorem wpList_append_nr {P : Program} {zero : α} {ops : Array Oper} {rest : List Oper} {o : Oper} {a : Act} {Q : Exit → Act → World → Prop} (hgd : o.guard = none) (s x : Operand) (t tx : TypeId)
    (ho : o.op = .call { callee := .builtin .append, args := #[s, x], argTypes := #[t, tx] }) (e : TypeId) (hB : RowTy E P t e zero) (c : Nat) (hc : c = 0) (hsv : a.eval s = .slice none 0 c)
    (X : Value) (hx : a.eval x = X) (m : Nat) (cs : List α) (hs : Src P E.sz tx X m (E.all cs) w) (hcl : cs.length = m) (hpos : 0 < m) (hmax : m ≤ 1000000)
    (hK : ∀ g' cap' w', OwnR E w' e g' m cap' cs → Below w.heap.size w w' → w.heap.size ≤ g' → wpList P ops Q rest (a.put o.dst (.slice (some ⟨g', 0, none⟩) m cap')) w') :
    wpList P ops Q (o :: rest) a w := by
  refine wpList_plain hgd fun K hK' => ?_
  obtain ⟨cap', w', hr, h1, h2⟩ := run_append_nr (P := P) w t tx o.type e hB c hc X m cs hs hcl hpos hmax
  unfold Oper.wp execOp
  simp only [ho, resolve, invoke, builtin, Sem.run_bind, Sem.run_pure, Result.andThen_ok, List.map_toArray, List.map_cons, List.map_nil, hsv, hx, hr]
  exact hK' _ _ (hK _ cap' w' h1 h2 (Nat.le_refl _))
/-- 'make([]T, N)'. -/
theorem wpList_make_or {P : Program} {zero : α} {ops : Array Oper} {rest : List Oper} {o : Oper} {a : Act} {Q : Exit → Act → World → Prop} (hgd : o.guard = none) (x c : Operand) (t : TypeId)
    (ho : o.op = Op.makeSlice t x c) (e : TypeId) (hB : RowTy E P t e zero) (kl kc : IntKind) (L C : Int) (N : Nat) (hl : a.eval x = .int kl L) (hc : a.eval c = .int kc C) (hL : L = (N : Int)) (hC : C = (N : Int)) (hN : N ≤ 1000000)
    (hK : ∀ w', OwnR E w' e w.heap.size N N (List.replicate N zero) → Below w.heap.size w w' → wpList P ops Q rest (a.put o.dst (.slice (some ⟨w.heap.size, 0, none⟩) N N)) w') :
    wpList P ops Q (o :: rest) a w := by
  obtain ⟨i, z, hi, hz, hsize, hzc, hby⟩ := hB.info
  refine wpList_make_full w hgd x c t ho w.heap.size e i z E.sz hB.ht hi hz hsize kl kc L C N hl hc hL hC (Nat.le_trans (Nat.mul_le_mul hby hN) (by omega)) (by simp only [maxLen]; omega) (Nat.le_refl _) fun w' hown hgr => ?_
  refine hK w' ?_ ((Below.refl _ w).grown hgr (Nat.le_refl _) (fun k h => by cases h))
  have hm : (madeCells z.cells (N * E.sz)).toList = E.all (List.replicate N zero) := by
    have hzl : z.cells.size = E.sz := by rw [← Array.length_toList, hzc, E.len]
    apply List.ext_getElem (by simp [madeCells, E.all_length])
    intro q h1 h2
    have hq : q < N * E.sz := by simpa [madeCells] using h1
    have hs : 0 < E.sz := by
      rcases Nat.eq_zero_or_pos E.sz with h | h
      · rw [h] at hq; omega
      · exact h
    have hj := Nat.mod_lt q hs
    have g := E.all_get (List.replicate N zero) (q / E.sz) (q % E.sz) zero (by rw [List.getElem?_replicate, if_pos ((Nat.div_lt_iff_lt_mul hs).2 hq)]) hj
    rw [Nat.div_add_mod' q E.sz, ← hzc, List.getElem?_eq_getElem h2, Array.getElem?_toList, Array.getElem?_eq_getElem (by rw [hzl]; exact hj)] at g
    rw [Option.some.inj g]
    simp [madeCells, hzl, hj]
  rw [hm] at hown
  rcases hown.2 with ⟨h, _⟩ | ⟨g, cap, cur, hv, _, hg, hnc, hcm, hcs, htake⟩
  · cases h
  · simp only [Value.slice.injEq, Option.some.injEq, Addr.mk.injEq, and_true] at hv
    obtain ⟨rfl, _, rfl⟩ := hv
    exact ⟨by simp, Nat.le_refl _, hcm, cur, hg, hcs, htake⟩
end

/-- A slice's header. -/
structure HdR where
  a : Option Addr
  n : Nat
  c : Nat
def HdR.v (h : HdR) : Value := .slice h.a h.n h.c
def EH : Enc HdR := ⟨1, fun h => [h.v], fun _ => rfl, fun x u hu => by
  obtain rfl := List.mem_singleton.1 hu
  rfl⟩
theorem EH_get : ∀ (hs : List HdR) (j : Nat), (EH.all hs)[j]? = hs[j]?.map HdR.v
  | [], j => rfl
  | h :: hs, 0 => rfl
  | h :: hs, j + 1 => by rw [Enc.all_cons]; exact EH_get hs j
/-- The headers hs read as the rows ls. -/
def Rd {α : Type} (E : Enc α) (w : World) (hs : List HdR) (ls : List (List α)) : Prop :=
  hs.length = ls.length ∧ ∀ (j : Nat) (h : HdR) (l : List α), hs[j]? = some h → ls[j]? = some l → IsR E w h.a h.n h.c l
/-- All of it lies in blocks from B on. -/
def Frm (B : Nat) (ao : Option Addr) : Prop := ∀ a, ao = some a → B ≤ a.block
def FrmH (B : Nat) (hs : List HdR) : Prop := ∀ h ∈ hs, Frm B h.a
section
variable {α : Type} {E : Enc α} {w w' : World} {hs hs' : List HdR} {ls ls' : List (List α)} {B : Nat}
theorem Rd.past (h : Rd E w hs ls) (b : Below w.heap.size w w') : Rd E w' hs ls := ⟨h.1, fun j x l hx hl => (h.2 j x l hx hl).past b⟩
theorem Rd.nil : Rd E w [] [] := ⟨rfl, fun j x l hx _ => by simp at hx⟩
theorem Rd.append (h : Rd E w hs ls) (k : Rd E w hs' ls') : Rd E w (hs ++ hs') (ls ++ ls') := by
  refine ⟨by simp [h.1, k.1], fun j x l hx hl => ?_⟩
  by_cases hj : j < hs.length
  · rw [List.getElem?_append_left hj] at hx
    rw [List.getElem?_append_left (by rw [← h.1]; exact hj)] at hl
    exact h.2 j x l hx hl
  · rw [List.getElem?_append_right (by omega)] at hx
    rw [List.getElem?_append_right (by rw [← h.1]; omega), ← h.1] at hl
    exact k.2 _ x l hx hl
theorem Rd.one {x : HdR} {l : List α} (h : IsR E w x.a x.n x.c l) : Rd E w [x] [l] := by
  refine ⟨rfl, fun j y m hy hm => ?_⟩
  cases j with
  | zero =>
    obtain rfl : x = y := by simpa using hy
    obtain rfl : l = m := by simpa using hm
    exact h
  | succ j => simp at hy
theorem Rd.take (h : Rd E w hs ls) (n : Nat) : Rd E w (hs.take n) (ls.take n) := by
  refine ⟨by simp [h.1], fun j x l hx hl => ?_⟩
  rw [List.getElem?_take] at hx hl
  split at hx
  · rw [if_pos (by assumption)] at hl
    exact h.2 j x l hx hl
  · cases hx
theorem Rd.drop (h : Rd E w hs ls) (n : Nat) : Rd E w (hs.drop n) (ls.drop n) := by
  refine ⟨by simp [h.1], fun j x l hx hl => ?_⟩
  rw [List.getElem?_drop] at hx hl
  exact h.2 _ x l hx hl
/-- A header's length is its row's. -/
theorem Rd.len (h : Rd E w hs ls) {j : Nat} {x : HdR} {l : List α} (hx : hs[j]? = some x) (hl : ls[j]? = some l) : l.length = x.n := (h.2 j x l hx hl).len
theorem Frm.mono {B' : Nat} {ao : Option Addr} (h : Frm B ao) (hb : B' ≤ B) : Frm B' ao := fun a ha => Nat.le_trans hb (h a ha)
theorem FrmH.mono {B' : Nat} (h : FrmH B hs) (hb : B' ≤ B) : FrmH B' hs := fun x hx => (h x hx).mono hb
end
/-- THE SLICE ao, n, c OF SLICES READS AS THE ROWS ls, AND LIES IN BLOCKS FROM B ON. -/
def IsRR {α : Type} (E : Enc α) (w : World) (B : Nat) (ao : Option Addr) (n c : Nat) (ls : List (List α)) : Prop :=
  ∃ hs, IsR EH w ao n c hs ∧ Rd E w hs ls ∧ Frm B ao ∧ FrmH B hs
section
variable {α : Type} {E : Enc α} {w w' : World} {B : Nat} {ao : Option Addr} {n c : Nat} {ls : List (List α)}
theorem IsRR.past (h : IsRR E w B ao n c ls) (b : Below w.heap.size w w') : IsRR E w' B ao n c ls := by
  obtain ⟨hs, h1, h2, h3⟩ := h
  exact ⟨hs, h1.past b, h2.past b, h3⟩
theorem IsRR.mono {B' : Nat} (h : IsRR E w B ao n c ls) (hb : B' ≤ B) : IsRR E w B' ao n c ls := by
  obtain ⟨hs, h1, h2, h3, h4⟩ := h
  exact ⟨hs, h1, h2, h3.mono hb, h4.mono hb⟩
theorem IsRR.len (h : IsRR E w B ao n c ls) : ls.length = n := by
  obtain ⟨hs, h1, h2, _⟩ := h
  rw [← h2.1]
  exact h1.len
theorem IsRR.nil (w : World) (B : Nat) : IsRR E w B none 0 0 [] := ⟨[], IsR.nilR w, Rd.nil, (show Frm B none from fun a h => by cases h), (show FrmH B [] from fun h hx => by cases hx)⟩
/-- The header at place j, in its cell. -/
theorem IsRR.at (h : IsRR E w B ao n c ls) {j : Nat} {l : List α} (hl : ls[j]? = some l) :
    ∃ (b off : Nat) (x : HdR), ao = some ⟨b, off, none⟩ ∧ b < w.heap.size ∧ w.cell? ⟨b, off + j, none⟩ = some (.slice x.a x.n x.c) ∧ IsR E w x.a x.n x.c l := by
  obtain ⟨hs, h1, h2, _⟩ := h
  have hj := (List.getElem?_eq_some_iff.1 hl).1
  have hn : 0 < n := by have := h1.len; have := h2.1; omega
  obtain ⟨x, hx⟩ : ∃ x, hs[j]? = some x := ⟨hs[j]'(by rw [h2.1]; exact hj), List.getElem?_eq_getElem _⟩
  obtain ⟨b, off, rfl, hb, hc⟩ := h1.open hn (by decide)
  exact ⟨b, off, x, rfl, hb, hc j _ (by rw [EH_get, hx]; rfl), h2.2 j x l hx hl⟩
end

theorem cell_blk {w : World} {g i : Nat} {cur : Array Value} {t : TypeId} {v : Value} (h : w.heap[g]? = some (.cells cur t (0, 0))) (hv : cur[i]? = some v) : w.cell? ⟨g, i, none⟩ = some v := by
  rw [cell_of_row w g i cur t (0, 0) h]; exact hv
theorem free_blk {w : World} {g i : Nat} {cur : Array Value} {t : TypeId} (h : w.heap[g]? = some (.cells cur t (0, 0))) : w.frozen? ⟨g, i, none⟩ = false := by
  simp [World.frozen?, h]

theorem heap_setCell_same {w : World} {g i : Nat} {cur : Array Value} {t : TypeId} {v : Value} (h : w.heap[g]? = some (.cells cur t (0,0))) : (w.setCell ⟨g,i,none⟩ v).heap[g]? = some (.cells (cur.setIfInBounds i v) t (0,0)) := by
  rw [setCell_eq_setRow w g i cur t (0, 0) v h]
  exact setRow_heap w g cur _ t _ h

theorem grown_below {w a : World} {g B : Nat} (h : w.grownBy a (some g)) (hg : B ≤ g) (hB : B ≤ w.heap.size) : Below B w a :=
  ⟨h.os, h.tape, h.output, h.size, fun k hk => h.block k (by omega) (fun e => by have := Option.some.inj e; omega)⟩
theorem below_grown {w a : World} (r : Option Nat) (h : Below w.heap.size w a) : w.grownBy a r := ⟨h.os, h.tape, h.output, h.size, fun k hk _ => h.block k hk⟩

/-- HOW AN ELEMENT LIES IN CELLS, AND WHAT LIES BEHIND THEM. -/
structure Dn (α : Type) where
  β : Type
  E : Enc β
  pos : 0 < E.sz
  R : World → (Nat → Prop) → β → α → Prop
  past : ∀ {w w' : World} {Q : Nat → Prop} {b : β} {x : α}, R w Q b x → Below w.heap.size w w' → R w' Q b x
  grown : ∀ {w w' : World} {Q : Nat → Prop} {b : β} {x : α} {g : Nat}, R w Q b x → w.grownBy w' (some g) → ¬ Q g → R w' Q b x
  imp : ∀ {w : World} {Q Q' : Nat → Prop} {b : β} {x : α}, R w Q b x → (∀ k, k < w.heap.size → Q k → Q' k) → R w Q' b x
theorem addr_block (a : Addr) (j : Nat) : (a.add j).block = a.block := by unfold Addr.add; split <;> rfl
section
variable {β : Type} {E : Enc β} {w w' : World} {ro : Option Addr} {m d : Nat} {l : List β}
theorem IsR.grownD {row : Option Nat} (h : IsR E w ro m d l) (hg : w.grownBy w' row) (hne : 0 < m → ∀ a, ro = some a → some a.block ≠ row) : IsR E w' ro m d l :=
  ⟨h.len, h.le, h.max, h.nil, fun a ha j u hu => by
    have hl := (List.getElem?_eq_some_iff.1 hu).1
    rw [E.all_length, h.len] at hl
    have hn : 0 < m := by
      rcases Nat.eq_zero_or_pos m with e | e
      · rw [e] at hl; omega
      · exact e
    exact hg.cell (h.cell a ha j u hu) (by rw [addr_block]; exact hne hn a ha)⟩
theorem IsR.ltD (h : IsR E w ro m d l) (hz : 0 < E.sz) : 0 < m → ∀ a, ro = some a → a.block < w.heap.size := fun hn a ha => by
  obtain ⟨b, off, hb, hl, _⟩ := h.open hn hz
  rw [hb] at ha
  cases ha
  exact hl
end
/-- A slice that holds something lies in a block that has the property. -/
def FrmD (Q : Nat → Prop) (n : Nat) (ao : Option Addr) : Prop := 0 < n → ∀ a, ao = some a → Q a.block
/-- What lies in the cells of a row, and what it reads as. -/
def RdD {α : Type} (D : Dn α) (w : World) (Q : Nat → Prop) (bs : List D.β) (ls : List α) : Prop :=
  bs.length = ls.length ∧ ∀ (j : Nat) (b : D.β) (x : α), bs[j]? = some b → ls[j]? = some x → D.R w Q b x
/-- THE SLICE ao, n, c READS AS ls, DOWN TO THE GROUND. -/
def IsD {α : Type} (D : Dn α) (w : World) (Q : Nat → Prop) (ao : Option Addr) (n c : Nat) (ls : List α) : Prop :=
  ∃ bs : List D.β, IsR D.E w ao n c bs ∧ FrmD Q n ao ∧ RdD D w Q bs ls
section
variable {α : Type} {D : Dn α} {w w' : World} {Q Q' : Nat → Prop} {bs bs' : List D.β} {ls ls' : List α} {ao : Option Addr} {n c : Nat}
theorem RdD.past (h : RdD D w Q bs ls) (b : Below w.heap.size w w') : RdD D w' Q bs ls := ⟨h.1, fun j x l hx hl => D.past (h.2 j x l hx hl) b⟩
theorem RdD.grown {g : Nat} (h : RdD D w Q bs ls) (k : w.grownBy w' (some g)) (hg : ¬ Q g) : RdD D w' Q bs ls := ⟨h.1, fun j x l hx hl => D.grown (h.2 j x l hx hl) k hg⟩
theorem RdD.imp (h : RdD D w Q bs ls) (hq : ∀ k, k < w.heap.size → Q k → Q' k) : RdD D w Q' bs ls := ⟨h.1, fun j x l hx hl => D.imp (h.2 j x l hx hl) hq⟩
theorem RdD.nil : RdD D w Q [] [] := ⟨rfl, fun j x l hx _ => by simp at hx⟩
theorem RdD.append (h : RdD D w Q bs ls) (k : RdD D w Q bs' ls') : RdD D w Q (bs ++ bs') (ls ++ ls') := by
  refine ⟨by simp [h.1, k.1], fun j x l hx hl => ?_⟩
  by_cases hj : j < bs.length
  · rw [List.getElem?_append_left hj] at hx
    rw [List.getElem?_append_left (by rw [← h.1]; exact hj)] at hl
    exact h.2 j x l hx hl
  · rw [List.getElem?_append_right (by omega)] at hx
    rw [List.getElem?_append_right (by rw [← h.1]; omega), ← h.1] at hl
    exact k.2 _ x l hx hl
theorem RdD.one {b : D.β} {x : α} (h : D.R w Q b x) : RdD D w Q [b] [x] := by
  refine ⟨rfl, fun j y m hy hm => ?_⟩
  cases j with
  | zero =>
    obtain rfl : b = y := by simpa using hy
    obtain rfl : x = m := by simpa using hm
    exact h
  | succ j => simp at hy
theorem RdD.get (h : RdD D w Q bs ls) {j : Nat} {x : α} (hl : ls[j]? = some x) : ∃ b, bs[j]? = some b ∧ D.R w Q b x := by
  have hj := (List.getElem?_eq_some_iff.1 hl).1
  obtain ⟨b, hb⟩ : ∃ b, bs[j]? = some b := ⟨bs[j]'(by rw [h.1]; exact hj), List.getElem?_eq_getElem _⟩
  exact ⟨b, hb, h.2 j b x hb hl⟩
/-- One of a row is put anew. -/
theorem RdD.set (h : RdD D w Q bs ls) {j : Nat} {b : D.β} {x : α} (hl : ls[j]? = some x) (hb : D.R w Q b x) : RdD D w Q (bs.set j b) ls := by
  refine ⟨by rw [List.length_set]; exact h.1, fun i y m hy hm => ?_⟩
  rw [List.getElem?_set] at hy
  split at hy
  · rename_i e
    subst e
    split at hy
    · obtain rfl := Option.some.inj hy
      rw [hl] at hm
      obtain rfl := Option.some.inj hm
      exact hb
    · cases hy
  · exact h.2 i y m hy hm
theorem IsD.past (h : IsD D w Q ao n c ls) (b : Below w.heap.size w w') : IsD D w' Q ao n c ls := by
  obtain ⟨bs, h1, h2, h3⟩ := h
  exact ⟨bs, h1.past b, h2, h3.past b⟩
theorem IsD.grown {g : Nat} (h : IsD D w Q ao n c ls) (k : w.grownBy w' (some g)) (hg : ¬ Q g) : IsD D w' Q ao n c ls := by
  obtain ⟨bs, h1, h2, h3⟩ := h
  exact ⟨bs, h1.grownD k (fun hn a ha e => hg (Option.some.inj e ▸ h2 hn a ha)), h2, h3.grown k hg⟩
theorem IsD.imp (h : IsD D w Q ao n c ls) (hq : ∀ k, k < w.heap.size → Q k → Q' k) : IsD D w Q' ao n c ls := by
  obtain ⟨bs, h1, h2, h3⟩ := h
  exact ⟨bs, h1, fun hn a ha => hq _ (h1.ltD D.pos hn a ha) (h2 hn a ha), h3.imp hq⟩
theorem IsD.len (h : IsD D w Q ao n c ls) : ls.length = n := by
  obtain ⟨bs, h1, h2, h3⟩ := h
  rw [← h3.1]
  exact h1.len
theorem IsD.nil (w : World) (Q : Nat → Prop) : IsD D w Q none 0 0 [] := ⟨[], IsR.nilR w, fun h => absurd h (by omega), RdD.nil⟩
/-- The element at place j: its cells, and what lies behind them. -/
theorem IsD.at (h : IsD D w Q ao n c ls) {j : Nat} {x : α} (hl : ls[j]? = some x) :
    ∃ (g off : Nat) (b : D.β),ao = some ⟨g,off,none⟩ ∧ g < w.heap.size ∧ Q g ∧ (∀ (k : Nat) (u : Value),(D.E.f b)[k]? = some u → w.cell? ⟨g,off + (j * D.E.sz + k),none⟩ = some u) ∧ D.R w Q b x := by
  have hln := h.len
  obtain ⟨bs, h1, h2, h3⟩ := h
  have hj := (List.getElem?_eq_some_iff.1 hl).1
  obtain ⟨b, hb, hr⟩ := h3.get hl
  obtain ⟨g, off, rfl, hg, hc⟩ := h1.open (by omega) D.pos
  refine ⟨g, off, b, rfl, hg, h2 (by omega) _ rfl, fun k u hu => hc _ u ?_, hr⟩
  have hk := (List.getElem?_eq_some_iff.1 hu).1
  rw [D.E.len] at hk
  rw [D.E.all_get bs j k b hb hk]
  exact hu
end
/-- Elements that lie in their cells alone. -/
def flatD {α : Type} (E : Enc α) (h : 0 < E.sz) : Dn α := ⟨α, E, h, fun _ _ b x => b = x, fun h _ => h, fun h _ _ => h, fun h _ => h⟩
/-- Slices of elements. -/
def rowD {α : Type} (D : Dn α) : Dn (List α) := ⟨HdR, EH, by decide, fun w Q h l => IsD D w Q h.a h.n h.c l, fun h b => h.past b, fun h k hg => h.grown k hg, fun h hq => h.imp hq⟩
/-- Something plain with a slice beside it. -/
def recD {α γ : Type} (D : Dn α) (E : Enc (γ × HdR)) (hp : 0 < E.sz) : Dn (γ × List α) :=
  ⟨γ × HdR, E, hp, fun w Q b x => b.1 = x.1 ∧ IsD D w Q b.2.a b.2.n b.2.c x.2, fun h b => ⟨h.1, h.2.past b⟩, fun h k hg => ⟨h.1, h.2.grown k hg⟩, fun h hq => ⟨h.1, h.2.imp hq⟩⟩
theorem lists_eq {β : Type} {bs l : List β} (h3 : bs.length = l.length) (h4 : ∀ (j : Nat) (b x : β), bs[j]? = some b → l[j]? = some x → b = x) : bs = l := List.ext_getElem? fun j => by
  rcases Nat.lt_or_ge j bs.length with q | q
  · rw [List.getElem?_eq_getElem q, List.getElem?_eq_getElem (by rw [← h3]; exact q)]
    exact congrArg some (h4 j _ _ (List.getElem?_eq_getElem q) (List.getElem?_eq_getElem (by rw [← h3]; exact q)))
  · rw [List.getElem?_eq_none q, List.getElem?_eq_none (by rw [← h3]; exact q)]
section
variable {β : Type} {E : Enc β} {w w' : World} {Q : Nat → Prop} {ao : Option Addr} {n c : Nat} {l : List β}
theorem IsD.flat {hp : 0 < E.sz} (h : IsD (flatD E hp) w Q ao n c l) : IsR E w ao n c l := by
  obtain ⟨bs, h1, -, h3, h4⟩ := h
  have e : bs = l := lists_eq (β := β) h3 h4
  rw [← e]
  exact h1
theorem RdD.flat (E : Enc β) (hp : 0 < E.sz) (w : World) (Q : Nat → Prop) (l : List β) : RdD (flatD E hp) w Q l l :=
  ⟨rfl, fun _ _ _ h k => Option.some.inj (h.symm.trans k)⟩
theorem IsR.deep (h : IsR E w ao n c l) (hp : 0 < E.sz) (hQ : FrmD Q n ao) : IsD (flatD E hp) w Q ao n c l := ⟨l, h, hQ, RdD.flat E hp w Q l⟩
/-- What can be read at all lies in some block. -/
theorem IsR.deepT (h : IsR E w ao n c l) (hp : 0 < E.sz) : IsD (flatD E hp) w (fun _ => True) ao n c l := h.deep hp fun _ _ _ => trivial
end
/-- THE ROW IN BLOCK g IS THE CALL's OWN AND READS AS ls. -/
def OwnD {α : Type} (D : Dn α) (w : World) (Q : Nat → Prop) (e : TypeId) (g n c : Nat) (ls : List α) : Prop := ∃ bs : List D.β, OwnR D.E w e g n c bs ∧ RdD D w Q bs ls
section
variable {α : Type} {D : Dn α} {w w' : World} {Q Q' : Nat → Prop} {ls : List α} {e : TypeId} {g n c : Nat}
theorem OwnD.isD (h : OwnD D w Q e g n c ls) (hQ : Q g) : IsD D w Q (some ⟨g, 0, none⟩) n c ls := by
  obtain ⟨bs, h1, h2⟩ := h
  exact ⟨bs, h1.isR, fun _ a ha => by cases ha; exact hQ, h2⟩
theorem OwnD.past (h : OwnD D w Q e g n c ls) (b : Below w.heap.size w w') : OwnD D w' Q e g n c ls := by
  obtain ⟨bs, h1, h2⟩ := h
  exact ⟨bs, h1.past b, h2.past b⟩
theorem OwnD.grown {r : Nat} (h : OwnD D w Q e g n c ls) (k : w.grownBy w' (some r)) (hr : ¬ Q r) (hne : g ≠ r) : OwnD D w' Q e g n c ls := by
  obtain ⟨bs, h1, h2⟩ := h
  exact ⟨bs, h1.grown k (fun q => hne (Option.some.inj q)), h2.grown k hr⟩
end
theorem take_put {α : Type} (c y : List α) {a m N : Nat} (hy : y.length = m) (h1 : a + m ≤ N) (h2 : N ≤ c.length) : (c.take a ++ y ++ c.drop (a + m)).take N = (c.take N).take a ++ y ++ (c.take N).drop (a + m) := by
  have e1 : (c.take a ++ y).length = a + m := by rw [List.length_append, List.length_take, hy]; omega
  rw [List.take_append, List.take_of_length_le (l := c.take a ++ y) (by omega), e1, List.take_drop, List.take_take, Nat.min_eq_left (show a ≤ N by omega), show a + m + (N - (a + m)) = N by omega]
theorem set_low {β α : Type} {bs : List β} {ls : List α} {P : β → α → Prop} {j : Nat} {nb : β} {x : α} (hj : j < bs.length) (hx : ls[j]? = some x) (hd : ∀ (k : Nat) (b : β) (y : α),k < j → bs[k]? = some b → ls[k]? = some y → P b y) (hn : P nb x) :
    ∀ (k : Nat) (b : β) (y : α), k < j + 1 → (bs.set j nb)[k]? = some b → ls[k]? = some y → P b y := fun k b y hk h1 h2 => by
  by_cases hkj : k = j
  · subst hkj
    rw [List.getElem?_set_self hj] at h1
    obtain rfl := Option.some.inj h1
    rw [hx] at h2
    obtain rfl := Option.some.inj h2
    exact hn
  · rw [List.getElem?_set_ne (Ne.symm hkj)] at h1
    exact hd k b y (by omega) h1 h2
theorem set_high {β : Type} {bs bs' : List β} {j : Nat} {nb : β} (he : ∀ k, j ≤ k → bs'[k]? = bs[k]?) : ∀ k, j + 1 ≤ k → (bs'.set j nb)[k]? = bs[k]? := fun k hk => by
  rw [List.getElem?_set_ne (show j ≠ k by omega)]
  exact he k (by omega)
/-- A store of a whole element into a row of the call's own. -/
theorem OwnR.setAll {β : Type} {E : Enc β} {w : World} {e : TypeId} {g n c : Nat} {l : List β} (h : OwnR E w e g n c l) (i : Nat) (x : β) (hi : i < n) (cur' : Array Value) (w' : World) (hw : w'.heap[g]? = some (.cells cur' e (0,0)))
    (hc : ∀ cur, w.heap[g]? = some (.cells cur e (0, 0)) → cur'.toList = cur.toList.take (i * E.sz) ++ E.f x ++ cur.toList.drop (i * E.sz + E.sz)) : OwnR E w' e g n c (l.set i x) := by
  have hln := h.len
  have hle := h.le
  have hmx := h.max
  obtain ⟨cur, hg, hs, ht⟩ := h.row
  have hcc := hc cur hg
  have h1 : i * E.sz + E.sz ≤ n * E.sz := by rw [← Nat.succ_mul]; exact Nat.mul_le_mul_right _ hi
  have h2 : n * E.sz ≤ c * E.sz := Nat.mul_le_mul_right _ hle
  have hcl : cur.toList.length = c * E.sz := by rw [Array.length_toList, hs]
  refine ⟨by rw [List.length_set]; exact hln, hle, hmx, cur', hw, ?_, ?_⟩
  · rw [← Array.length_toList, hcc, List.length_append, List.length_append, List.length_take, List.length_drop, E.len, hcl]
    omega
  · rw [hcc, E.all_set l i x (by omega), ← ht, Nat.succ_mul]
    exact take_put cur.toList (E.f x) (E.len x) h1 (by omega)
theorem put1L {α : Type} (L : List α) (a : Nat) (u : α) (h : a < L.length) : L.set a u = L.take a ++ [u] ++ L.drop (a + 1) := by
  rw [List.set_eq_take_append_cons_drop, if_pos h, List.append_assoc]
  rfl
theorem put2L {α : Type} (L : List α) (a : Nat) (u v : α) (h : a + 1 < L.length) : (L.set a u).set (a + 1) v = L.take a ++ [u, v] ++ L.drop (a + 2) := by
  have e : (L.take a ++ [u]).length = a + 1 := by rw [List.length_append, List.length_take]; simp; omega
  rw [put1L (L.set a u) (a + 1) v (by rw [List.length_set]; exact h),put1L L a u (by omega),List.take_append_of_le_length (by omega),List.take_of_length_le (by omega),List.drop_append,List.drop_eq_nil_of_le («as» := L.take a ++ [u]) (by omega),e,List.drop_drop,List.nil_append]
  simp
theorem put3L {α : Type} (L : List α) (a : Nat) (u v x : α) (h : a + 2 < L.length) : ((L.set a u).set (a + 1) v).set (a + 2) x = L.take a ++ [u, v, x] ++ L.drop (a + 3) := by
  have e : (L.take a ++ [u, v]).length = a + 2 := by rw [List.length_append, List.length_take]; simp; omega
  rw [put1L ((L.set a u).set (a + 1) v) (a + 2) x (by rw [List.length_set,List.length_set]; exact h),put2L L a u v (by omega),List.take_append_of_le_length (by omega),List.take_of_length_le (by omega),List.drop_append,List.drop_eq_nil_of_le («as» := L.take a ++ [u,v]) (by omega),e,List.drop_drop,List.nil_append]
  simp
section
variable {β : Type} {E : Enc β} {w : World} {e : TypeId} {g n c : Nat} {l : List β}
theorem OwnR.room (h : OwnR E w e g n c l) {i : Nat} (hi : i < n) {cur : Array Value} (hg : w.heap[g]? = some (.cells cur e (0, 0))) : i * E.sz + E.sz ≤ cur.toList.length := by
  obtain ⟨cur', hg', hs, -⟩ := h.row
  rw [hg] at hg'
  obtain rfl : cur = cur' := by simpa using hg'
  have h1 : i * E.sz + E.sz ≤ n * E.sz := by rw [← Nat.succ_mul]; exact Nat.mul_le_mul_right _ hi
  have h2 : n * E.sz ≤ c * E.sz := Nat.mul_le_mul_right _ h.le
  rw [Array.length_toList, hs]
  omega
theorem OwnR.put1 (h : OwnR E w e g n c l) (i : Nat) (hi : i < n) (x : β) (v0 : Value) (hf : E.f x = [v0]) : OwnR E (w.setCell ⟨g, i, none⟩ v0) e g n c (l.set i x) := by
  obtain ⟨cur, hg, -, -⟩ := h.row
  have hz : E.sz = 1 := by rw [← E.len x, hf]; rfl
  have hr := h.room hi hg
  refine h.setAll i x hi (cur.setIfInBounds i v0) _ (heap_setCell_same hg) fun cur' hg' => ?_
  rw [hg] at hg'
  obtain rfl : cur = cur' := by simpa using hg'
  rw [hz] at hr ⊢
  rw [hf, Array.toList_setIfInBounds, put1L _ _ _ (by omega), Nat.mul_one]
theorem OwnR.put2 (h : OwnR E w e g n c l) (i : Nat) (hi : i < n) (x : β) (v0 v1 : Value) (hf : E.f x = [v0,v1]) : OwnR E ((w.setCell ⟨g,i * 2,none⟩ v0).setCell ⟨g,i * 2 + 1,none⟩ v1) e g n c (l.set i x) := by
  obtain ⟨cur, hg, -, -⟩ := h.row
  have hz : E.sz = 2 := by rw [← E.len x, hf]; rfl
  have hr := h.room hi hg
  refine h.setAll i x hi ((cur.setIfInBounds (i * 2) v0).setIfInBounds (i * 2 + 1) v1) _ (heap_setCell_same (heap_setCell_same hg)) fun cur' hg' => ?_
  rw [hg] at hg'
  obtain rfl : cur = cur' := by simpa using hg'
  rw [hz] at hr ⊢
  rw [hf, Array.toList_setIfInBounds, Array.toList_setIfInBounds, put2L _ _ _ _ (by omega)]
theorem OwnR.put3 (h : OwnR E w e g n c l) (i : Nat) (hi : i < n) (x : β) (v0 v1 v2 : Value) (hf : E.f x = [v0,v1,v2]) : OwnR E (((w.setCell ⟨g,i * 3,none⟩ v0).setCell ⟨g,i * 3 + 1,none⟩ v1).setCell ⟨g,i * 3 + 2,none⟩ v2) e g n c (l.set i x) := by
  obtain ⟨cur, hg, -, -⟩ := h.row
  have hz : E.sz = 3 := by rw [← E.len x, hf]; rfl
  have hr := h.room hi hg
  refine h.setAll i x hi (((cur.setIfInBounds (i * 3) v0).setIfInBounds (i * 3 + 1) v1).setIfInBounds (i * 3 + 2) v2) _ (heap_setCell_same (heap_setCell_same (heap_setCell_same hg))) fun cur' hg' => ?_
  rw [hg] at hg'
  obtain rfl : cur = cur' := by simpa using hg'
  rw [hz] at hr ⊢
  rw [hf, Array.toList_setIfInBounds, Array.toList_setIfInBounds, Array.toList_setIfInBounds, put3L _ _ _ _ _ (by omega)]
theorem OwnR.freeD (h : OwnR E w e g n c l) (i : Nat) : w.frozen? ⟨g, i, none⟩ = false := by
  obtain ⟨cur, hg, -, -⟩ := h.row
  exact free_blk hg
end

theorem info_u8 : (Tryz.prog.info? 5).map (fun i => (i.zero, i.size, i.bytes)) = some (some (.int .u8 0), 1, 1) := by kernel_rfl
theorem byteTy : ByteTy Tryz.prog 81 5 := ⟨Tryz.underlying81, Tryz.underlying5, info_parts info_u8⟩

/-- A NEW SLICE OF N BYTES l IS ANSWERED, AND NOTHING THAT WAS THERE HAS CHANGED. -/
def Fresh (w : World) (N : Nat) (l : List UInt8) (en : Ending) (w' : World) : Prop :=
  ∃ g cap, en = .returned (.slice (some ⟨g, 0, none⟩) N cap) ∧ OwnB w' 5 g N cap l ∧ Below w.heap.size w w' ∧ w.heap.size ≤ g
/-- THE ROW g WENT ON: N BYTES l ARE ANSWERED. -/
def Went (w : World) (g n N : Nat) (l : List UInt8) (en : Ending) (w' : World) : Prop :=
  ∃ g' cap, en = .returned (.slice (some ⟨g', 0, none⟩) N cap) ∧ OwnB w' 5 g' N cap l ∧ Puts w w' g n ∧ (g' = g ∨ w.heap.size ≤ g')
/-- A BOOL b IS ANSWERED, AND NOTHING THAT WAS THERE HAS CHANGED. -/
def Told (w : World) (b : Bool) (en : Ending) (w' : World) : Prop := en = .returned (.bool b) ∧ Below w.heap.size w w'
theorem ret_int {k : IntKind} {a b : Int} (h : a = b) : Ending.returned (.int k a) = .returned (.int k b) := by rw [h]
theorem below_on {w a b : World} (h : Below w.heap.size w a) (k : Below a.heap.size a b) : Below w.heap.size w b := h.trans (k.mono h.size)
theorem own_empty (w : World) : OwnB (w.alloc (.cells #[] 5)) 5 w.heap.size 0 0 [] :=
  ⟨rfl, Nat.le_refl _, Nat.zero_le _, #[], heap_alloc_new w _, rfl, rfl⟩

theorem ge_old {a b : World} {g g' : Nat} {B : Nat} (d : Below B a b) (hB : B ≤ a.heap.size) (hg : B ≤ g) (h : g' = g ∨ b.heap.size ≤ g') : B ≤ g' := by
  have := d.size
  omega

/-- A value's three cells. -/
abbrev vv (k n : Int) (s : ByteArray) : Value := .agg #[.int .i64 k, .int .i64 n, .string s]
/-- Whether two are the same. -/
def eqV (k n : Int) (s : ByteArray) (k' n' : Int) (s' : ByteArray) : Bool := k == k' && (n == n' && s.toList == s'.toList)

/-- A value. -/
structure V where
  k : Int
  n : Int
  s : ByteArray
def V.val (v : V) : Value := vv v.k v.n v.s
def V0 : V := ⟨0, 0, ⟨#[]⟩⟩
def EV : Enc V where
  sz := 3
  f v := [.int .i64 v.k, .int .i64 v.n, .string v.s]
  len _ := rfl
  one v u hu := by
    simp only [List.mem_cons, List.not_mem_nil, or_false] at hu
    rcases hu with rfl | rfl | rfl <;> rfl
theorem info_val : (Tryz.prog.info? 98).map (fun i => (i.zero, i.size, i.bytes)) = some (some (.agg #[.int .i64 0, .int .i64 0, .string ⟨#[]⟩]), 3, 32) := by kernel_rfl
theorem rowTyV : RowTy EV Tryz.prog 35 98 V0 := by
  obtain ⟨i, hi, hz, hs, hb⟩ := info_parts info_val
  exact ⟨Tryz.underlying35, i, _, hi, hz, hs, rfl, by rw [hb]; decide⟩
/-- The cells of the value at place i. -/
theorem cells_v {w : World} {b off : Nat} {l : List V} (h : ∀ j u, (EV.all l)[j]? = some u → w.cell? ⟨b, off + j, none⟩ = some u) (i : Nat) (v : V) (hv : l[i]? = some v) :
    w.cell? ⟨b, off + i * 3, none⟩ = some (.int .i64 v.k) ∧ w.cell? ⟨b, off + i * 3 + 1, none⟩ = some (.int .i64 v.n) ∧ w.cell? ⟨b, off + i * 3 + 2, none⟩ = some (.string v.s) := by
  have g := fun j (hj : j < 3) => EV.all_get l i j v hv hj
  exact ⟨h _ _ (g 0 (by decide)), h _ _ (g 1 (by decide)), h _ _ (g 2 (by decide))⟩

/-- A sum. -/
structure H32 where
  l : List UInt8
  len : l.length = 32
/-- A change: its table, what it does, its row. -/
abbrev Chg := (ByteArray × Int) × List V
/-- A transaction: its number, its changes. -/
abbrev Txn := Int × List Chg
structure Blk where
  n : Int
  prev : H32
  root : H32
  count : Int
theorem bcs_1cell (l : List UInt8) : ∀ u ∈ bcs l, u.oneCell' = true := by
  intro u hu
  obtain ⟨x, -, rfl⟩ := List.mem_map.1 hu
  rfl
theorem bcs_32 (l : List UInt8) : (bcs l).length = l.length := by simp [bcs]
def ECh : Enc ((ByteArray × Int) × HdR) where
  sz := 3
  f x := [.string x.1.1, .int .i64 x.1.2, .slice x.2.a x.2.n x.2.c]
  len _ := rfl
  one x u hu := by
    simp only [List.mem_cons, List.not_mem_nil, or_false] at hu
    rcases hu with rfl | rfl | rfl <;> rfl
def ETx : Enc (Int × HdR) where
  sz := 2
  f x := [.int .i64 x.1, .slice x.2.a x.2.n x.2.c]
  len _ := rfl
  one x u hu := by
    simp only [List.mem_cons, List.not_mem_nil, or_false] at hu
    rcases hu with rfl | rfl <;> rfl
def Blk.cs (b : Blk) : List Value := .int .i64 b.n :: (bcs b.prev.l ++ (bcs b.root.l ++ [.int .i64 b.count]))
theorem Blk.cs_len (b : Blk) : b.cs.length = 66 := by simp [Blk.cs, bcs, b.prev.len, b.root.len]
def EBk : Enc Blk where
  sz := 66
  f b := b.cs
  len b := b.cs_len
  one b u hu := by
    unfold Blk.cs at hu
    rcases List.mem_cons.1 hu with rfl | hu
    · rfl
    rcases List.mem_append.1 hu with hu | hu
    · exact bcs_1cell _ u hu
    rcases List.mem_append.1 hu with hu | hu
    · exact bcs_1cell _ u hu
    · obtain rfl := List.mem_singleton.1 hu
      rfl
def EHs : Enc H32 where
  sz := 32
  f h := bcs h.l
  len h := by rw [bcs_32, h.len]
  one h u hu := bcs_1cell _ u hu
def DV : Dn V := flatD EV (by decide)
def DC : Dn Chg := recD DV ECh (by decide)
def DT : Dn Txn := recD DC ETx (by decide)
def DB : Dn Blk := flatD EBk (by decide)
def DTs : Dn (List Txn) := rowD DT
theorem chg_info : (Tryz.prog.info? 67).map (fun i => (i.zero, i.size, i.bytes)) = some (some (.agg #[.string ⟨#[]⟩, .int .i64 0, .slice none 0 0]), 3, 48) := by kernel_rfl
theorem rowTyCh : RowTy ECh Tryz.prog 43 67 ((⟨#[]⟩, 0), ⟨none, 0, 0⟩) := by
  obtain ⟨i, h1, h2, h3, h4⟩ := info_parts chg_info
  exact ⟨Tryz.underlying43, i, _, h1, h2, h3, rfl, by rw [h4]; decide⟩
theorem tx_info : (Tryz.prog.info? 45).map (fun i => (i.zero, i.size, i.bytes)) = some (some (.agg #[.int .i64 0, .slice none 0 0]), 2, 32) := by kernel_rfl
theorem rowTyTx : RowTy ETx Tryz.prog 25 45 (0, ⟨none, 0, 0⟩) := by
  obtain ⟨i, h1, h2, h3, h4⟩ := info_parts tx_info
  exact ⟨Tryz.underlying25, i, _, h1, h2, h3, rfl, by rw [h4]; decide⟩
theorem txs_info : (Tryz.prog.info? 25).map (fun i => (i.zero, i.size, i.bytes)) = some (some (.slice none 0 0), 1, 24) := by kernel_rfl
theorem rowTyTxs : RowTy EH Tryz.prog 27 25 ⟨none, 0, 0⟩ := by
  obtain ⟨i, h1, h2, h3, h4⟩ := info_parts txs_info
  exact ⟨Tryz.underlying27, i, _, h1, h2, h3, rfl, by rw [h4]; decide⟩
def H0s : H32 := ⟨List.replicate 32 0, rfl⟩
def Blk0 : Blk := ⟨0, H0s, H0s, 0⟩
theorem blk_info : (Tryz.prog.info? 64).map (fun i => (i.zero, i.size, i.bytes)) = some (some (.agg Blk0.cs.toArray), 66, 80) := by kernel_rfl
theorem rowTyBk : RowTy EBk Tryz.prog 26 64 Blk0 := by
  obtain ⟨i, h1, h2, h3, h4⟩ := info_parts blk_info
  exact ⟨Tryz.underlying26, i, _, h1, h2, h3, rfl, by rw [h4]; decide⟩
theorem hash_info : (Tryz.prog.info? 53).map (fun i => (i.zero, i.size, i.bytes)) = some (some (.agg (bcs H0s.l).toArray), 32, 32) := by kernel_rfl
theorem rowTyHs : RowTy EHs Tryz.prog 77 53 H0s := by
  obtain ⟨i, h1, h2, h3, h4⟩ := info_parts hash_info
  exact ⟨Tryz.underlying77, i, _, h1, h2, h3, rfl, by rw [h4]; decide⟩
/-- A ledger. -/
structure Lgr where
  next : Int
  op : List Txn
  bl : List Blk
  ts : List (List Txn)
/-- Its slices read so. -/
structure LgR (w : World) (Q : Nat → Prop) (oa : Option Addr) (on oc : Nat) (ba : Option Addr) (bn bc : Nat) (ta : Option Addr) (tn tc : Nat) (L : Lgr) : Prop where
  op : IsD DT w Q oa on oc L.op
  bl : IsD DB w Q ba bn bc L.bl
  ts : IsD DTs w Q ta tn tc L.ts
section
variable {w w' : World} {Q Q' : Nat → Prop} {oa : Option Addr} {on oc : Nat} {ba : Option Addr} {bn bc : Nat} {ta : Option Addr} {tn tc : Nat} {L : Lgr}
theorem LgR.past (h : LgR w Q oa on oc ba bn bc ta tn tc L) (b : Below w.heap.size w w') : LgR w' Q oa on oc ba bn bc ta tn tc L := ⟨h.op.past b, h.bl.past b, h.ts.past b⟩
theorem LgR.grown {g : Nat} (h : LgR w Q oa on oc ba bn bc ta tn tc L) (k : w.grownBy w' (some g)) (hg : ¬ Q g) : LgR w' Q oa on oc ba bn bc ta tn tc L := ⟨h.op.grown k hg,h.bl.grown k hg,h.ts.grown k hg⟩
theorem LgR.imp (h : LgR w Q oa on oc ba bn bc ta tn tc L) (hq : ∀ k, k < w.heap.size → Q k → Q' k) : LgR w Q' oa on oc ba bn bc ta tn tc L := ⟨h.op.imp hq, h.bl.imp hq, h.ts.imp hq⟩
end
/-- A ROW OF THE CALL's OWN, OR NIL. -/
structure TxtR {α : Type} (E : Enc α) (w : World) (e : TypeId) (B : Nat) (ao : Option Addr) (n c : Nat) (l : List α) : Prop where
  either : (ao = none ∧ n = 0 ∧ c = 0 ∧ l = []) ∨ ∃ g, ao = some ⟨g, 0, none⟩ ∧ OwnR E w e g n c l ∧ B ≤ g
/-- The block that a slice lies in. -/
def blk (ao : Option Addr) : Option Nat := ao.map (·.block)
section
variable {α : Type} {E : Enc α} {w w' : World} {e : TypeId} {B : Nat} {ao : Option Addr} {n c : Nat} {l : List α}
theorem TxtR.nil (w : World) (e : TypeId) (B : Nat) : TxtR E w e B none 0 0 [] := ⟨.inl ⟨rfl, rfl, rfl, rfl⟩⟩
theorem TxtR.isR (h : TxtR E w e B ao n c l) : IsR E w ao n c l := by
  rcases h.either with ⟨rfl, rfl, rfl, rfl⟩ | ⟨g, rfl, o, _⟩
  · exact IsR.nilR w
  · exact o.isR
theorem TxtR.len (h : TxtR E w e B ao n c l) : l.length = n := h.isR.len
theorem TxtR.past (h : TxtR E w e B ao n c l) (b : Below w.heap.size w w') : TxtR E w' e B ao n c l := by
  rcases h.either with h | ⟨g, rfl, o, hg⟩
  · exact ⟨.inl h⟩
  · exact ⟨.inr ⟨g, rfl, o.past b, hg⟩⟩
theorem TxtR.grown {row : Option Nat} (h : TxtR E w e B ao n c l) (b : w.grownBy w' row) (hne : ∀ z, blk ao = some z → row ≠ some z) : TxtR E w' e B ao n c l := by
  rcases h.either with h | ⟨g, rfl, o, hg⟩
  · exact ⟨.inl h⟩
  · exact ⟨.inr ⟨g, rfl, o.grown b (fun e => hne g rfl e.symm), hg⟩⟩
theorem TxtR.lt (h : TxtR E w e B ao n c l) : ∀ z, blk ao = some z → z < w.heap.size := by
  rcases h.either with ⟨rfl, _⟩ | ⟨g, rfl, o, _⟩
  · intro z hz; cases hz
  · intro z hz
    cases hz
    exact o.lt
theorem puts_grown' {g n : Nat} (h : Puts w w' g n) : w.grownBy w' (some g) := ⟨h.os, h.tape, h.output, h.size, fun k hk hne => h.block k hk (fun e => hne (by rw [e]))⟩
/-- append, in a region that draws: what has grown is the row's own block, or nothing that was there. -/
theorem wp_append_r {P : Program} {zero : α} {o : Oper} {a : Act} {K : Act → World → Prop} {Q : Exit → Act → World → Prop} (s x : Operand) (t tx : TypeId)
    (ho : o.op = .call { callee := .builtin .append,args := #[s,x],argTypes := #[t,tx] }) (hB : RowTy E P t e zero) (hsv : a.eval s = .slice ao n c) (h : TxtR E w e B ao n c l) (hBw : B ≤ w.heap.size)
    (X : Value) (hx : a.eval x = X) (m : Nat) (cs : List α) (hs : Src P E.sz tx X m (E.all cs) w) (hcl : cs.length = m) (hpos : 0 < m) (N : Nat) (hN : n + m = N) (L : List α) (hL : l ++ cs = L) (hmax : N ≤ 1000000)
    (hK : ∀ g' c' w',TxtR E w' e B (some ⟨g',0,none⟩) N c' L → w.grownBy w' (blk ao) → (blk ao = some g' ∨ w.heap.size ≤ g') → Below B w w' → K (a.put o.dst (.slice (some ⟨g',0,none⟩) N c')) w') : o.wp P a w K Q := by
  subst hN
  subst hL
  rcases h.either with ⟨rfl, rfl, rfl, rfl⟩ | ⟨g, rfl, ow, hg⟩
  · obtain ⟨cap', w', hr, h1, h2⟩ := run_append_nr (P := P) w t tx o.type e hB 0 rfl X m cs hs hcl hpos (by omega)
    unfold Oper.wp execOp
    simp only [ho, resolve, invoke, builtin, Sem.run_bind, Sem.run_pure, Result.andThen_ok, List.map_toArray, List.map_cons, List.map_nil, hsv, hx, hr]
    have e0 : 0 + m = m := Nat.zero_add m
    have hh := hK w.heap.size cap' w' ⟨.inr ⟨_, rfl, by rw [e0]; exact h1, hBw⟩⟩ ⟨h2.os, h2.tape, h2.output, h2.size, fun k hk _ => h2.block k hk⟩ (.inr (Nat.le_refl _)) (h2.mono hBw)
    rw [e0] at hh
    exact hh
  · obtain ⟨g', cap', w', hr, h1, h2, h3⟩ := run_append_or (P := P) w t tx o.type e hB g n c l ow X m cs hs hcl hmax
    unfold Oper.wp execOp
    simp only [ho, resolve, invoke, builtin, Sem.run_bind, Sem.run_pure, Result.andThen_ok, List.map_toArray, List.map_cons, List.map_nil, hsv, hx, hr]
    exact hK g' cap' w' ⟨.inr ⟨_,rfl,h1,by rcases h3 with rfl | h3; exact hg; exact Nat.le_trans hBw h3⟩⟩ (puts_grown' h2) (by rcases h3 with rfl | h3; exact .inl rfl; exact .inr h3) (h2.below hg hBw)
end

theorem own_emptyR' {α : Type} {E : Enc α} (w : World) (e : TypeId) : OwnR E (w.alloc (.cells #[] e)) e w.heap.size 0 0 [] :=
  ⟨rfl, Nat.le_refl _, Nat.zero_le _, #[], heap_alloc_new w _, by simp, by simp [Enc.all]⟩
theorem eqlS_nil' {P : Program} (w : World) (t e : TypeId) (h : P.underlying t = some (.slice e)) (a : Addr) (n c : Nat) : (binOp .eql t (.slice (some a) n c) (.slice none 0 0)).run P w = .ok (.bool false) w := by
  simpa using Lib.run_eql_slice_nil w t e (some a) n c 0 0 h
theorem eqlS_nil0 {P : Program} (w : World) (t e : TypeId) (h : P.underlying t = some (.slice e)) : (binOp .eql t (.slice none 0 0) (.slice none 0 0)).run P w = .ok (.bool true) w := by
  simpa using Lib.run_eql_slice_nil w t e none 0 0 0 0 h
set_option maxRecDepth 100000 in
theorem kclone_ch (w : World) (ao : Option Addr) (n c : Nat) (l : List ((ByteArray × Int) × HdR)) (h : IsR ECh w ao n c l) (hm : n ≤ 1000000) :
    Calls Tryz.prog 133 #[.slice ao n c] w fun e w' => ∃ ao' c',e = .returned (.slice ao' n c') ∧ TxtR ECh w' 67 w.heap.size ao' n c' l ∧ Below w.heap.size w w' := by
  have hln := h.len
  rcases ao with - | a
  · obtain rfl : c = 0 := h.nil rfl
    obtain rfl : n = 0 := by have := h.le; omega
    obtain rfl : l = [] := List.eq_nil_of_length_eq_zero hln
    have hnil := fun w' : World => eqlS_nil0 (P := Tryz.prog) w' 43 67 Tryz.underlying43
    go_enter Tryz.func133, Tryz.ntmps133
    go_wp2_with fail
    go_ret
    exact ⟨none, 0, rfl, TxtR.nil _ _ _, Below.refl _ _⟩
  · have o0 : OwnR ECh (w.alloc (.cells #[] 67)) 67 w.heap.size 0 0 [] := own_emptyR' w _
    have B0 : Below w.heap.size w (w.alloc (.cells #[] 67)) := (Below.refl _ _).alloc (Nat.le_refl _) _
    have hs := (h.past B0).src (P := Tryz.prog) Tryz.underlying43
    have hnil := fun w' : World => eqlS_nil' (P := Tryz.prog) w' 43 67 Tryz.underlying43 a n c
    go_enter Tryz.func133, Tryz.ntmps133
    go_wp2_with (at_builtin; refine wpList_append_or rfl _ _ 43 43 rfl 67 rowTyCh w.heap.size 0 0 [] rfl o0 _ rfl n l hs hln n (Nat.zero_add n) l rfl (by omega) ?_; intro g1 c1 w1 o1 p1 q1)
    go_ret
    exact ⟨_, c1, rfl, ⟨.inr ⟨_, rfl, o1, by rcases q1 with rfl | q1; exact Nat.le_refl _; rw [World.size_alloc] at q1; omega⟩⟩, B0.trans (p1.below (Nat.le_refl _) B0.size)⟩
set_option maxRecDepth 100000 in
theorem kclone_tx (w : World) (ao : Option Addr) (n c : Nat) (l : List (Int × HdR)) (h : IsR ETx w ao n c l) (hm : n ≤ 1000000) :
    Calls Tryz.prog 144 #[.slice ao n c] w fun e w' => ∃ ao' c',e = .returned (.slice ao' n c') ∧ TxtR ETx w' 45 w.heap.size ao' n c' l ∧ Below w.heap.size w w' := by
  have hln := h.len
  rcases ao with - | a
  · obtain rfl : c = 0 := h.nil rfl
    obtain rfl : n = 0 := by have := h.le; omega
    obtain rfl : l = [] := List.eq_nil_of_length_eq_zero hln
    have hnil := fun w' : World => eqlS_nil0 (P := Tryz.prog) w' 25 45 Tryz.underlying25
    go_enter Tryz.func144, Tryz.ntmps144
    go_wp2_with fail
    go_ret
    exact ⟨none, 0, rfl, TxtR.nil _ _ _, Below.refl _ _⟩
  · have o0 : OwnR ETx (w.alloc (.cells #[] 45)) 45 w.heap.size 0 0 [] := own_emptyR' w _
    have B0 : Below w.heap.size w (w.alloc (.cells #[] 45)) := (Below.refl _ _).alloc (Nat.le_refl _) _
    have hs := (h.past B0).src (P := Tryz.prog) Tryz.underlying25
    have hnil := fun w' : World => eqlS_nil' (P := Tryz.prog) w' 25 45 Tryz.underlying25 a n c
    go_enter Tryz.func144, Tryz.ntmps144
    go_wp2_with (at_builtin; refine wpList_append_or rfl _ _ 25 25 rfl 45 rowTyTx w.heap.size 0 0 [] rfl o0 _ rfl n l hs hln n (Nat.zero_add n) l rfl (by omega) ?_; intro g1 c1 w1 o1 p1 q1)
    go_ret
    exact ⟨_, c1, rfl, ⟨.inr ⟨_, rfl, o1, by rcases q1 with rfl | q1; exact Nat.le_refl _; rw [World.size_alloc] at q1; omega⟩⟩, B0.trans (p1.below (Nat.le_refl _) B0.size)⟩
set_option maxRecDepth 100000 in
theorem kclone_txs (w : World) (ao : Option Addr) (n c : Nat) (l : List (HdR)) (h : IsR EH w ao n c l) (hm : n ≤ 1000000) :
    Calls Tryz.prog 132 #[.slice ao n c] w fun e w' => ∃ ao' c',e = .returned (.slice ao' n c') ∧ TxtR EH w' 25 w.heap.size ao' n c' l ∧ Below w.heap.size w w' := by
  have hln := h.len
  rcases ao with - | a
  · obtain rfl : c = 0 := h.nil rfl
    obtain rfl : n = 0 := by have := h.le; omega
    obtain rfl : l = [] := List.eq_nil_of_length_eq_zero hln
    have hnil := fun w' : World => eqlS_nil0 (P := Tryz.prog) w' 27 25 Tryz.underlying27
    go_enter Tryz.func132, Tryz.ntmps132
    go_wp2_with fail
    go_ret
    exact ⟨none, 0, rfl, TxtR.nil _ _ _, Below.refl _ _⟩
  · have o0 : OwnR EH (w.alloc (.cells #[] 25)) 25 w.heap.size 0 0 [] := own_emptyR' w _
    have B0 : Below w.heap.size w (w.alloc (.cells #[] 25)) := (Below.refl _ _).alloc (Nat.le_refl _) _
    have hs := (h.past B0).src (P := Tryz.prog) Tryz.underlying27
    have hnil := fun w' : World => eqlS_nil' (P := Tryz.prog) w' 27 25 Tryz.underlying27 a n c
    go_enter Tryz.func132, Tryz.ntmps132
    go_wp2_with (at_builtin; refine wpList_append_or rfl _ _ 27 27 rfl 25 rowTyTxs w.heap.size 0 0 [] rfl o0 _ rfl n l hs hln n (Nat.zero_add n) l rfl (by omega) ?_; intro g1 c1 w1 o1 p1 q1)
    go_ret
    exact ⟨_, c1, rfl, ⟨.inr ⟨_, rfl, o1, by rcases q1 with rfl | q1; exact Nat.le_refl _; rw [World.size_alloc] at q1; omega⟩⟩, B0.trans (p1.below (Nat.le_refl _) B0.size)⟩
set_option maxRecDepth 100000 in
theorem kclone_bk (w : World) (ao : Option Addr) (n c : Nat) (l : List (Blk)) (h : IsR EBk w ao n c l) (hm : n ≤ 1000000) :
    Calls Tryz.prog 115 #[.slice ao n c] w fun e w' => ∃ ao' c',e = .returned (.slice ao' n c') ∧ TxtR EBk w' 64 w.heap.size ao' n c' l ∧ Below w.heap.size w w' := by
  have hln := h.len
  rcases ao with - | a
  · obtain rfl : c = 0 := h.nil rfl
    obtain rfl : n = 0 := by have := h.le; omega
    obtain rfl : l = [] := List.eq_nil_of_length_eq_zero hln
    have hnil := fun w' : World => eqlS_nil0 (P := Tryz.prog) w' 26 64 Tryz.underlying26
    go_enter Tryz.func115, Tryz.ntmps115
    go_wp2_with fail
    go_ret
    exact ⟨none, 0, rfl, TxtR.nil _ _ _, Below.refl _ _⟩
  · have o0 : OwnR EBk (w.alloc (.cells #[] 64)) 64 w.heap.size 0 0 [] := own_emptyR' w _
    have B0 : Below w.heap.size w (w.alloc (.cells #[] 64)) := (Below.refl _ _).alloc (Nat.le_refl _) _
    have hs := (h.past B0).src (P := Tryz.prog) Tryz.underlying26
    have hnil := fun w' : World => eqlS_nil' (P := Tryz.prog) w' 26 64 Tryz.underlying26 a n c
    go_enter Tryz.func115, Tryz.ntmps115
    go_wp2_with (at_builtin; refine wpList_append_or rfl _ _ 26 26 rfl 64 rowTyBk w.heap.size 0 0 [] rfl o0 _ rfl n l hs hln n (Nat.zero_add n) l rfl (by omega) ?_; intro g1 c1 w1 o1 p1 q1)
    go_ret
    exact ⟨_, c1, rfl, ⟨.inr ⟨_, rfl, o1, by rcases q1 with rfl | q1; exact Nat.le_refl _; rw [World.size_alloc] at q1; omega⟩⟩, B0.trans (p1.below (Nat.le_refl _) B0.size)⟩
set_option maxRecDepth 100000 in
theorem kclone_vs (w : World) (ao : Option Addr) (n c : Nat) (l : List (V)) (h : IsR EV w ao n c l) (hm : n ≤ 1000000) :
    Calls Tryz.prog 108 #[.slice ao n c] w fun e w' => ∃ ao' c',e = .returned (.slice ao' n c') ∧ TxtR EV w' 98 w.heap.size ao' n c' l ∧ Below w.heap.size w w' := by
  have hln := h.len
  rcases ao with - | a
  · obtain rfl : c = 0 := h.nil rfl
    obtain rfl : n = 0 := by have := h.le; omega
    obtain rfl : l = [] := List.eq_nil_of_length_eq_zero hln
    have hnil := fun w' : World => eqlS_nil0 (P := Tryz.prog) w' 35 98 Tryz.underlying35
    go_enter Tryz.func108, Tryz.ntmps108
    go_wp2_with fail
    go_ret
    exact ⟨none, 0, rfl, TxtR.nil _ _ _, Below.refl _ _⟩
  · have o0 : OwnR EV (w.alloc (.cells #[] 98)) 98 w.heap.size 0 0 [] := own_emptyR' w _
    have B0 : Below w.heap.size w (w.alloc (.cells #[] 98)) := (Below.refl _ _).alloc (Nat.le_refl _) _
    have hs := (h.past B0).src (P := Tryz.prog) Tryz.underlying35
    have hnil := fun w' : World => eqlS_nil' (P := Tryz.prog) w' 35 98 Tryz.underlying35 a n c
    go_enter Tryz.func108, Tryz.ntmps108
    go_wp2_with (at_builtin; refine wpList_append_or rfl _ _ 35 35 rfl 98 rowTyV w.heap.size 0 0 [] rfl o0 _ rfl n l hs hln n (Nat.zero_add n) l rfl (by omega) ?_; intro g1 c1 w1 o1 p1 q1)
    go_ret
    exact ⟨_, c1, rfl, ⟨.inr ⟨_, rfl, o1, by rcases q1 with rfl | q1; exact Nat.le_refl _; rw [World.size_alloc] at q1; omega⟩⟩, B0.trans (p1.below (Nat.le_refl _) B0.size)⟩
set_option linter.unusedSimpArgs false
def FrG (B : Nat) (b : Nat) : Prop := B ≤ b
def FrGN (B : Nat) (ao : Option Addr) (b : Nat) : Prop := B ≤ b ∧ blk ao ≠ some b
theorem TxtR.zero {β : Type} {E : Enc β} {w : World} {e : TypeId} {B : Nat} {ao : Option Addr} {n c : Nat} {l : List β} (h : TxtR E w e B ao n c l) : TxtR E w e 0 ao n c l := ⟨h.either.imp id fun ⟨g,h1,h2,_⟩ => ⟨g,h1,h2,Nat.zero_le _⟩⟩
theorem TxtR.geB {β : Type} {E : Enc β} {w : World} {e : TypeId} {B : Nat} {ao : Option Addr} {n c : Nat} {l : List β} (h : TxtR E w e B ao n c l) : ∀ z, blk ao = some z → B ≤ z := fun z hz => by
  rcases h.either with ⟨rfl, -⟩ | ⟨g, rfl, -, hg⟩
  · cases hz
  · cases hz; exact hg
theorem grown_none {w w' : World} (h : w.grownBy w' none) : Below w.heap.size w w' := ⟨h.os, h.tape, h.output, h.size, fun b hb => h.block b hb (by simp)⟩
section
variable {α : Type} {D : Dn α} {w w' : World} {Q Q' : Nat → Prop} {bs : List D.β} {ls : List α} {ao : Option Addr} {n c : Nat} {e : TypeId} {row : Option Nat}
theorem RdD.grownO (h : RdD D w Q bs ls) (g : w.grownBy w' row) (hr : ∀ r, row = some r → ¬ Q r) : RdD D w' Q bs ls := by
  cases row with
  | none => exact h.past (grown_none g)
  | some r => exact h.grown g (hr r rfl)
theorem IsD.grownO (h : IsD D w Q ao n c ls) (g : w.grownBy w' row) (hr : ∀ r, row = some r → ¬ Q r) : IsD D w' Q ao n c ls := by
  cases row with
  | none => exact h.past (grown_none g)
  | some r => exact h.grown g (hr r rfl)
/-- THE SLICE ao, n, c IS THE CALL's OWN (OR NIL) AND READS AS ls. -/
structure TxD {α : Type} (D : Dn α) (w : World) (e : TypeId) (Q : Nat → Prop) (ao : Option Addr) (n c : Nat) (bs : List D.β) (ls : List α) : Prop where
  row : TxtR D.E w e 0 ao n c bs
  frm : ∀ z, blk ao = some z → Q z
  rd : RdD D w (fun b => Q b ∧ blk ao ≠ some b) bs ls
theorem TxD.past (h : TxD D w e Q ao n c bs ls) (b : Below w.heap.size w w') : TxD D w' e Q ao n c bs ls := ⟨h.row.past b, h.frm, h.rd.past b⟩
theorem TxD.grownO (h : TxD D w e Q ao n c bs ls) (g : w.grownBy w' row) (hr : ∀ r, row = some r → ¬ Q r) : TxD D w' e Q ao n c bs ls :=
  ⟨h.row.grown g fun z hz e => hr z e (h.frm z hz), h.frm, h.rd.grownO g fun r e hq => hr r e hq.1⟩
theorem TxD.imp (h : TxD D w e Q ao n c bs ls) (hq : ∀ k, k < w.heap.size → Q k → Q' k) : TxD D w e Q' ao n c bs ls :=
  ⟨h.row, fun z hz => hq z (h.row.lt z hz) (h.frm z hz), h.rd.imp fun k hk hh => ⟨hq k hk hh.1, hh.2⟩⟩
theorem TxD.isD (h : TxD D w e Q ao n c bs ls) : IsD D w Q ao n c ls :=
  ⟨bs, h.row.isR, fun hn a ha => h.frm _ (by rw [ha]; rfl), h.rd.imp fun k _ hh => hh.1⟩
theorem TxD.len (h : TxD D w e Q ao n c bs ls) : ls.length = n := h.isD.len
theorem TxD.nil (w : World) (e : TypeId) (Q : Nat → Prop) : TxD D w e Q none 0 0 [] [] := ⟨TxtR.nil .., (fun z hz => by cases hz), RdD.nil⟩
/-- A copy is answered, in memory of its own. -/
def CopiedIs {α : Type} (D : Dn α) (e : TypeId) (w : World) (n : Nat) (ls : List α) (en : Ending) (w' : World) : Prop :=
  ∃ ao' c' bs', en = .returned (.slice ao' n c') ∧ TxD D w' e (FrG w.heap.size) ao' n c' bs' ls ∧ Below w.heap.size w w'
/-- One more was put behind. -/
theorem TxD.app {Qx : Nat → Prop} {b : D.β} {x : α} {g' c' : Nat} (h : TxD D w e Q ao n c bs ls) (hx : D.R w Qx b x) (hne : ∀ z,blk ao = some z → ¬ Qx z) (o' : TxtR D.E w' e 0 (some ⟨g',0,none⟩) (n + 1) c' (bs ++ [b])) (g : w.grownBy w' (blk ao)) (hg' : blk ao = some g' ∨ w.heap.size ≤ g') :
    TxD D w' e (fun k => Q k ∨ Qx k ∨ w.heap.size ≤ k) (some ⟨g', 0, none⟩) (n + 1) c' (bs ++ [b]) (ls ++ [x]) := by
  have key : ∀ k, k < w.heap.size → blk ao ≠ some k → blk (some (⟨g', 0, none⟩ : Addr)) ≠ some k := by
    intro k hk hn e
    have e2 : g' = k := Option.some.inj e
    rcases hg' with q | q
    · exact hn (by rw [q, e2])
    · omega
  refine ⟨o', fun z hz => ?_, ?_⟩
  · have e2 : g' = z := Option.some.inj hz
    rcases hg' with q | q
    · exact .inl (h.frm z (by rw [q, e2]))
    · exact .inr (.inr (by omega))
  · have r1 : RdD D w (fun k => (Q k ∨ Qx k ∨ w.heap.size ≤ k) ∧ blk ao ≠ some k ∧ k < w.heap.size) bs ls := h.rd.imp fun k hk hh => ⟨.inl hh.1, hh.2, hk⟩
    have r2 : RdD D w (fun k => (Q k ∨ Qx k ∨ w.heap.size ≤ k) ∧ blk ao ≠ some k ∧ k < w.heap.size) [b] [x] := RdD.one (D.imp hx fun k hk hh => ⟨.inr (.inl hh), fun e => hne k e hh, hk⟩)
    exact ((r1.append r2).grownO g fun r e hq => hq.2.1 e).imp fun k _ hh => ⟨hh.1, key k hh.2.2 hh.2.1⟩
end

/-- A variable that is an array: its block is new and holds zeros. -/
theorem wpList_alloc_blk {P : Program} {w : World} {ops : Array Oper} {rest : List Oper} {o : Oper} {a : Act} {Q : Exit → Act → World → Prop} (hgd : o.guard = none) (t : TypeId) (ho : o.op = .alloc t) (Z : Array Value)
    (hz : (P.info? t).map (fun i => i.zero) = some (some (.agg Z)))
    (hK : ∀ w' g, Hid (w'.heap[g]? = some (.cells Z t (0, 0))) → Below w.heap.size w w' → w.heap.size ≤ g → wpList P ops Q rest (a.put o.dst (.pointer (some ⟨g, 0, none⟩))) w') :
    wpList P ops Q (o :: rest) a w := by
  refine wpList_plain hgd fun K hK' => ?_
  have h0 : (zeroValue t).run P w = .ok (.agg Z) w := by
    cases hq : P.info? t with
    | none => simp [hq] at hz
    | some i =>
      simp [hq] at hz
      simp [zeroValue, typeInfo, hq, hz]
  have hr : (Instr.alloc t true (.tuple #[])).run P w = .ok (.pointer (some ⟨w.heap.size, 0, none⟩)) (w.alloc (.cells Z t)) := by
    simp [Instr.alloc, h0, newVar, newRow, Value.cells]
  unfold Oper.wp execOp
  simp only [ho, Sem.run_bind, Sem.run_pure, Result.andThen_ok, hr]
  exact hK' _ _ (hK _ _ (heap_alloc_new w _) ((Below.refl _ _).alloc (Nat.le_refl _) _) (Nat.le_refl _))
/-- A value is put together: the kernel reckons it. -/
theorem wpList_build_at {P : Program} {ops : Array Oper} {rest : List Oper} {o : Oper} {a : Act} {w : World} {Q : Exit → Act → World → Prop} (hg : o.guard = none) (t : TypeId) (parts : Array (Nat × Operand)) (ho : o.op = .build t parts) (V : Array Value)
    (hf : P.built t (parts.map fun (i, x) => (i, a.eval x)).toList = some V) (h : wpList P ops Q rest (a.put o.dst (.agg V)) w) : wpList P ops Q (o :: rest) a w :=
  wpList_build hg t parts ho (by rw [hf]; rfl) (by rw [hf]; exact h)
/-- An array of whatever is read whole, is written whole. -/
theorem wpList_load_blk {P : Program} {w : World} {ops : Array Oper} {rest : List Oper} {o : Oper} {a : Act} {Q : Exit → Act → World → Prop} (hgd : o.guard = none) (ty : TypeId) (x : Operand) (ho : o.op = .load ty x)
    (g : Nat) (cs : Array Value) (hx : a.eval x = .pointer (some ⟨g,0,none⟩)) (t : TypeId) (hg : Hid (w.heap[g]? = some (.cells cs t (0,0)))) (n : Nat) (e : TypeId) (hu : P.underlying ty = some (.array n e)) (N : Nat) (hi : (P.info? ty).map (·.size) = some N) (hl : cs.size = N)
    (hK : wpList P ops Q rest (a.put o.dst (.agg cs)) w) : wpList P ops Q (o :: rest) a w :=
  wpList_load_row hgd ty x ho g hx t cs (0, 0) _ hg.out hu rfl (by rw [hi, hl]) hK
theorem wpList_store_blk {P : Program} {w : World} {ops : Array Oper} {rest : List Oper} {o : Oper} {a : Act} {Q : Exit → Act → World → Prop} (hgd : o.guard = none) (ty : TypeId) (x y : Operand) (ho : o.op = .store ty x y)
    (g : Nat) (old cs : Array Value) (hx : a.eval x = .pointer (some ⟨g,0,none⟩)) (hy : a.eval y = .agg cs) (t : TypeId) (hg : Hid (w.heap[g]? = some (.cells old t (0,0)))) (N : Nat) (hi : (P.info? ty).map (·.size) = some N) (hl : old.size = N) (hm : cs.size = N) (h1 : cs.all (·.oneCell') = true)
    (hK : ∀ w', Hid (w'.heap[g]? = some (.cells cs t (0, 0))) → w.grownBy w' (some g) → wpList P ops Q rest (a.put o.dst undef) w') :
    wpList P ops Q (o :: rest) a w := by
  refine wpList_store_row hgd ty x y ho g cs hx hy t old hg.out (by rw [hi,hm]) (by rw [hl,hm]) h1 (hK _ (setRow_heap w g _ _ _ _ hg.out) ⟨rfl,rfl,rfl,by simp,fun k _ hk => setRow_other w g k _ (fun e => hk (by rw [e]))⟩)

theorem wp_alloc_blk {P : Program} {w : World} {o : Oper} {a : Act} {K : Act → World → Prop} {Q : Exit → Act → World → Prop} (t : TypeId) (ho : o.op = .alloc t) (Z : Array Value)
    (hz : (P.info? t).map (fun i => i.zero) = some (some (.agg Z)))
    (hK : ∀ w' g, Hid (w'.heap[g]? = some (.cells Z t (0, 0))) → Below w.heap.size w w' → w.heap.size ≤ g → K (a.put o.dst (.pointer (some ⟨g, 0, none⟩))) w') : o.wp P a w K Q := by
  have h0 : (zeroValue t).run P w = .ok (.agg Z) w := by
    cases hq : P.info? t with
    | none => simp [hq] at hz
    | some i =>
      simp [hq] at hz
      simp [zeroValue, typeInfo, hq, hz]
  have hr : (Instr.alloc t true (.tuple #[])).run P w = .ok (.pointer (some ⟨w.heap.size, 0, none⟩)) (w.alloc (.cells Z t)) := by
    simp [Instr.alloc, h0, newVar, newRow, Value.cells]
  unfold Oper.wp execOp
  simp only [ho, Sem.run_bind, Sem.run_pure, Result.andThen_ok, hr]
  exact hK _ _ (heap_alloc_new w _) ((Below.refl _ _).alloc (Nat.le_refl _) _) (Nat.le_refl _)
/-- A load of several cells, wherever they lie. -/
theorem run_load_cells {P : Program} (w : World) (ty : TypeId) (a : Addr) (l : List Value) (hagg : ∀ w,(isAgg ty).run P w = .ok true w) (hi : (P.info? ty).map (·.size) = some l.length) (h : ∀ j v,l[j]? = some v → w.cell? (a.add j) = some v) : (loadVar ty a).run P w = .ok (.agg l.toArray) w := by
  have hl : (loadCells a l.length).run P w = .ok l.toArray w := run_loadCells_list (P := P) w a l h
  cases hq : P.info? ty with
  | none => simp [hq] at hi
  | some i =>
    have hs : i.size = l.length := by simpa [hq] using hi
    simp [loadVar, Sem.run_bind, hagg, sizeOf, typeInfo, hq, hs, hl]
theorem wp_load_cells {P : Program} {o : Oper} {a : Act} {w : World} {K : Act → World → Prop} {Q : Exit → Act → World → Prop} (ty : TypeId) (x : Operand) (ho : o.op = .load ty x)
    (p : Addr) (hx : a.eval x = .pointer (some p)) (l : List Value) (hc : ∀ j v,l[j]? = some v → w.cell? (p.add j) = some v) (hagg : ∀ w,(isAgg ty).run P w = .ok true w) (hi : (P.info? ty).map (·.size) = some l.length)
    (h : K (a.put o.dst (.agg l.toArray)) w) : o.wp P a w K Q := by
  unfold Oper.wp execOp
  simp only [ho, hx, Instr.loadAt, Instr.sureAddr, Sem.run_bind, Sem.run_pure, Result.andThen_ok, run_load_cells w ty p l hagg hi hc]
  exact h
theorem wpList_load_cells {P : Program} {ops : Array Oper} {rest : List Oper} {o : Oper} {a : Act} {w : World} {Q : Exit → Act → World → Prop} (hgd : o.guard = none) (ty : TypeId) (x : Operand) (ho : o.op = .load ty x)
    (p : Addr) (hx : a.eval x = .pointer (some p)) (l : List Value) (hc : ∀ j v,l[j]? = some v → w.cell? (p.add j) = some v) (hagg : ∀ w,(isAgg ty).run P w = .ok true w) (hi : (P.info? ty).map (·.size) = some l.length)
    (h : wpList P ops Q rest (a.put o.dst (.agg l.toArray)) w) : wpList P ops Q (o :: rest) a w :=
  wpList_plain hgd fun _ hK => wp_load_cells ty x ho p hx l hc hagg hi (hK _ _ h)
/-- A slice literal of one element of several cells. -/
theorem wp_buildSlice_one {P : Program} {o : Oper} {a : Act} {w : World} {K : Act → World → Prop} {Q : Exit → Act → World → Prop} (t e : TypeId) (x : Operand) (ho : o.op = .buildSlice t 1 #[(0,x)]) (C : List Value) (sz : Nat) (hx : a.eval x = .agg C.toArray) (hC : C.length = sz) (hsz : 0 < sz) (hs2 : sz ≤ 1000)
    (hu : P.underlying t = some (.slice e)) (hi : ∃ i z, P.info? e = some i ∧ i.zero = some z ∧ i.size = sz)
    (hK : ∀ w',w'.heap[w.heap.size]? = some (.cells C.toArray e (0,0)) → Below w.heap.size w w' → w.heap.size < w'.heap.size → K (a.put o.dst (.slice (some ⟨w.heap.size,0,none⟩) 1 1)) w') : o.wp P a w K Q := by
  obtain ⟨i, z, h1, h2, h3⟩ := hi
  have e0 : (#[(0, x)].map fun (i, x) => (i, a.eval x)).toList = ([Value.agg C.toArray].zipIdx 0).map fun x => (x.2, x.1) := by
    simp [hx]
  refine wp_buildSlice t e 1 _ ho C.toArray i z hu h1 h2 (by rw [h3]; omega) (by rw [h3]; omega) ?_ (hK _ (heap_alloc_new w _) ((Below.refl _ _).alloc (Nat.le_refl _) _) (by simp))
  rw [e0, h3, Great.fill_whole hsz _ _ (fun v hv => by
    obtain rfl := List.mem_singleton.1 hv
    simp [Value.cells, hC]) (by simp)]
  simp [Value.cells]

/-- Block g holds the cells cs. -/
def Bk (w : World) (g : Nat) (cs : Array Value) (t : TypeId) : Prop := w.heap[g]? = some (.cells cs t (0, 0))
section
variable {w w' : World} {g : Nat} {cs : Array Value} {t : TypeId}
theorem Bk.lt (h : Bk w g cs t) : g < w.heap.size := (Array.getElem?_eq_some_iff.1 h).1
theorem Bk.past (h : Bk w g cs t) (b : Below w.heap.size w w') : Bk w' g cs t := (b.block g h.lt).trans h
theorem Bk.grown {r : Option Nat} (h : Bk w g cs t) (b : w.grownBy w' r) (hne : some g ≠ r) : Bk w' g cs t := (b.block g h.lt hne).trans h
theorem Bk.c (h : Bk w g cs t) {i : Nat} {v : Value} (hv : cs[i]? = some v) : w.cell? ⟨g, i, none⟩ = some v := cell_blk h hv
theorem Bk.new (w : World) (cs : Array Value) (t : TypeId) : Bk (w.alloc (.cells cs t)) w.heap.size cs t := heap_alloc_new w _
theorem Bk.alloc (h : Bk w g cs t) (o : Obj) : Bk (w.alloc o) g cs t := (Below.heap_alloc w o g h.lt).trans h
end
theorem wp_store_blkT {P : Program} {w : World} {o : Oper} {a : Act} {K : Act → World → Prop} {Q : Exit → Act → World → Prop} (ty : TypeId) (x y : Operand) (ho : o.op = .store ty x y)
    (g : Nat) (old cs : Array Value) (hx : a.eval x = .pointer (some ⟨g,0,none⟩)) (hy : a.eval y = .agg cs) (t : TypeId) (hg : Hid (w.heap[g]? = some (.cells old t (0,0)))) (N : Nat) (hi : (P.info? ty).map (·.size) = some N) (hl : old.size = N) (hm : cs.size = N) (h1 : cs.all (·.oneCell') = true)
    (hK : ∀ w', Hid (w'.heap[g]? = some (.cells cs t (0, 0))) → w.grownBy w' (some g) → K (a.put o.dst undef) w') : o.wp P a w K Q := by
  refine wp_store_row ty x y ho g cs hx hy t old hg.out (by rw [hi,hm]) (by rw [hl,hm]) h1 (hK _ (setRow_heap w g _ _ _ _ hg.out) ⟨rfl,rfl,rfl,by simp,fun k _ hk => setRow_other w g k _ (fun e => hk (by rw [e]))⟩)
end Go.Proofs.YtdmnjjknkcnkgaaGreatDoor
