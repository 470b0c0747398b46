/-
  What a slice of bytes holds, over any program: a slice that can be read ('IsB'), a row of the call's own ('OwnB'), and one law for append to such a row, whatever is appended.
  Rows of whatever takes so many cells, over any program: a slice that can be read ('IsR'), a row of the call's own ('OwnR'), one law for append to it, one for make.
  Rows of rows of whatever: each header lies in a cell.
  A cell of a block.
-/
import Derived.WalkKit
import Derived.WalkSpells
import Derived.WalkLawsBesides
import Derived.Deep.AppendSrc
import Derived.Lib.Hide
import Derived.Lib.SlBytesRow
namespace Go.Proofs.YtdmnjjknkcnkgaaDoor
open Go.RowKit

/-- The cell of a byte. -/
def bc (u : UInt8) : Value := .int .u8 (u.toNat : Int)
def bcs (l : List UInt8) : List Value := l.map bc

theorem bcs_length (l : List UInt8) : (bcs l).length = l.length := by simp [bcs]
theorem bcs_append (a b : List UInt8) : bcs (a ++ b) = bcs a ++ bcs b := by simp [bcs]
theorem bcs_inj : ∀ {a b : List UInt8}, bcs a = bcs b → a = b
  | [], [], _ => rfl
  | [], _ :: _, h => by simp [bcs] at h
  | _ :: _, [], h => by simp [bcs] at h
  | x :: a, y :: b, h => by
    simp only [bcs, List.map_cons, List.cons.injEq, bc, Value.int.injEq, true_and] at h
    have h1 : x = y := UInt8.toNat_inj.1 (by omega)
    rw [h1, bcs_inj (a := a) (b := b) h.2]
theorem bcs_get (l : List UInt8) (j : Nat) : (bcs l)[j]? = (l[j]?).map bc := by simp [bcs]
theorem bcs_one (l : List UInt8) : ∀ u ∈ bcs l, u.oneCell' = true := by
  intro u hu
  obtain ⟨x, _, rfl⟩ := List.mem_map.1 hu
  rfl
theorem bcs_take (l : List UInt8) (n : Nat) : (bcs l).take n = bcs (l.take n) := by simp [bcs]
theorem byteCells_bcs (s : ByteArray) : byteCells s = bcs s.data.toList := rfl

/-- The types' facts that the laws want: t is a slice of e, e holds bytes. -/
structure ByteTy (P : Program) (t e : TypeId) : Prop where
  ht : P.underlying t = some (.slice e)
  he : P.underlying e = some (.int .u8)
  info : ∃ i, P.info? e = some i ∧ i.zero = some (.int .u8 0) ∧ i.size = 1 ∧ i.bytes = 1

/-- THE SLICE ao, n, cap READS AS THE BYTES l. -/
structure IsB (w : World) (ao : Option Addr) (n cap : Nat) (l : List UInt8) : Prop where
  len : l.length = n
  le : n ≤ cap
  max : cap ≤ maxLen
  nil : ao = none → cap = 0
  cell : ∀ a, ao = some a → ∀ j u, l[j]? = some u → w.cell? (a.add j) = some (bc u)

/-- THE ROW IN BLOCK g IS THE CALL's OWN AND ITS FIRST n CELLS HOLD THE BYTES l. -/
structure OwnB (w : World) (e : TypeId) (g n cap : Nat) (l : List UInt8) : Prop where
  len : l.length = n
  le : n ≤ cap
  max : cap ≤ maxLen
  row : ∃ cur, w.heap[g]? = some (.cells cur e (0, 0)) ∧ cur.size = cap ∧ cur.toList.take n = bcs l

theorem IsB.nilB (w : World) : IsB w none 0 0 [] := ⟨rfl, Nat.le_refl _, Nat.zero_le _, fun _ => rfl, fun a h => by cases h⟩

theorem OwnB.lt {w : World} {e : TypeId} {g n cap : Nat} {l : List UInt8} (h : OwnB w e g n cap l) : g < w.heap.size := by
  obtain ⟨cur, hg, _⟩ := h.row
  exact (Array.getElem?_eq_some_iff.1 hg).1

theorem OwnB.cell {w : World} {e : TypeId} {g n cap : Nat} {l : List UInt8} (h : OwnB w e g n cap l) (j : Nat) (u : UInt8) (hu : l[j]? = some u) : w.cell? ⟨g, j, none⟩ = some (bc u) := by
  obtain ⟨cur, hg, hs, ht⟩ := h.row
  have hj : j < l.length := (List.getElem?_eq_some_iff.1 hu).1
  have hl := h.len
  rw [cell_of_row w g j cur e (0, 0) hg]
  have h1 : (bcs l)[j]? = some (bc u) := by rw [bcs_get, hu]; rfl
  rw [← ht, List.getElem?_take_of_lt (by omega)] at h1
  simpa using h1

theorem OwnB.isB {w : World} {e : TypeId} {g n cap : Nat} {l : List UInt8} (h : OwnB w e g n cap l) : IsB w (some ⟨g, 0, none⟩) n cap l :=
  ⟨h.len, h.le, h.max, (fun h => by cases h), fun a ha j u hu => by
    obtain rfl := Option.some.inj ha
    rw [Addr.add_lit, Nat.zero_add]
    exact h.cell j u hu⟩

theorem OwnB.kept {w w' : World} {e : TypeId} {g n cap : Nat} {l : List UInt8} (h : OwnB w e g n cap l) (hb : w'.heap[g]? = w.heap[g]?) : OwnB w' e g n cap l := by
  obtain ⟨cur, hg, hs, ht⟩ := h.row
  exact ⟨h.len, h.le, h.max, cur, by rw [hb]; exact hg, hs, ht⟩
theorem OwnB.grown {w w' : World} {row : Option Nat} {e : TypeId} {g n cap : Nat} {l : List UInt8} (h : OwnB w e g n cap l) (hg : w.grownBy w' row) (hne : some g ≠ row) : OwnB w' e g n cap l :=
  h.kept (hg.block g h.lt hne)
theorem OwnB.below {w w' : World} {B : Nat} {e : TypeId} {g n cap : Nat} {l : List UInt8} (h : OwnB w e g n cap l) (hb : Below B w w') (hg : g < B) : OwnB w' e g n cap l :=
  h.kept (hb.block g hg)
theorem OwnB.alloc {w : World} {e : TypeId} {g n cap : Nat} {l : List UInt8} (h : OwnB w e g n cap l) (o : Obj) : OwnB (w.alloc o) e g n cap l :=
  h.kept (Below.heap_alloc w o g h.lt)
theorem OwnB.drew {w : World} {e : TypeId} {g n cap : Nat} {l : List UInt8} (h : OwnB w e g n cap l) : OwnB w.drew e g n cap l := ⟨h.len, h.le, h.max, h.row⟩

theorem OwnB.front {w : World} {e : TypeId} {g n cap : Nat} {a b : List UInt8} (h : OwnB w e g n cap (a ++ b)) : OwnB w e g a.length cap a := by
  obtain ⟨cur, hg, hs, ht⟩ := h.row
  have hl := h.len
  have hle := h.le
  rw [List.length_append] at hl
  refine ⟨rfl, by omega, h.max, cur, hg, hs, ?_⟩
  have h2 := congrArg (List.take a.length) ht
  rw [List.take_take, Nat.min_eq_left (by omega)] at h2
  rw [h2, bcs_take, List.take_left]

theorem IsB.grown {w w' : World} {row : Option Nat} {ao : Option Addr} {n cap : Nat} {l : List UInt8} (h : IsB w ao n cap l) (hg : w.grownBy w' row) (hne : ∀ a, ao = some a → some a.block ≠ row) : IsB w' ao n cap l :=
  ⟨h.len, h.le, h.max, h.nil, fun a ha j u hu => hg.cell (h.cell a ha j u hu) (by
    have e : (a.add j).block = a.block := by unfold Addr.add; split <;> rfl
    rw [e]
    exact hne a ha)⟩
theorem IsB.below {w w' : World} {B : Nat} {ao : Option Addr} {n cap : Nat} {l : List UInt8} (h : IsB w ao n cap l) (hb : Below B w w') (hlt : ∀ a, ao = some a → a.block < B) : IsB w' ao n cap l :=
  ⟨h.len, h.le, h.max, h.nil, fun a ha j u hu => by
    have e : (a.add j).block = a.block := by unfold Addr.add; split <;> rfl
    rw [hb.cell (by rw [e]; exact hlt a ha)]
    exact h.cell a ha j u hu⟩
/-- What was there when the call began reads as it did. -/
theorem IsB.past {w w' : World} {ao : Option Addr} {n cap : Nat} {l : List UInt8} (h : IsB w ao n cap l) (hb : Below w.heap.size w w') : IsB w' ao n cap l :=
  ⟨h.len, h.le, h.max, h.nil, fun a ha j u hu => by
    have hc := h.cell a ha j u hu
    rw [hb.cell (World.block_lt_of_cell? w _ hc)]
    exact hc⟩
theorem IsB.alloc {w : World} {ao : Option Addr} {n cap : Nat} {l : List UInt8} (h : IsB w ao n cap l) (o : Obj) : IsB (w.alloc o) ao n cap l :=
  h.past ((Below.refl _ _).alloc (Nat.le_refl _) o)
theorem IsB.drew {w : World} {ao : Option Addr} {n cap : Nat} {l : List UInt8} (h : IsB w ao n cap l) : IsB w.drew ao n cap l := h.past (Below.refl _ _).drew

theorem IsB.src {P : Program} {w : World} {ao : Option Addr} {n cap : Nat} {l : List UInt8} {t e : TypeId} (h : IsB w ao n cap l) (ht : P.underlying t = some (.slice e)) : Src P 1 t (.slice ao n cap) n (bcs l) w := by
  cases ao with
  | none =>
    have hc := h.nil rfl
    have hle := h.le
    obtain rfl : n = 0 := by omega
    obtain rfl : l = [] := List.eq_nil_of_length_eq_zero h.len
    exact Src.ofNil w ht cap
  | some a =>
    refine Src.ofSlice w ht a n cap (bcs l) (by rw [bcs_length, h.len, Nat.mul_one]) (fun j u hu => ?_) (bcs_one l)
    rw [bcs_get] at hu
    obtain ⟨x, hx, rfl⟩ := Option.map_eq_some_iff.1 hu
    exact h.cell a rfl j x hx

/-- 'string(b)'. -/
theorem IsB.conv {P : Program} {w : World} {ao : Option Addr} {n cap : Nat} {l : List UInt8} {t e dst : TypeId} (h : IsB w ao n cap l) (hB : ByteTy P t e) (hd : P.underlying dst = some .string) :
    (convert t dst (.slice ao n cap)).run P w = .ok (.string ⟨l.toArray⟩) w := by
  have hb : ∀ (xs : List UInt8) (s : ByteArray), (xs.map fun u => (u.toNat : Int)).foldl (fun r m => r.push (UInt8.ofNat m.toNat)) s = ⟨s.data ++ xs.toArray⟩ := by
    intro xs s
    rw [foldl_push_bytes, List.map_map]
    have hid : (fun n : Int => UInt8.ofNat n.toNat) ∘ (fun u : UInt8 => (u.toNat : Int)) = id := by funext u; simp
    rw [hid, List.map_id]
  cases ao with
  | none =>
    have hc := h.nil rfl
    have hle := h.le
    obtain rfl : n = 0 := by omega
    obtain rfl : l = [] := List.eq_nil_of_length_eq_zero h.len
    rw [run_convert_bytes_nil w t e hB.ht hB.he 0 cap dst hd]
    rfl
  | some a =>
    have hl : (loadCells a n).run P w = .ok ((l.map fun u => (u.toNat : Int)).map (Value.int .u8)).toArray w := by
      have := run_loadCells_list (P := P) w a (bcs l) (fun j v hj => by
        rw [bcs_get] at hj
        obtain ⟨x, hx, rfl⟩ := Option.map_eq_some_iff.1 hj
        exact h.cell a rfl j x hx)
      rw [bcs_length, h.len] at this
      rw [this]
      simp [bcs, bc, Function.comp_def]
    rw [run_convert_bytes_string w t dst e _ n cap hB.ht hB.he hd, run_bytesToString w _ n cap _ hl, hb]
    simp [ByteArray.empty, ByteArray.emptyWithCapacity]
    rfl

/-- FROM w TO w' ONLY NEW BLOCKS CAME, AND ROW g WAS WRITTEN BEHIND ITS FIRST n CELLS. -/
structure Puts (w w' : World) (g n : Nat) : Prop where
  os : w'.os = w.os
  tape : w'.tape = w.tape
  output : w'.output = w.output
  size : w.heap.size ≤ w'.heap.size
  block : ∀ k, k < w.heap.size → k ≠ g → w'.heap[k]? = w.heap[k]?
  row : ∀ cur t, w.heap[g]? = some (.cells cur t (0, 0)) → ∃ cur', w'.heap[g]? = some (.cells cur' t (0, 0)) ∧ cur'.size = cur.size ∧ cur'.toList.take n = cur.toList.take n

theorem Puts.refl (w : World) (g n : Nat) : Puts w w g n := ⟨rfl, rfl, rfl, Nat.le_refl _, fun _ _ _ => rfl, fun cur _ h => ⟨cur, h, rfl, rfl⟩⟩
theorem Puts.trans {a b c : World} {g n g' n' : Nat} (h : Puts a b g n) (k : Puts b c g' n') (hg : (g' = g ∧ n ≤ n') ∨ (g' ≠ g ∧ a.heap.size ≤ g')) : Puts a c g n := by
  refine ⟨k.os.trans h.os, k.tape.trans h.tape, k.output.trans h.output, Nat.le_trans h.size k.size, fun i hi hne => ?_, fun cur t hc => ?_⟩
  · have hs := h.size
    rw [k.block i (by omega) (by rcases hg with ⟨rfl, _⟩ | ⟨_, hge⟩ <;> omega), h.block i hi hne]
  · obtain ⟨c1, h1, s1, t1⟩ := h.row cur t hc
    rcases hg with ⟨rfl, hn⟩ | ⟨hne, hge⟩
    · obtain ⟨c2, h2, s2, t2⟩ := k.row c1 t h1
      refine ⟨c2, h2, s2.trans s1, ?_⟩
      have e := congrArg (List.take n) t2
      rw [List.take_take, List.take_take, Nat.min_eq_left hn] at e
      rw [e, t1]
    · refine ⟨c1, ?_, s1, t1⟩
      rw [k.block g (Array.getElem?_eq_some_iff.1 h1).1 (Ne.symm hne)]
      exact h1
theorem Puts.alloc {a b : World} {g n : Nat} (h : Puts a b g n) (o : Obj) (hg : g < a.heap.size) : Puts a (b.alloc o) g n := by
  have hs := h.size
  refine ⟨h.os, h.tape, h.output, by simp; omega, fun k hk hne => ?_, fun cur t hc => ?_⟩
  · rw [Below.heap_alloc b o k (by omega), h.block k hk hne]
  · obtain ⟨c1, h1, s1, t1⟩ := h.row cur t hc
    exact ⟨c1, by rw [Below.heap_alloc b o g (by omega)]; exact h1, s1, t1⟩
theorem Puts.drew {a b : World} {g n : Nat} (h : Puts a b g n) : Puts a b.drew g n := ⟨h.os, h.tape, h.output, h.size, h.block, h.row⟩
theorem Puts.below {w w' : World} {g n B : Nat} (h : Puts w w' g n) (hg : B ≤ g) (hB : B ≤ w.heap.size) : Below B w w' :=
  ⟨h.os, h.tape, h.output, h.size, fun k hk => h.block k (by omega) (by omega)⟩
theorem Below.puts {w w' : World} (h : Below w.heap.size w w') (g n : Nat) : Puts w w' g n :=
  ⟨h.os, h.tape, h.output, h.size, fun k hk _ => h.block k hk, fun cur t hc => ⟨cur, by rw [h.block g (Array.getElem?_eq_some_iff.1 hc).1]; exact hc, rfl, rfl⟩⟩

theorem OwnB.puts {w w' : World} {e : TypeId} {g n cap g0 n0 : Nat} {l : List UInt8} (h : OwnB w e g n cap l) (k : Puts w w' g0 n0) (hne : g ≠ g0 ∨ n ≤ n0) : OwnB w' e g n cap l := by
  by_cases hg : g = g0
  · subst hg
    have hn : n ≤ n0 := by omega
    obtain ⟨cur, hc, hs, ht⟩ := h.row
    obtain ⟨c1, h1, s1, t1⟩ := k.row cur e hc
    refine ⟨h.len, h.le, h.max, c1, h1, s1.trans hs, ?_⟩
    have e := congrArg (List.take n) t1
    rw [List.take_take, List.take_take, Nat.min_eq_left hn] at e
    rw [e, ht]
  · exact h.kept (k.block g h.lt hg)
theorem IsB.puts {w w' : World} {g n0 : Nat} {ao : Option Addr} {n cap : Nat} {l : List UInt8} (h : IsB w ao n cap l) (k : Puts w w' g n0) (hne : ∀ a, ao = some a → a.block ≠ g) : IsB w' ao n cap l :=
  ⟨h.len, h.le, h.max, h.nil, fun a ha j u hu => by
    have e : (a.add j).block = a.block := by unfold Addr.add; split <;> rfl
    have hc := h.cell a ha j u hu
    rw [World.cell?_of_block (w := w) (a := a.add j) (k.block _ (World.block_lt_of_cell? w _ hc) (by rw [e]; exact hne a ha))]
    exact hc⟩

/-- One byte in a new block of its own. -/
theorem src_one {P : Program} {t e : TypeId} (ht : P.underlying t = some (.slice e)) (w : World) (v : Value) (b : UInt8) (hv : v = bc b) : Src P 1 t (.slice (some ⟨w.heap.size, 0, none⟩) 1 1) 1 (bcs [b]) (w.alloc (.cells #[v] e)) := by
  refine Src.ofSlice _ ht _ 1 1 (bcs [b]) rfl (fun j u hu => ?_) (bcs_one _)
  match j, hu with
  | 0, hu =>
    rw [Addr.add_lit, cell_of_row _ _ _ _ e (0, 0) (heap_alloc_new w _)]
    simp [bcs] at hu
    simp [hv, hu]
  | j + 1, hu => simp [bcs] at hu
/-- Some bytes in a new block of their own. -/
theorem src_lit {P : Program} {t e : TypeId} (ht : P.underlying t = some (.slice e)) (w : World) (cs : Array Value) (l : List UInt8) (m : Nat) (hv : cs.toList = bcs l) (hm : l.length = m) : Src P 1 t (.slice (some ⟨w.heap.size, 0, none⟩) m m) m (bcs l) (w.alloc (.cells cs e)) := by
  refine Src.ofSlice _ ht _ m m (bcs l) (by rw [bcs_length, hm, Nat.mul_one]) (fun j u hu => ?_) (bcs_one _)
  rw [Addr.add_lit, Nat.zero_add, cell_of_row _ _ _ _ e (0, 0) (heap_alloc_new w _), ← hu, ← hv]
  simp
theorem bc_mod (q : Nat) : Value.int .u8 ((q : Int) % 256) = bc (UInt8.ofNat (q % 256)) := by
  simp only [bc, Value.int.injEq, true_and, UInt8.toNat_ofNat']
  omega

/-- append, TO A ROW OF THE CALL's OWN, OF WHATEVER: the row goes on by what came; what was there reads on as it did. -/
theorem run_append_ob {P : Program} (w : World) (t tx ty e : TypeId) (hB : ByteTy P t e) (g n cap : Nat) (l : List UInt8) (h : OwnB w e g n cap l)
    (x : Value) (m : Nat) (cs : List UInt8) (hs : Src P 1 tx x m (bcs cs) w) (hmax : n + m ≤ 70368744177664) :
    ∃ g' cap' w', (Builtin.append_ #[t, tx] ty #[.slice (some ⟨g, 0, none⟩) n cap, x]).run P w = .ok (.slice (some ⟨g', 0, none⟩) (n + m) cap') w' ∧
      OwnB w' e g' (n + m) cap' (l ++ cs) ∧ Puts w w' g n ∧ (g' = g ∨ w.heap.size ≤ g') := by
  obtain ⟨i, hi, hz, hsize, hby⟩ := hB.info
  have ht := hB.ht
  have hs' : Src P i.size tx x m (bcs cs) w := by rw [hsize]; exact hs
  have hcl : cs.length = m := by have := hs.newsLen; rw [bcs_length, Nat.mul_one] at this; exact this
  obtain ⟨cur, hg, hcs, htake⟩ := h.row
  have hln := h.len
  have hle := h.le
  have hmx := h.max
  have hll : (l ++ cs).length = n + m := by rw [List.length_append, hln, hcl]
  by_cases hroom : n + m ≤ cap
  · have hst := run_storeCells_at P g (n * i.size) e (bcs cs) 0 cur w hg (by rw [hsize, bcs_length]; omega) (bcs_one cs)
    simp only [Nat.add_zero] at hst
    have hr : (Builtin.append_ #[t, tx] ty #[.slice (some ⟨g, 0, none⟩) n cap, x]).run P w =
        .ok (.slice (some ⟨g, 0, none⟩) (n + m) cap) (w.setRow g (cur.toList.take (n * i.size) ++ bcs cs ++ cur.toList.drop (n * i.size + (bcs cs).length)).toArray) := by
      rcases hs'.kind with ⟨e', hk⟩ | hk <;> simp [Builtin.append_, run_underlying ht, run_underlying hk, sizeOf, typeInfo, hi, hs'.len, hroom, hs'.cells, Addr.add_lit, hst]
    have hall : OwnB (w.setRow g (cur.toList.take (n * i.size) ++ bcs cs ++ cur.toList.drop (n * i.size + (bcs cs).length)).toArray) e g (n + m) cap (l ++ cs) := by
      refine ⟨hll, hroom, hmx, _, setRow_heap w g cur _ e _ hg, ?_, ?_⟩
      · simp only [List.size_toArray, List.length_append, List.length_take, List.length_drop, Array.length_toList, bcs_length]
        rw [hsize]
        omega
      · rw [hsize, Nat.mul_one, htake, ← bcs_append]
        show List.take (n + m) (bcs (l ++ cs) ++ _) = _
        rw [← hll, ← bcs_length]
        exact List.take_left
    refine ⟨g, cap, _, hr, hall, ⟨rfl, rfl, rfl, by simp, fun k _ hk => setRow_other w g k _ hk, fun c0 t0 h0 => ?_⟩, .inl rfl⟩
    rw [hg] at h0
    obtain ⟨rfl, rfl⟩ : cur = c0 ∧ e = t0 := by simpa using h0
    refine ⟨_, setRow_heap w g cur _ e _ hg, ?_, ?_⟩
    · simp only [List.size_toArray, List.length_append, List.length_take, List.length_drop, Array.length_toList, bcs_length]
      rw [hsize]
      omega
    · rw [hsize, Nat.mul_one, List.append_assoc]
      show List.take n (List.take n cur.toList ++ _) = _
      rw [List.take_append_of_le_length (by simp; omega), List.take_take, Nat.min_self]
  · have hold : (Builtin.firstCells i.size n (.slice (some ⟨g, 0, none⟩) n cap)).run P w.drew = .ok (bcs l).toArray w.drew :=
      run_firstCells_some w.drew i.size n ⟨g, 0, none⟩ n cap (bcs l) (by rw [bcs_length, hln, hsize, Nat.mul_one]) (fun j u hu => by
        rw [bcs_get] at hu
        obtain ⟨y, hy, rfl⟩ := Option.map_eq_some_iff.1 hu
        rw [Addr.add_lit, Nat.zero_add]
        exact h.drew.cell j y hy)
    have hr := run_append_grow_src (P := P) w t tx ty e i (.int .u8 0) ht hi hz (some ⟨g, 0, none⟩) n cap (bcs l) hold x m (bcs cs) hs' (by omega) (by omega)
      (growslice_fits (by omega) (by rw [hby]; omega))
    have hge := grownCap_ge w (n + m) cap e
    have hcm : grownCap w (n + m) cap e ≤ maxLen := grownCap_le_maxLen w (n + m) cap e (by simp only [maxLen]; omega)
    refine ⟨w.heap.size, grownCap w (n + m) cap e, _, hr, ⟨hll, hge, hcm, _, heap_alloc_new w.drew _, ?_, ?_⟩, Below.puts ((Below.refl _ _).drew.alloc (Nat.le_refl _) _) _ _, .inr (Nat.le_refl _)⟩
    · simp only [Array.size_append, List.size_toArray, size_zeroCells, List.length_append, bcs_length, Value.cells]
      simp
      omega
    · rw [← bcs_append]
      simp only [Array.toList_append]
      rw [← hll, ← bcs_length (l ++ cs)]
      exact List.take_left

/-- The same, as the walk meets it. -/
theorem wpList_append_ob {P : Program} {w : World} {ops : Array Oper} {rest : List Oper} {o : Oper} {a : Act} {Q : Exit → Act → World → Prop} (hgd : o.guard = none) (s x : Operand) (t tx : TypeId)
    (ho : o.op = .call { callee := .builtin .append, args := #[s, x], argTypes := #[t, tx] }) (e : TypeId) (hB : ByteTy P t e) (g n cap : Nat) (l : List UInt8) (hsv : a.eval s = .slice (some ⟨g, 0, none⟩) n cap) (h : OwnB w e g n cap l)
    (X : Value) (hx : a.eval x = X) (m : Nat) (cs : List UInt8) (hs : Src P 1 tx X m (bcs cs) w) (N : Nat) (hN : n + m = N) (L : List UInt8) (hL : l ++ cs = L) (hmax : N ≤ 70368744177664)
    (hK : ∀ g' cap' w', OwnB w' e g' N cap' L → Puts w w' g n → (g' = g ∨ w.heap.size ≤ g') → wpList P ops Q rest (a.put o.dst (.slice (some ⟨g', 0, none⟩) N cap')) w') :
    wpList P ops Q (o :: rest) a w := by
  subst hN
  subst hL
  refine wpList_plain hgd fun K hK' => ?_
  obtain ⟨g', cap', w', hr, h1, h2, h3⟩ := run_append_ob (P := P) w t tx o.type e hB g n cap l h X m cs hs hmax
  unfold Oper.wp execOp
  simp only [ho, resolve, invoke, builtin, Sem.run_bind, Sem.run_pure, Result.andThen_ok, List.map_toArray, List.map_cons, List.map_nil, hsv, hx, hr]
  exact hK' _ _ (hK g' cap' w' h1 h2 h3)

/-- 'make([]byte, 0, N)'. -/
theorem wpList_make_ob {P : Program} {w : World} {ops : Array Oper} {rest : List Oper} {o : Oper} {a : Act} {Q : Exit → Act → World → Prop} (hgd : o.guard = none) (l c : Operand) (t : TypeId)
    (ho : o.op = Op.makeSlice t l c) (e : TypeId) (hB : ByteTy P t e) (kl kc : IntKind) (C : Int) (N : Nat) (hl : a.eval l = .int kl 0) (hc : a.eval c = .int kc C) (hC : C = (N : Int)) (hN : N ≤ 70368744177664)
    (hK : ∀ w', OwnB w' e w.heap.size 0 N [] → Below w.heap.size w w' → wpList P ops Q rest (a.put o.dst (.slice (some ⟨w.heap.size, 0, none⟩) 0 N)) w') :
    wpList P ops Q (o :: rest) a w := by
  obtain ⟨i, hi, hz, hsize, hby⟩ := hB.info
  refine wpList_make_own w hgd l c t ho w.heap.size e i (.int .u8 0) 1 hB.ht hi hz hsize kl kc C N hl hc hC (by rw [hby]; omega) (by simp only [maxLen]; omega) (Nat.le_refl _) fun w' hown hgr => ?_
  refine hK w' ?_ ((Below.refl _ w).grown hgr (Nat.le_refl _) (fun k h => by cases h))
  rcases hown.2 with ⟨h, _⟩ | ⟨g, cap, cur, hv, _, hg, hnc, hcm, hcs, htake⟩
  · cases h
  · simp only [Value.slice.injEq, Option.some.injEq, Addr.mk.injEq, and_true] at hv
    obtain ⟨rfl, _, rfl⟩ := hv
    exact ⟨rfl, Nat.zero_le _, hcm, cur, hg, by rw [hcs, Nat.mul_one], by simp [bcs]⟩

/-- Bytes in a new block. -/
theorem isB_lit (w : World) (cs : Array Value) (e : TypeId) (l : List UInt8) (m : Nat) (hv : cs.toList = bcs l) (hm : l.length = m) (hM : m ≤ 1000000) : IsB (w.alloc (.cells cs e)) (some ⟨w.heap.size, 0, none⟩) m m l :=
  ⟨hm, Nat.le_refl _, by unfold maxLen; omega, (fun h => by cases h), fun a ha j u hu => by
    obtain rfl := Option.some.inj ha
    rw [Addr.add_lit, Nat.zero_add, cell_of_row _ _ _ _ e (0, 0) (heap_alloc_new w _), ← Array.getElem?_toList, hv, bcs_get, hu]
    rfl⟩
/-- A number's k lowest bytes, the lowest first. -/
def le : Nat → Nat → List UInt8
  | 0, _ => []
  | k + 1, x => UInt8.ofNat (x % 256) :: le k (x / 256)
theorem le_length : ∀ k x, (le k x).length = k
  | 0, _ => rfl
  | k + 1, x => by rw [le, List.length_cons, le_length k]
theorem le_snoc : ∀ k x, le (k + 1) x = le k x ++ [UInt8.ofNat (x / 256 ^ k % 256)]
  | 0, x => by simp [le]
  | k + 1, x => by
    rw [le, le_snoc k (x / 256)]
    rw [show le (k + 1) x = UInt8.ofNat (x % 256) :: le k (x / 256) from rfl, List.cons_append, Nat.div_div_eq_div_mul, ← Nat.pow_succ']
end Go.Proofs.YtdmnjjknkcnkgaaDoor
namespace Go.Proofs.YtdmnjjknkcnkgaaDoor
open Go.RowKit

/-- HOW AN ELEMENT LIES IN CELLS. -/
structure Enc (α : Type) where
  sz : Nat
  f : α → List Value
  len : ∀ x, (f x).length = sz
  one : ∀ x, ∀ u ∈ f x, u.oneCell' = true
section
variable {α : Type} (E : Enc α)
def Enc.all (l : List α) : List Value := l.flatMap E.f
theorem Enc.all_nil : E.all [] = [] := rfl
theorem Enc.all_cons (x : α) (l : List α) : E.all (x :: l) = E.f x ++ E.all l := rfl
theorem Enc.all_length (l : List α) : (E.all l).length = l.length * E.sz := by
  induction l with
  | nil => simp [Enc.all]
  | cons x l ih => rw [E.all_cons, List.length_append, ih, E.len, List.length_cons, Nat.succ_mul, Nat.add_comm]
theorem Enc.all_append (a b : List α) : E.all (a ++ b) = E.all a ++ E.all b := by simp [Enc.all]
theorem Enc.all_one (l : List α) : ∀ u ∈ E.all l, u.oneCell' = true := by
  intro u hu
  obtain ⟨x, _, h⟩ := List.mem_flatMap.1 hu
  exact E.one x u h
theorem Enc.all_take : ∀ (l : List α) (n : Nat), (E.all l).take (n * E.sz) = E.all (l.take n)
  | [], n => by simp [Enc.all]
  | x :: l, 0 => by simp [Enc.all]
  | x :: l, n + 1 => by
    rw [E.all_cons, List.take_succ_cons, E.all_cons, ← Enc.all_take l n, Nat.succ_mul, Nat.add_comm, List.take_append, E.len, Nat.add_sub_cancel_left, List.take_of_length_le (by rw [E.len]; omega)]
theorem Enc.all_drop : ∀ (l : List α) (n : Nat), (E.all l).drop (n * E.sz) = E.all (l.drop n)
  | [], n => by simp [Enc.all]
  | x :: l, 0 => by simp [Enc.all]
  | x :: l, n + 1 => by
    rw [E.all_cons, List.drop_succ_cons, ← Enc.all_drop l n, Nat.succ_mul, Nat.add_comm, List.drop_append, E.len, Nat.add_sub_cancel_left, List.drop_of_length_le (by rw [E.len]; omega), List.nil_append]
theorem Enc.all_get : ∀ (l : List α) (i j : Nat) (x : α), l[i]? = some x → j < E.sz → (E.all l)[i * E.sz + j]? = (E.f x)[j]?
  | [], i, j, x, h, _ => by simp at h
  | y :: l, 0, j, x, h, hj => by
    obtain rfl : y = x := by simpa using h
    rw [E.all_cons, Nat.zero_mul, Nat.zero_add, List.getElem?_append_left (by rw [E.len]; exact hj)]
  | y :: l, i + 1, j, x, h, hj => by
    rw [E.all_cons, List.getElem?_append_right (by rw [E.len, Nat.succ_mul]; omega), E.len, Nat.succ_mul, show i * E.sz + E.sz + j - E.sz = i * E.sz + j by omega]
    exact Enc.all_get l i j x (by simpa using h) hj
theorem Enc.all_set (l : List α) (i : Nat) (x : α) (h : i < l.length) : E.all (l.set i x) = (E.all l).take (i * E.sz) ++ E.f x ++ (E.all l).drop ((i + 1) * E.sz) := by
  rw [E.all_take, E.all_drop, List.set_eq_take_append_cons_drop, if_pos h, E.all_append, E.all_cons, List.append_assoc]

/-- The types' facts that the laws want: t is a slice of e, whose zero is 'zero'. -/
structure RowTy (P : Program) (t e : TypeId) (zero : α) : Prop where
  ht : P.underlying t = some (.slice e)
  info : ∃ i z, P.info? e = some i ∧ i.zero = some z ∧ i.size = E.sz ∧ z.cells.toList = E.f zero ∧ i.bytes ≤ 1000
/-- THE SLICE ao, n, cap READS AS THE ELEMENTS l. -/
structure IsR (w : World) (ao : Option Addr) (n cap : Nat) (l : List α) : Prop where
  len : l.length = n
  le : n ≤ cap
  max : cap ≤ maxLen
  nil : ao = none → cap = 0
  cell : ∀ a, ao = some a → ∀ j u, (E.all l)[j]? = some u → w.cell? (a.add j) = some u
/-- THE ROW IN BLOCK g IS THE CALL's OWN AND ITS FIRST n ELEMENTS ARE l. -/
structure OwnR (w : World) (e : TypeId) (g n cap : Nat) (l : List α) : Prop where
  len : l.length = n
  le : n ≤ cap
  max : cap ≤ maxLen
  row : ∃ cur, w.heap[g]? = some (.cells cur e (0, 0)) ∧ cur.size = cap * E.sz ∧ cur.toList.take (n * E.sz) = E.all l
end
section
variable {α : Type} {E : Enc α} {w w' : World} {e : TypeId} {g n cap : Nat} {l : List α} {ao : Option Addr}
theorem IsR.nilR (w : World) : IsR E w none 0 0 [] := ⟨rfl, Nat.le_refl _, Nat.zero_le _, fun _ => rfl, fun a h => by cases h⟩
theorem OwnR.lt (h : OwnR E w e g n cap l) : g < w.heap.size := by
  obtain ⟨cur, hg, _⟩ := h.row
  exact (Array.getElem?_eq_some_iff.1 hg).1
theorem OwnR.cell (h : OwnR E w e g n cap l) (j : Nat) (u : Value) (hu : (E.all l)[j]? = some u) : w.cell? ⟨g, j, none⟩ = some u := by
  obtain ⟨cur, hg, hs, ht⟩ := h.row
  have hj : j < (E.all l).length := (List.getElem?_eq_some_iff.1 hu).1
  rw [E.all_length, h.len] at hj
  rw [cell_of_row w g j cur e (0, 0) hg]
  rw [← ht, List.getElem?_take_of_lt hj] at hu
  simpa using hu
theorem OwnR.isR (h : OwnR E w e g n cap l) : IsR E w (some ⟨g, 0, none⟩) n cap l :=
  ⟨h.len, h.le, h.max, (fun h => by cases h), fun a ha j u hu => by
    obtain rfl := Option.some.inj ha
    rw [Addr.add_lit, Nat.zero_add]
    exact h.cell j u hu⟩
theorem OwnR.kept (h : OwnR E w e g n cap l) (hb : w'.heap[g]? = w.heap[g]?) : OwnR E w' e g n cap l := by
  obtain ⟨cur, hg, hs, ht⟩ := h.row
  exact ⟨h.len, h.le, h.max, cur, by rw [hb]; exact hg, hs, ht⟩
theorem OwnR.grown {row : Option Nat} (h : OwnR E w e g n cap l) (hg : w.grownBy w' row) (hne : some g ≠ row) : OwnR E w' e g n cap l := h.kept (hg.block g h.lt hne)
theorem OwnR.below {B : Nat} (h : OwnR E w e g n cap l) (hb : Below B w w') (hg : g < B) : OwnR E w' e g n cap l := h.kept (hb.block g hg)
theorem OwnR.past (h : OwnR E w e g n cap l) (hb : Below w.heap.size w w') : OwnR E w' e g n cap l := h.below hb h.lt
theorem OwnR.alloc (h : OwnR E w e g n cap l) (o : Obj) : OwnR E (w.alloc o) e g n cap l := h.kept (Below.heap_alloc w o g h.lt)
theorem OwnR.drew (h : OwnR E w e g n cap l) : OwnR E w.drew e g n cap l := ⟨h.len, h.le, h.max, h.row⟩
theorem OwnR.puts {g0 n0 : Nat} (h : OwnR E w e g n cap l) (k : Puts w w' g0 n0) (hne : g ≠ g0) : OwnR E w' e g n cap l := h.kept (k.block g h.lt hne)
theorem IsR.grown {row : Option Nat} (h : IsR E w ao n cap l) (hg : w.grownBy w' row) (hne : ∀ a, ao = some a → some a.block ≠ row) : IsR E w' ao n cap l :=
  ⟨h.len, h.le, h.max, h.nil, fun a ha j u hu => hg.cell (h.cell a ha j u hu) (by
    have e : (a.add j).block = a.block := by unfold Addr.add; split <;> rfl
    rw [e]
    exact hne a ha)⟩
theorem IsR.past (h : IsR E w ao n cap l) (hb : Below w.heap.size w w') : IsR E w' ao n cap l :=
  ⟨h.len, h.le, h.max, h.nil, fun a ha j u hu => by
    have hc := h.cell a ha j u hu
    rw [hb.cell (World.block_lt_of_cell? w _ hc)]
    exact hc⟩
theorem IsR.alloc (h : IsR E w ao n cap l) (o : Obj) : IsR E (w.alloc o) ao n cap l := h.past ((Below.refl _ _).alloc (Nat.le_refl _) o)
theorem IsR.drew (h : IsR E w ao n cap l) : IsR E w.drew ao n cap l := h.past (Below.refl _ _).drew
theorem IsR.src {P : Program} {t : TypeId} (h : IsR E w ao n cap l) (ht : P.underlying t = some (.slice e)) : Src P E.sz t (.slice ao n cap) n (E.all l) w := by
  cases ao with
  | none =>
    have hc := h.nil rfl
    have hle := h.le
    obtain rfl : n = 0 := by omega
    obtain rfl : l = [] := List.eq_nil_of_length_eq_zero h.len
    exact Src.ofNil w ht cap
  | some a => exact Src.ofSlice w ht a n cap (E.all l) (by rw [E.all_length, h.len]) (fun j u hu => h.cell a rfl j u hu) (E.all_one l)
theorem IsR.has (h : IsR E w ao n cap l) (hn : 0 < n) : ∃ a, ao = some a := by
  cases ao with
  | none => have := h.nil rfl; have := h.le; omega
  | some a => exact ⟨a, rfl⟩
/-- A slice that holds something lies in some block, at some place. -/
theorem IsR.open (h : IsR E w ao n cap l) (hn : 0 < n) (hz : 0 < E.sz) : ∃ b off, ao = some ⟨b, off, none⟩ ∧ b < w.heap.size ∧ ∀ j u, (E.all l)[j]? = some u → w.cell? ⟨b, off + j, none⟩ = some u := by
  obtain ⟨⟨b, off, spot⟩, rfl⟩ := h.has hn
  have hc : ∀ j u, (E.all l)[j]? = some u → w.cell? ((⟨b, off, spot⟩ : Addr).add j) = some u := h.cell _ rfl
  have hl : 0 < (E.all l).length := by rw [E.all_length, h.len]; exact Nat.mul_pos hn hz
  have h0 := hc 0 _ (List.getElem?_eq_getElem hl)
  have hspot : spot = none := by simpa [Addr.add] using World.cell?_spot h0
  subst hspot
  refine ⟨b, off, rfl, ?_, fun j u hu => by have := hc j u hu; rwa [Addr.add_lit] at this⟩
  exact World.block_lt_of_cell? w _ h0
/-- A new block that holds a row. -/
theorem OwnR.ofBlk {cs : Array Value} (hb : w.heap[g]? = some (.cells cs e (0, 0))) (hc : cs.toList = E.all l) (hl : l.length = n) (hn : n ≤ 1000000) : OwnR E w e g n n l :=
  ⟨hl, Nat.le_refl _, by unfold maxLen; omega, cs, hb, by rw [← Array.length_toList, hc, E.all_length, hl], by rw [hc, List.take_of_length_le (by rw [E.all_length, hl]; exact Nat.le_refl _)]⟩
/-- append, TO A ROW OF THE CALL's OWN, OF WHATEVER. -/
theorem run_append_or {P : Program} {zero : α} (w : World) (t tx ty e : TypeId) (hB : RowTy E P t e zero) (g n cap : Nat) (l : List α) (h : OwnR E w e g n cap l)
    (x : Value) (m : Nat) (cs : List α) (hs : Src P E.sz tx x m (E.all cs) w) (hcl : cs.length = m) (hmax : n + m ≤ 1000000) :
    ∃ g' cap' w', (Builtin.append_ #[t, tx] ty #[.slice (some ⟨g, 0, none⟩) n cap, x]).run P w = .ok (.slice (some ⟨g', 0, none⟩) (n + m) cap') w' ∧
      OwnR E w' e g' (n + m) cap' (l ++ cs) ∧ Puts w w' g (n * E.sz) ∧ (g' = g ∨ w.heap.size ≤ g') := by
  obtain ⟨i, z, hi, hz, hsize, hzc, hby⟩ := hB.info
  have ht := hB.ht
  have hs' : Src P i.size tx x m (E.all cs) w := by rw [hsize]; exact hs
  obtain ⟨cur, hg, hcs, htake⟩ := h.row
  have hln := h.len
  have hle := h.le
  have hmx := h.max
  have hll : (l ++ cs).length = n + m := by rw [List.length_append, hln, hcl]
  have hal := E.all_length cs
  rw [hcl] at hal
  by_cases hroom : n + m ≤ cap
  · have hsm : n * E.sz + m * E.sz ≤ cap * E.sz := by rw [← Nat.add_mul]; exact Nat.mul_le_mul_right _ hroom
    have hst := run_storeCells_at P g (n * i.size) e (E.all cs) 0 cur w hg (by rw [hsize, hal]; omega) (E.all_one cs)
    simp only [Nat.add_zero] at hst
    have hr : (Builtin.append_ #[t, tx] ty #[.slice (some ⟨g, 0, none⟩) n cap, x]).run P w =
        .ok (.slice (some ⟨g, 0, none⟩) (n + m) cap) (w.setRow g (cur.toList.take (n * i.size) ++ E.all cs ++ cur.toList.drop (n * i.size + (E.all cs).length)).toArray) := by
      rcases hs'.kind with ⟨e', hk⟩ | hk <;> simp [Builtin.append_, run_underlying ht, run_underlying hk, sizeOf, typeInfo, hi, hs'.len, hroom, hs'.cells, Addr.add_lit, hst]
    have hsz : ((cur.toList.take (n * i.size) ++ E.all cs ++ cur.toList.drop (n * i.size + (E.all cs).length)).toArray).size = cap * E.sz := by
      simp only [List.size_toArray, List.length_append, List.length_take, List.length_drop, Array.length_toList, hal]
      rw [hsize]
      omega
    have hall : OwnR E (w.setRow g (cur.toList.take (n * i.size) ++ E.all cs ++ cur.toList.drop (n * i.size + (E.all cs).length)).toArray) e g (n + m) cap (l ++ cs) := by
      refine ⟨hll, hroom, hmx, _, setRow_heap w g cur _ e _ hg, hsz, ?_⟩
      rw [hsize, htake, ← E.all_append]
      show List.take ((n + m) * E.sz) (E.all (l ++ cs) ++ _) = _
      rw [← hll, ← E.all_length]
      exact List.take_left
    refine ⟨g, cap, _, hr, hall, ⟨rfl, rfl, rfl, by simp, fun k _ hk => setRow_other w g k _ hk, fun c0 t0 h0 => ?_⟩, .inl rfl⟩
    rw [hg] at h0
    obtain ⟨rfl, rfl⟩ : cur = c0 ∧ e = t0 := by simpa using h0
    refine ⟨_, setRow_heap w g cur _ e _ hg, by rw [hsz, hcs], ?_⟩
    rw [hsize, List.append_assoc]
    show List.take (n * E.sz) (List.take (n * E.sz) cur.toList ++ _) = _
    rw [List.take_append_of_le_length (by simp; omega), List.take_take, Nat.min_self]
  · have hold : (Builtin.firstCells i.size n (.slice (some ⟨g, 0, none⟩) n cap)).run P w.drew = .ok (E.all l).toArray w.drew :=
      run_firstCells_some w.drew i.size n ⟨g, 0, none⟩ n cap (E.all l) (by rw [E.all_length, hln, hsize]) (fun j u hu => by
        rw [Addr.add_lit, Nat.zero_add]
        exact h.drew.cell j u hu)
    have hr := run_append_grow_src (P := P) w t tx ty e i z ht hi hz (some ⟨g, 0, none⟩) n cap (E.all l) hold x m (E.all cs) hs' (by omega) (by omega)
      (growslice_fits (by omega) (Nat.le_trans (Nat.mul_le_mul hmax hby) (by omega)))
    have hge := grownCap_ge w (n + m) cap e
    have hcm : grownCap w (n + m) cap e ≤ maxLen := grownCap_le_maxLen w (n + m) cap e (by simp only [maxLen]; omega)
    have hzl : z.cells.size = E.sz := by rw [← Array.length_toList, hzc, E.len]
    refine ⟨w.heap.size, grownCap w (n + m) cap e, _, hr, ⟨hll, hge, hcm, _, heap_alloc_new w.drew _, ?_, ?_⟩, Below.puts ((Below.refl _ _).drew.alloc (Nat.le_refl _) _) _ _, .inr (Nat.le_refl _)⟩
    · simp only [Array.size_append, List.size_toArray, size_zeroCells, List.length_append, hzl, hal, E.all_length, hln]
      rw [← Nat.add_mul, ← Nat.add_mul]
      congr 1
      omega
    · rw [← E.all_append]
      simp only [Array.toList_append]
      rw [← hll, ← E.all_length (l ++ cs)]
      exact List.take_left
/-- The same, as the walk meets it. -/
theorem wpList_append_or {P : Program} {zero : α} {ops : Array Oper} {rest : List Oper} {o : Oper} {a : Act} {Q : Exit → Act → World → Prop} (hgd : o.guard = none) (s x : Operand) (t tx : TypeId)
    (ho : o.op = .call { callee := .builtin .append, args := #[s, x], argTypes := #[t, tx] }) (e : TypeId) (hB : RowTy E P t e zero) (g n cap : Nat) (l : List α) (hsv : a.eval s = .slice (some ⟨g, 0, none⟩) n cap) (h : OwnR E w e g n cap l)
    (X : Value) (hx : a.eval x = X) (m : Nat) (cs : List α) (hs : Src P E.sz tx X m (E.all cs) w) (hcl : cs.length = m) (N : Nat) (hN : n + m = N) (L : List α) (hL : l ++ cs = L) (hmax : N ≤ 1000000)
    (hK : ∀ g' cap' w', OwnR E w' e g' N cap' L → Puts w w' g (n * E.sz) → (g' = g ∨ w.heap.size ≤ g') → wpList P ops Q rest (a.put o.dst (.slice (some ⟨g', 0, none⟩) N cap')) w') :
    wpList P ops Q (o :: rest) a w := by
  subst hN
  subst hL
  refine wpList_plain hgd fun K hK' => ?_
  obtain ⟨g', cap', w', hr, h1, h2, h3⟩ := run_append_or (P := P) w t tx o.type e hB g n cap l h X m cs hs hcl hmax
  unfold Oper.wp execOp
  simp only [ho, resolve, invoke, builtin, Sem.run_bind, Sem.run_pure, Result.andThen_ok, List.map_toArray, List.map_cons, List.map_nil, hsv, hx, hr]
  exact hK' _ _ (hK g' cap' w' h1 h2 h3)
/-- append to nil, of something. -/
theorem run_append_nr {P : Program} {zero : α} (w : World) (t tx ty e : TypeId) (hB : RowTy E P t e zero) (c : Nat) (hc : c = 0)
    (x : Value) (m : Nat) (cs : List α) (hs : Src P E.sz tx x m (E.all cs) w) (hcl : cs.length = m) (hpos : 0 < m) (hmax : m ≤ 1000000) :
    ∃ cap' w', (Builtin.append_ #[t, tx] ty #[.slice none 0 c, x]).run P w = .ok (.slice (some ⟨w.heap.size, 0, none⟩) m cap') w' ∧
      OwnR E w' e w.heap.size m cap' cs ∧ Below w.heap.size w w' := by
  subst hc
  obtain ⟨i, z, hi, hz, hsize, hzc, hby⟩ := hB.info
  have ht := hB.ht
  have hs' : Src P i.size tx x m (E.all cs) w := by rw [hsize]; exact hs
  have hal := E.all_length cs
  rw [hcl] at hal
  have hr := run_append_grow_src (P := P) w t tx ty e i z ht hi hz none 0 0 [] (run_firstCells_none w.drew i.size 0 0 0) x m (E.all cs) hs' (by omega) (by omega)
    (growslice_fits (by omega) (Nat.le_trans (Nat.mul_le_mul (show 0 + m ≤ 1000000 by omega) hby) (by omega)))
  simp only [Nat.zero_add, List.nil_append] at hr
  have hge := grownCap_ge w m 0 e
  have hcm : grownCap w m 0 e ≤ maxLen := grownCap_le_maxLen w m 0 e (by simp only [maxLen]; omega)
  have hzl : z.cells.size = E.sz := by rw [← Array.length_toList, hzc, E.len]
  refine ⟨grownCap w m 0 e, _, hr, ⟨hcl, hge, hcm, _, heap_alloc_new w.drew _, ?_, ?_⟩, (Below.refl _ _).drew.alloc (Nat.le_refl _) _⟩
  · simp only [Array.size_append, List.size_toArray, size_zeroCells, hzl, hal]
    rw [← Nat.add_mul]
    congr 1
    omega
  · simp only [Array.toList_append]
    rw [← hal]
    exact List.take_left
theorem wpList_append_nr {P : Program} {zero : α} {ops : Array Oper} {rest : List Oper} {o : Oper} {a : Act} {Q : Exit → Act → World → Prop} (hgd : o.guard = none) (s x : Operand) (t tx : TypeId)
    (ho : o.op = .call { callee := .builtin .append, args := #[s, x], argTypes := #[t, tx] }) (e : TypeId) (hB : RowTy E P t e zero) (c : Nat) (hc : c = 0) (hsv : a.eval s = .slice none 0 c)
    (X : Value) (hx : a.eval x = X) (m : Nat) (cs : List α) (hs : Src P E.sz tx X m (E.all cs) w) (hcl : cs.length = m) (hpos : 0 < m) (hmax : m ≤ 1000000)
    (hK : ∀ g' cap' w', OwnR E w' e g' m cap' cs → Below w.heap.size w w' → w.heap.size ≤ g' → wpList P ops Q rest (a.put o.dst (.slice (some ⟨g', 0, none⟩) m cap')) w') :
    wpList P ops Q (o :: rest) a w := by
  refine wpList_plain hgd fun K hK' => ?_
  obtain ⟨cap', w', hr, h1, h2⟩ := run_append_nr (P := P) w t tx o.type e hB c hc X m cs hs hcl hpos hmax
  unfold Oper.wp execOp
  simp only [ho, resolve, invoke, builtin, Sem.run_bind, Sem.run_pure, Result.andThen_ok, List.map_toArray, List.map_cons, List.map_nil, hsv, hx, hr]
  exact hK' _ _ (hK _ cap' w' h1 h2 (Nat.le_refl _))
/-- 'make([]T, N)'. -/
theorem wpList_make_or {P : Program} {zero : α} {ops : Array Oper} {rest : List Oper} {o : Oper} {a : Act} {Q : Exit → Act → World → Prop} (hgd : o.guard = none) (x c : Operand) (t : TypeId)
    (ho : o.op = Op.makeSlice t x c) (e : TypeId) (hB : RowTy E P t e zero) (kl kc : IntKind) (L C : Int) (N : Nat) (hl : a.eval x = .int kl L) (hc : a.eval c = .int kc C) (hL : L = (N : Int)) (hC : C = (N : Int)) (hN : N ≤ 1000000)
    (hK : ∀ w', OwnR E w' e w.heap.size N N (List.replicate N zero) → Below w.heap.size w w' → wpList P ops Q rest (a.put o.dst (.slice (some ⟨w.heap.size, 0, none⟩) N N)) w') :
    wpList P ops Q (o :: rest) a w := by
  obtain ⟨i, z, hi, hz, hsize, hzc, hby⟩ := hB.info
  refine wpList_make_full w hgd x c t ho w.heap.size e i z E.sz hB.ht hi hz hsize kl kc L C N hl hc hL hC (Nat.le_trans (Nat.mul_le_mul hby hN) (by omega)) (by simp only [maxLen]; omega) (Nat.le_refl _) fun w' hown hgr => ?_
  refine hK w' ?_ ((Below.refl _ w).grown hgr (Nat.le_refl _) (fun k h => by cases h))
  have hm : (madeCells z.cells (N * E.sz)).toList = E.all (List.replicate N zero) := by
    have hzl : z.cells.size = E.sz := by rw [← Array.length_toList, hzc, E.len]
    apply List.ext_getElem (by simp [madeCells, E.all_length])
    intro q h1 h2
    have hq : q < N * E.sz := by simpa [madeCells] using h1
    have hs : 0 < E.sz := by
      rcases Nat.eq_zero_or_pos E.sz with h | h
      · rw [h] at hq; omega
      · exact h
    have hj := Nat.mod_lt q hs
    have g := E.all_get (List.replicate N zero) (q / E.sz) (q % E.sz) zero (by rw [List.getElem?_replicate, if_pos ((Nat.div_lt_iff_lt_mul hs).2 hq)]) hj
    rw [Nat.div_add_mod' q E.sz, ← hzc, List.getElem?_eq_getElem h2, Array.getElem?_toList, Array.getElem?_eq_getElem (by rw [hzl]; exact hj)] at g
    rw [Option.some.inj g]
    simp [madeCells, hzl, hj]
  rw [hm] at hown
  rcases hown.2 with ⟨h, _⟩ | ⟨g, cap, cur, hv, _, hg, hnc, hcm, hcs, htake⟩
  · cases h
  · simp only [Value.slice.injEq, Option.some.injEq, Addr.mk.injEq, and_true] at hv
    obtain ⟨rfl, _, rfl⟩ := hv
    exact ⟨by simp, Nat.le_refl _, hcm, cur, hg, hcs, htake⟩
end
end Go.Proofs.YtdmnjjknkcnkgaaDoor
namespace Go.Proofs.YtdmnjjknkcnkgaaDoor
open Go.RowKit

/-- A slice's header. -/
structure HdR where
  a : Option Addr
  n : Nat
  c : Nat
def HdR.v (h : HdR) : Value := .slice h.a h.n h.c
def EH : Enc HdR := ⟨1, fun h => [h.v], fun _ => rfl, fun x u hu => by
  obtain rfl := List.mem_singleton.1 hu
  rfl⟩
theorem EH_get : ∀ (hs : List HdR) (j : Nat), (EH.all hs)[j]? = hs[j]?.map HdR.v
  | [], j => rfl
  | h :: hs, 0 => rfl
  | h :: hs, j + 1 => by rw [Enc.all_cons]; exact EH_get hs j
/-- The headers hs read as the rows ls. -/
def Rd {α : Type} (E : Enc α) (w : World) (hs : List HdR) (ls : List (List α)) : Prop :=
  hs.length = ls.length ∧ ∀ (j : Nat) (h : HdR) (l : List α), hs[j]? = some h → ls[j]? = some l → IsR E w h.a h.n h.c l
/-- All of it lies in blocks from B on. -/
def Frm (B : Nat) (ao : Option Addr) : Prop := ∀ a, ao = some a → B ≤ a.block
def FrmH (B : Nat) (hs : List HdR) : Prop := ∀ h ∈ hs, Frm B h.a
section
variable {α : Type} {E : Enc α} {w w' : World} {hs hs' : List HdR} {ls ls' : List (List α)} {B : Nat}
theorem Rd.past (h : Rd E w hs ls) (b : Below w.heap.size w w') : Rd E w' hs ls := ⟨h.1, fun j x l hx hl => (h.2 j x l hx hl).past b⟩
theorem Rd.nil : Rd E w [] [] := ⟨rfl, fun j x l hx _ => by simp at hx⟩
theorem Rd.append (h : Rd E w hs ls) (k : Rd E w hs' ls') : Rd E w (hs ++ hs') (ls ++ ls') := by
  refine ⟨by simp [h.1, k.1], fun j x l hx hl => ?_⟩
  by_cases hj : j < hs.length
  · rw [List.getElem?_append_left hj] at hx
    rw [List.getElem?_append_left (by rw [← h.1]; exact hj)] at hl
    exact h.2 j x l hx hl
  · rw [List.getElem?_append_right (by omega)] at hx
    rw [List.getElem?_append_right (by rw [← h.1]; omega), ← h.1] at hl
    exact k.2 _ x l hx hl
theorem Rd.one {x : HdR} {l : List α} (h : IsR E w x.a x.n x.c l) : Rd E w [x] [l] := by
  refine ⟨rfl, fun j y m hy hm => ?_⟩
  cases j with
  | zero =>
    obtain rfl : x = y := by simpa using hy
    obtain rfl : l = m := by simpa using hm
    exact h
  | succ j => simp at hy
theorem Rd.take (h : Rd E w hs ls) (n : Nat) : Rd E w (hs.take n) (ls.take n) := by
  refine ⟨by simp [h.1], fun j x l hx hl => ?_⟩
  rw [List.getElem?_take] at hx hl
  split at hx
  · rw [if_pos (by assumption)] at hl
    exact h.2 j x l hx hl
  · cases hx
theorem Rd.drop (h : Rd E w hs ls) (n : Nat) : Rd E w (hs.drop n) (ls.drop n) := by
  refine ⟨by simp [h.1], fun j x l hx hl => ?_⟩
  rw [List.getElem?_drop] at hx hl
  exact h.2 _ x l hx hl
/-- A header's length is its row's. -/
theorem Rd.len (h : Rd E w hs ls) {j : Nat} {x : HdR} {l : List α} (hx : hs[j]? = some x) (hl : ls[j]? = some l) : l.length = x.n := (h.2 j x l hx hl).len
theorem Frm.mono {B' : Nat} {ao : Option Addr} (h : Frm B ao) (hb : B' ≤ B) : Frm B' ao := fun a ha => Nat.le_trans hb (h a ha)
theorem FrmH.mono {B' : Nat} (h : FrmH B hs) (hb : B' ≤ B) : FrmH B' hs := fun x hx => (h x hx).mono hb
end
/-- THE SLICE ao, n, c OF SLICES READS AS THE ROWS ls, AND LIES IN BLOCKS FROM B ON. -/
def IsRR {α : Type} (E : Enc α) (w : World) (B : Nat) (ao : Option Addr) (n c : Nat) (ls : List (List α)) : Prop :=
  ∃ hs, IsR EH w ao n c hs ∧ Rd E w hs ls ∧ Frm B ao ∧ FrmH B hs
section
variable {α : Type} {E : Enc α} {w w' : World} {B : Nat} {ao : Option Addr} {n c : Nat} {ls : List (List α)}
theorem IsRR.past (h : IsRR E w B ao n c ls) (b : Below w.heap.size w w') : IsRR E w' B ao n c ls := by
  obtain ⟨hs, h1, h2, h3⟩ := h
  exact ⟨hs, h1.past b, h2.past b, h3⟩
theorem IsRR.mono {B' : Nat} (h : IsRR E w B ao n c ls) (hb : B' ≤ B) : IsRR E w B' ao n c ls := by
  obtain ⟨hs, h1, h2, h3, h4⟩ := h
  exact ⟨hs, h1, h2, h3.mono hb, h4.mono hb⟩
theorem IsRR.len (h : IsRR E w B ao n c ls) : ls.length = n := by
  obtain ⟨hs, h1, h2, _⟩ := h
  rw [← h2.1]
  exact h1.len
theorem IsRR.nil (w : World) (B : Nat) : IsRR E w B none 0 0 [] := ⟨[], IsR.nilR w, Rd.nil, (show Frm B none from fun a h => by cases h), (show FrmH B [] from fun h hx => by cases hx)⟩
/-- The header at place j, in its cell. -/
theorem IsRR.at (h : IsRR E w B ao n c ls) {j : Nat} {l : List α} (hl : ls[j]? = some l) :
    ∃ (b off : Nat) (x : HdR), ao = some ⟨b, off, none⟩ ∧ b < w.heap.size ∧ w.cell? ⟨b, off + j, none⟩ = some (.slice x.a x.n x.c) ∧ IsR E w x.a x.n x.c l := by
  obtain ⟨hs, h1, h2, _⟩ := h
  have hj := (List.getElem?_eq_some_iff.1 hl).1
  have hn : 0 < n := by have := h1.len; have := h2.1; omega
  obtain ⟨x, hx⟩ : ∃ x, hs[j]? = some x := ⟨hs[j]'(by rw [h2.1]; exact hj), List.getElem?_eq_getElem _⟩
  obtain ⟨b, off, rfl, hb, hc⟩ := h1.open hn (by decide)
  exact ⟨b, off, x, rfl, hb, hc j _ (by rw [EH_get, hx]; rfl), h2.2 j x l hx hl⟩
end
end Go.Proofs.YtdmnjjknkcnkgaaDoor
namespace Go.Proofs.YtdmnjjknkcnkgaaDoor
open Go.RowKit

theorem cell_blk {w : World} {g i : Nat} {cur : Array Value} {t : TypeId} {v : Value} (h : w.heap[g]? = some (.cells cur t (0, 0))) (hv : cur[i]? = some v) : w.cell? ⟨g, i, none⟩ = some v := by
  rw [cell_of_row w g i cur t (0, 0) h]; exact hv
theorem free_blk {w : World} {g i : Nat} {cur : Array Value} {t : TypeId} (h : w.heap[g]? = some (.cells cur t (0, 0))) : w.frozen? ⟨g, i, none⟩ = false := by
  simp [World.frozen?, h]

theorem heap_setCell_same {w : World} {g i : Nat} {cur : Array Value} {t : TypeId} {v : Value} (h : w.heap[g]? = some (.cells cur t (0, 0))) : (w.setCell ⟨g, i, none⟩ v).heap[g]? = some (.cells (cur.setIfInBounds i v) t (0, 0)) := by
  rw [setCell_eq_setRow w g i cur t (0, 0) v h]
  exact setRow_heap w g cur _ t _ h

theorem grown_below {w a : World} {g B : Nat} (h : w.grownBy a (some g)) (hg : B ≤ g) (hB : B ≤ w.heap.size) : Below B w a :=
  ⟨h.os, h.tape, h.output, h.size, fun k hk => h.block k (by omega) (fun e => by have := Option.some.inj e; omega)⟩
theorem below_grown {w a : World} (r : Option Nat) (h : Below w.heap.size w a) : w.grownBy a r := ⟨h.os, h.tape, h.output, h.size, fun k hk _ => h.block k hk⟩
end Go.Proofs.YtdmnjjknkcnkgaaDoor
