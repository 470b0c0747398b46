/-
  What a slice of bytes holds, over any program: a slice that can be read ('IsB'), a row of the call's own ('OwnB'), and one law for append to such a row, whatever is appended.
-/
import Derived.WalkKit
import Derived.WalkSpells
import Derived.WalkLawsBesides
import Derived.Deep.AppendSrc
import Derived.Lib.Hide
import Derived.Lib.SlBytesRow
namespace Go.Proofs.Ytllijeciodmckaa
open Go.RowKit

/-- The cell of a byte. -/
def bc (u : UInt8) : Value := .int .u8 (u.toNat : Int)
def bcs (l : List UInt8) : List Value := l.map bc

theorem bcs_length (l : List UInt8) : (bcs l).length = l.length := by simp [bcs]
theorem bcs_append (a b : List UInt8) : bcs (a ++ b) = bcs a ++ bcs b := by simp [bcs]
theorem bcs_inj : ∀ {a b : List UInt8}, bcs a = bcs b → a = b
  | [], [], _ => rfl
  | [], _ :: _, h => by simp [bcs] at h
  | _ :: _, [], h => by simp [bcs] at h
  | x :: a, y :: b, h => by
    simp only [bcs, List.map_cons, List.cons.injEq, bc, Value.int.injEq, true_and] at h
    have h1 : x = y := UInt8.toNat_inj.1 (by omega)
    rw [h1, bcs_inj (a := a) (b := b) h.2]
theorem bcs_get (l : List UInt8) (j : Nat) : (bcs l)[j]? = (l[j]?).map bc := by simp [bcs]
theorem bcs_one (l : List UInt8) : ∀ u ∈ bcs l, u.oneCell' = true := by
  intro u hu
  obtain ⟨x, _, rfl⟩ := List.mem_map.1 hu
  rfl
theorem bcs_take (l : List UInt8) (n : Nat) : (bcs l).take n = bcs (l.take n) := by simp [bcs]
theorem byteCells_bcs (s : ByteArray) : byteCells s = bcs s.data.toList := rfl

/-- The types' facts that the laws want: t is a slice of e, e holds bytes. -/
structure ByteTy (P : Program) (t e : TypeId) : Prop where
  ht : P.underlying t = some (.slice e)
  he : P.underlying e = some (.int .u8)
  info : ∃ i, P.info? e = some i ∧ i.zero = some (.int .u8 0) ∧ i.size = 1 ∧ i.bytes = 1

/-- THE SLICE ao, n, cap READS AS THE BYTES l. -/
structure IsB (w : World) (ao : Option Addr) (n cap : Nat) (l : List UInt8) : Prop where
  len : l.length = n
  le : n ≤ cap
  max : cap ≤ maxLen
  nil : ao = none → cap = 0
  cell : ∀ a, ao = some a → ∀ j u, l[j]? = some u → w.cell? (a.add j) = some (bc u)

/-- THE ROW IN BLOCK g IS THE CALL's OWN AND ITS FIRST n CELLS HOLD THE BYTES l. -/
structure OwnB (w : World) (e : TypeId) (g n cap : Nat) (l : List UInt8) : Prop where
  len : l.length = n
  le : n ≤ cap
  max : cap ≤ maxLen
  row : ∃ cur, w.heap[g]? = some (.cells cur e (0, 0)) ∧ cur.size = cap ∧ cur.toList.take n = bcs l

theorem IsB.nilB (w : World) : IsB w none 0 0 [] := ⟨rfl, Nat.le_refl _, Nat.zero_le _, fun _ => rfl, fun a h => by cases h⟩

theorem OwnB.lt {w : World} {e : TypeId} {g n cap : Nat} {l : List UInt8} (h : OwnB w e g n cap l) : g < w.heap.size := by
  obtain ⟨cur, hg, _⟩ := h.row
  exact (Array.getElem?_eq_some_iff.1 hg).1

theorem OwnB.cell {w : World} {e : TypeId} {g n cap : Nat} {l : List UInt8} (h : OwnB w e g n cap l) (j : Nat) (u : UInt8) (hu : l[j]? = some u) : w.cell? ⟨g, j, none⟩ = some (bc u) := by
  obtain ⟨cur, hg, hs, ht⟩ := h.row
  have hj : j < l.length := (List.getElem?_eq_some_iff.1 hu).1
  have hl := h.len
  rw [cell_of_row w g j cur e (0, 0) hg]
  have h1 : (bcs l)[j]? = some (bc u) := by rw [bcs_get, hu]; rfl
  rw [← ht, List.getElem?_take_of_lt (by omega)] at h1
  simpa using h1

theorem OwnB.isB {w : World} {e : TypeId} {g n cap : Nat} {l : List UInt8} (h : OwnB w e g n cap l) : IsB w (some ⟨g, 0, none⟩) n cap l :=
  ⟨h.len, h.le, h.max, (fun h => by cases h), fun a ha j u hu => by
    obtain rfl := Option.some.inj ha
    rw [Addr.add_lit, Nat.zero_add]
    exact h.cell j u hu⟩

theorem OwnB.kept {w w' : World} {e : TypeId} {g n cap : Nat} {l : List UInt8} (h : OwnB w e g n cap l) (hb : w'.heap[g]? = w.heap[g]?) : OwnB w' e g n cap l := by
  obtain ⟨cur, hg, hs, ht⟩ := h.row
  exact ⟨h.len, h.le, h.max, cur, by rw [hb]; exact hg, hs, ht⟩
theorem OwnB.grown {w w' : World} {row : Option Nat} {e : TypeId} {g n cap : Nat} {l : List UInt8} (h : OwnB w e g n cap l) (hg : w.grownBy w' row) (hne : some g ≠ row) : OwnB w' e g n cap l :=
  h.kept (hg.block g h.lt hne)
theorem OwnB.below {w w' : World} {B : Nat} {e : TypeId} {g n cap : Nat} {l : List UInt8} (h : OwnB w e g n cap l) (hb : Below B w w') (hg : g < B) : OwnB w' e g n cap l :=
  h.kept (hb.block g hg)
theorem OwnB.alloc {w : World} {e : TypeId} {g n cap : Nat} {l : List UInt8} (h : OwnB w e g n cap l) (o : Obj) : OwnB (w.alloc o) e g n cap l :=
  h.kept (Below.heap_alloc w o g h.lt)
theorem OwnB.drew {w : World} {e : TypeId} {g n cap : Nat} {l : List UInt8} (h : OwnB w e g n cap l) : OwnB w.drew e g n cap l := ⟨h.len, h.le, h.max, h.row⟩

theorem OwnB.front {w : World} {e : TypeId} {g n cap : Nat} {a b : List UInt8} (h : OwnB w e g n cap (a ++ b)) : OwnB w e g a.length cap a := by
  obtain ⟨cur, hg, hs, ht⟩ := h.row
  have hl := h.len
  have hle := h.le
  rw [List.length_append] at hl
  refine ⟨rfl, by omega, h.max, cur, hg, hs, ?_⟩
  have h2 := congrArg (List.take a.length) ht
  rw [List.take_take, Nat.min_eq_left (by omega)] at h2
  rw [h2, bcs_take, List.take_left]

theorem IsB.grown {w w' : World} {row : Option Nat} {ao : Option Addr} {n cap : Nat} {l : List UInt8} (h : IsB w ao n cap l) (hg : w.grownBy w' row) (hne : ∀ a, ao = some a → some a.block ≠ row) : IsB w' ao n cap l :=
  ⟨h.len, h.le, h.max, h.nil, fun a ha j u hu => hg.cell (h.cell a ha j u hu) (by
    have e : (a.add j).block = a.block := by unfold Addr.add; split <;> rfl
    rw [e]
    exact hne a ha)⟩
theorem IsB.below {w w' : World} {B : Nat} {ao : Option Addr} {n cap : Nat} {l : List UInt8} (h : IsB w ao n cap l) (hb : Below B w w') (hlt : ∀ a, ao = some a → a.block < B) : IsB w' ao n cap l :=
  ⟨h.len, h.le, h.max, h.nil, fun a ha j u hu => by
    have e : (a.add j).block = a.block := by unfold Addr.add; split <;> rfl
    rw [hb.cell (by rw [e]; exact hlt a ha)]
    exact h.cell a ha j u hu⟩
/-- What was there when the call began reads as it did. -/
theorem IsB.past {w w' : World} {ao : Option Addr} {n cap : Nat} {l : List UInt8} (h : IsB w ao n cap l) (hb : Below w.heap.size w w') : IsB w' ao n cap l :=
  ⟨h.len, h.le, h.max, h.nil, fun a ha j u hu => by
    have hc := h.cell a ha j u hu
    rw [hb.cell (World.block_lt_of_cell? w _ hc)]
    exact hc⟩
theorem IsB.alloc {w : World} {ao : Option Addr} {n cap : Nat} {l : List UInt8} (h : IsB w ao n cap l) (o : Obj) : IsB (w.alloc o) ao n cap l :=
  h.past ((Below.refl _ _).alloc (Nat.le_refl _) o)
theorem IsB.drew {w : World} {ao : Option Addr} {n cap : Nat} {l : List UInt8} (h : IsB w ao n cap l) : IsB w.drew ao n cap l := h.past (Below.refl _ _).drew

theorem IsB.src {P : Program} {w : World} {ao : Option Addr} {n cap : Nat} {l : List UInt8} {t e : TypeId} (h : IsB w ao n cap l) (ht : P.underlying t = some (.slice e)) : Src P 1 t (.slice ao n cap) n (bcs l) w := by
  cases ao with
  | none =>
    have hc := h.nil rfl
    have hle := h.le
    obtain rfl : n = 0 := by omega
    obtain rfl : l = [] := List.eq_nil_of_length_eq_zero h.len
    exact Src.ofNil w ht cap
  | some a =>
    refine Src.ofSlice w ht a n cap (bcs l) (by rw [bcs_length, h.len, Nat.mul_one]) (fun j u hu => ?_) (bcs_one l)
    rw [bcs_get] at hu
    obtain ⟨x, hx, rfl⟩ := Option.map_eq_some_iff.1 hu
    exact h.cell a rfl j x hx

/-- 'string(b)'. -/
theorem IsB.conv {P : Program} {w : World} {ao : Option Addr} {n cap : Nat} {l : List UInt8} {t e dst : TypeId} (h : IsB w ao n cap l) (hB : ByteTy P t e) (hd : P.underlying dst = some .string) :
    (convert t dst (.slice ao n cap)).run P w = .ok (.string ⟨l.toArray⟩) w := by
  have hb : ∀ (xs : List UInt8) (s : ByteArray), (xs.map fun u => (u.toNat : Int)).foldl (fun r m => r.push (UInt8.ofNat m.toNat)) s = ⟨s.data ++ xs.toArray⟩ := by
    intro xs s
    rw [foldl_push_bytes, List.map_map]
    have hid : (fun n : Int => UInt8.ofNat n.toNat) ∘ (fun u : UInt8 => (u.toNat : Int)) = id := by funext u; simp
    rw [hid, List.map_id]
  cases ao with
  | none =>
    have hc := h.nil rfl
    have hle := h.le
    obtain rfl : n = 0 := by omega
    obtain rfl : l = [] := List.eq_nil_of_length_eq_zero h.len
    rw [run_convert_bytes_nil w t e hB.ht hB.he 0 cap dst hd]
    rfl
  | some a =>
    have hl : (loadCells a n).run P w = .ok ((l.map fun u => (u.toNat : Int)).map (Value.int .u8)).toArray w := by
      have := run_loadCells_list (P := P) w a (bcs l) (fun j v hj => by
        rw [bcs_get] at hj
        obtain ⟨x, hx, rfl⟩ := Option.map_eq_some_iff.1 hj
        exact h.cell a rfl j x hx)
      rw [bcs_length, h.len] at this
      rw [this]
      simp [bcs, bc, Function.comp_def]
    rw [run_convert_bytes_string w t dst e _ n cap hB.ht hB.he hd, run_bytesToString w _ n cap _ hl, hb]
    simp [ByteArray.empty, ByteArray.emptyWithCapacity]
    rfl

/-- FROM w TO w' ONLY NEW BLOCKS CAME, AND ROW g WAS WRITTEN BEHIND ITS FIRST n CELLS. -/
structure Puts (w w' : World) (g n : Nat) : Prop where
  os : w'.os = w.os
  tape : w'.tape = w.tape
  output : w'.output = w.output
  size : w.heap.size ≤ w'.heap.size
  block : ∀ k, k < w.heap.size → k ≠ g → w'.heap[k]? = w.heap[k]?
  row : ∀ cur t, w.heap[g]? = some (.cells cur t (0, 0)) → ∃ cur', w'.heap[g]? = some (.cells cur' t (0, 0)) ∧ cur'.size = cur.size ∧ cur'.toList.take n = cur.toList.take n

theorem Puts.refl (w : World) (g n : Nat) : Puts w w g n := ⟨rfl, rfl, rfl, Nat.le_refl _, fun _ _ _ => rfl, fun cur _ h => ⟨cur, h, rfl, rfl⟩⟩
theorem Puts.trans {a b c : World} {g n g' n' : Nat} (h : Puts a b g n) (k : Puts b c g' n') (hg : (g' = g ∧ n ≤ n') ∨ (g' ≠ g ∧ a.heap.size ≤ g')) : Puts a c g n := by
  refine ⟨k.os.trans h.os, k.tape.trans h.tape, k.output.trans h.output, Nat.le_trans h.size k.size, fun i hi hne => ?_, fun cur t hc => ?_⟩
  · have hs := h.size
    rw [k.block i (by omega) (by rcases hg with ⟨rfl, _⟩ | ⟨_, hge⟩ <;> omega), h.block i hi hne]
  · obtain ⟨c1, h1, s1, t1⟩ := h.row cur t hc
    rcases hg with ⟨rfl, hn⟩ | ⟨hne, hge⟩
    · obtain ⟨c2, h2, s2, t2⟩ := k.row c1 t h1
      refine ⟨c2, h2, s2.trans s1, ?_⟩
      have e := congrArg (List.take n) t2
      rw [List.take_take, List.take_take, Nat.min_eq_left hn] at e
      rw [e, t1]
    · refine ⟨c1, ?_, s1, t1⟩
      rw [k.block g (Array.getElem?_eq_some_iff.1 h1).1 (Ne.symm hne)]
      exact h1
theorem Puts.alloc {a b : World} {g n : Nat} (h : Puts a b g n) (o : Obj) (hg : g < a.heap.size) : Puts a (b.alloc o) g n := by
  have hs := h.size
  refine ⟨h.os, h.tape, h.output, by simp; omega, fun k hk hne => ?_, fun cur t hc => ?_⟩
  · rw [Below.heap_alloc b o k (by omega), h.block k hk hne]
  · obtain ⟨c1, h1, s1, t1⟩ := h.row cur t hc
    exact ⟨c1, by rw [Below.heap_alloc b o g (by omega)]; exact h1, s1, t1⟩
theorem Puts.drew {a b : World} {g n : Nat} (h : Puts a b g n) : Puts a b.drew g n := ⟨h.os, h.tape, h.output, h.size, h.block, h.row⟩
theorem Puts.below {w w' : World} {g n B : Nat} (h : Puts w w' g n) (hg : B ≤ g) (hB : B ≤ w.heap.size) : Below B w w' :=
  ⟨h.os, h.tape, h.output, h.size, fun k hk => h.block k (by omega) (by omega)⟩
theorem Below.puts {w w' : World} (h : Below w.heap.size w w') (g n : Nat) : Puts w w' g n :=
  ⟨h.os, h.tape, h.output, h.size, fun k hk _ => h.block k hk, fun cur t hc => ⟨cur, by rw [h.block g (Array.getElem?_eq_some_iff.1 hc).1]; exact hc, rfl, rfl⟩⟩

theorem OwnB.puts {w w' : World} {e : TypeId} {g n cap g0 n0 : Nat} {l : List UInt8} (h : OwnB w e g n cap l) (k : Puts w w' g0 n0) (hne : g ≠ g0 ∨ n ≤ n0) : OwnB w' e g n cap l := by
  by_cases hg : g = g0
  · subst hg
    have hn : n ≤ n0 := by omega
    obtain ⟨cur, hc, hs, ht⟩ := h.row
    obtain ⟨c1, h1, s1, t1⟩ := k.row cur e hc
    refine ⟨h.len, h.le, h.max, c1, h1, s1.trans hs, ?_⟩
    have e := congrArg (List.take n) t1
    rw [List.take_take, List.take_take, Nat.min_eq_left hn] at e
    rw [e, ht]
  · exact h.kept (k.block g h.lt hg)
theorem IsB.puts {w w' : World} {g n0 : Nat} {ao : Option Addr} {n cap : Nat} {l : List UInt8} (h : IsB w ao n cap l) (k : Puts w w' g n0) (hne : ∀ a, ao = some a → a.block ≠ g) : IsB w' ao n cap l :=
  ⟨h.len, h.le, h.max, h.nil, fun a ha j u hu => by
    have e : (a.add j).block = a.block := by unfold Addr.add; split <;> rfl
    have hc := h.cell a ha j u hu
    rw [World.cell?_of_block (w := w) (a := a.add j) (k.block _ (World.block_lt_of_cell? w _ hc) (by rw [e]; exact hne a ha))]
    exact hc⟩

/-- One byte in a new block of its own. -/
theorem src_one {P : Program} {t e : TypeId} (ht : P.underlying t = some (.slice e)) (w : World) (v : Value) (b : UInt8) (hv : v = bc b) : Src P 1 t (.slice (some ⟨w.heap.size, 0, none⟩) 1 1) 1 (bcs [b]) (w.alloc (.cells #[v] e)) := by
  refine Src.ofSlice _ ht _ 1 1 (bcs [b]) rfl (fun j u hu => ?_) (bcs_one _)
  match j, hu with
  | 0, hu =>
    rw [Addr.add_lit, cell_of_row _ _ _ _ e (0, 0) (heap_alloc_new w _)]
    simp [bcs] at hu
    simp [hv, hu]
  | j + 1, hu => simp [bcs] at hu
/-- Some bytes in a new block of their own. -/
theorem src_lit {P : Program} {t e : TypeId} (ht : P.underlying t = some (.slice e)) (w : World) (cs : Array Value) (l : List UInt8) (m : Nat) (hv : cs.toList = bcs l) (hm : l.length = m) : Src P 1 t (.slice (some ⟨w.heap.size, 0, none⟩) m m) m (bcs l) (w.alloc (.cells cs e)) := by
  refine Src.ofSlice _ ht _ m m (bcs l) (by rw [bcs_length, hm, Nat.mul_one]) (fun j u hu => ?_) (bcs_one _)
  rw [Addr.add_lit, Nat.zero_add, cell_of_row _ _ _ _ e (0, 0) (heap_alloc_new w _), ← hu, ← hv]
  simp
theorem bc_mod (q : Nat) : Value.int .u8 ((q : Int) % 256) = bc (UInt8.ofNat (q % 256)) := by
  simp only [bc, Value.int.injEq, true_and, UInt8.toNat_ofNat']
  omega

/-- append, TO A ROW OF THE CALL's OWN, OF WHATEVER: the row goes on by what came; what was there reads on as it did. -/
theorem run_append_ob {P : Program} (w : World) (t tx ty e : TypeId) (hB : ByteTy P t e) (g n cap : Nat) (l : List UInt8) (h : OwnB w e g n cap l)
    (x : Value) (m : Nat) (cs : List UInt8) (hs : Src P 1 tx x m (bcs cs) w) (hmax : n + m ≤ 70368744177664) :
    ∃ g' cap' w', (Builtin.append_ #[t, tx] ty #[.slice (some ⟨g, 0, none⟩) n cap, x]).run P w = .ok (.slice (some ⟨g', 0, none⟩) (n + m) cap') w' ∧
      OwnB w' e g' (n + m) cap' (l ++ cs) ∧ Puts w w' g n ∧ (g' = g ∨ w.heap.size ≤ g') := by
  obtain ⟨i, hi, hz, hsize, hby⟩ := hB.info
  have ht := hB.ht
  have hs' : Src P i.size tx x m (bcs cs) w := by rw [hsize]; exact hs
  have hcl : cs.length = m := by have := hs.newsLen; rw [bcs_length, Nat.mul_one] at this; exact this
  obtain ⟨cur, hg, hcs, htake⟩ := h.row
  have hln := h.len
  have hle := h.le
  have hmx := h.max
  have hll : (l ++ cs).length = n + m := by rw [List.length_append, hln, hcl]
  by_cases hroom : n + m ≤ cap
  · have hst := run_storeCells_at P g (n * i.size) e (bcs cs) 0 cur w hg (by rw [hsize, bcs_length]; omega) (bcs_one cs)
    simp only [Nat.add_zero] at hst
    have hr : (Builtin.append_ #[t, tx] ty #[.slice (some ⟨g, 0, none⟩) n cap, x]).run P w =
        .ok (.slice (some ⟨g, 0, none⟩) (n + m) cap) (w.setRow g (cur.toList.take (n * i.size) ++ bcs cs ++ cur.toList.drop (n * i.size + (bcs cs).length)).toArray) := by
      rcases hs'.kind with ⟨e', hk⟩ | hk <;> simp [Builtin.append_, run_underlying ht, run_underlying hk, sizeOf, typeInfo, hi, hs'.len, hroom, hs'.cells, Addr.add_lit, hst]
    have hall : OwnB (w.setRow g (cur.toList.take (n * i.size) ++ bcs cs ++ cur.toList.drop (n * i.size + (bcs cs).length)).toArray) e g (n + m) cap (l ++ cs) := by
      refine ⟨hll, hroom, hmx, _, setRow_heap w g cur _ e _ hg, ?_, ?_⟩
      · simp only [List.size_toArray, List.length_append, List.length_take, List.length_drop, Array.length_toList, bcs_length]
        rw [hsize]
        omega
      · rw [hsize, Nat.mul_one, htake, ← bcs_append]
        show List.take (n + m) (bcs (l ++ cs) ++ _) = _
        rw [← hll, ← bcs_length]
        exact List.take_left
    refine ⟨g, cap, _, hr, hall, ⟨rfl, rfl, rfl, by simp, fun k _ hk => setRow_other w g k _ hk, fun c0 t0 h0 => ?_⟩, .inl rfl⟩
    rw [hg] at h0
    obtain ⟨rfl, rfl⟩ : cur = c0 ∧ e = t0 := by simpa using h0
    refine ⟨_, setRow_heap w g cur _ e _ hg, ?_, ?_⟩
    · simp only [List.size_toArray, List.length_append, List.length_take, List.length_drop, Array.length_toList, bcs_length]
      rw [hsize]
      omega
    · rw [hsize, Nat.mul_one, List.append_assoc]
      show List.take n (List.take n cur.toList ++ _) = _
      rw [List.take_append_of_le_length (by simp; omega), List.take_take, Nat.min_self]
  · have hold : (Builtin.firstCells i.size n (.slice (some ⟨g, 0, none⟩) n cap)).run P w.drew = .ok (bcs l).toArray w.drew :=
      run_firstCells_some w.drew i.size n ⟨g, 0, none⟩ n cap (bcs l) (by rw [bcs_length, hln, hsize, Nat.mul_one]) (fun j u hu => by
        rw [bcs_get] at hu
        obtain ⟨y, hy, rfl⟩ := Option.map_eq_some_iff.1 hu
        rw [Addr.add_lit, Nat.zero_add]
        exact h.drew.cell j y hy)
    have hr := run_append_grow_src (P := P) w t tx ty e i (.int .u8 0) ht hi hz (some ⟨g, 0, none⟩) n cap (bcs l) hold x m (bcs cs) hs' (by omega) (by omega)
      (growslice_fits (by omega) (by rw [hby]; omega))
    have hge := grownCap_ge w (n + m) cap e
    have hcm : grownCap w (n + m) cap e ≤ maxLen := grownCap_le_maxLen w (n + m) cap e (by simp only [maxLen]; omega)
    refine ⟨w.heap.size, grownCap w (n + m) cap e, _, hr, ⟨hll, hge, hcm, _, heap_alloc_new w.drew _, ?_, ?_⟩, Below.puts ((Below.refl _ _).drew.alloc (Nat.le_refl _) _) _ _, .inr (Nat.le_refl _)⟩
    · simp only [Array.size_append, List.size_toArray, size_zeroCells, List.length_append, bcs_length, Value.cells]
      simp
      omega
    · rw [← bcs_append]
      simp only [Array.toList_append]
      rw [← hll, ← bcs_length (l ++ cs)]
      exact List.take_left

/-- The same, as the walk meets it. -/
theorem wpList_append_ob {P : Program} {w : World} {ops : Array Oper} {rest : List Oper} {o : Oper} {a : Act} {Q : Exit → Act → World → Prop} (hgd : o.guard = none) (s x : Operand) (t tx : TypeId)
    (ho : o.op = .call { callee := .builtin .append, args := #[s, x], argTypes := #[t, tx] }) (e : TypeId) (hB : ByteTy P t e) (g n cap : Nat) (l : List UInt8) (hsv : a.eval s = .slice (some ⟨g, 0, none⟩) n cap) (h : OwnB w e g n cap l)
    (X : Value) (hx : a.eval x = X) (m : Nat) (cs : List UInt8) (hs : Src P 1 tx X m (bcs cs) w) (N : Nat) (hN : n + m = N) (L : List UInt8) (hL : l ++ cs = L) (hmax : N ≤ 70368744177664)
    (hK : ∀ g' cap' w', OwnB w' e g' N cap' L → Puts w w' g n → (g' = g ∨ w.heap.size ≤ g') → wpList P ops Q rest (a.put o.dst (.slice (some ⟨g', 0, none⟩) N cap')) w') :
    wpList P ops Q (o :: rest) a w := by
  subst hN
  subst hL
  refine wpList_plain hgd fun K hK' => ?_
  obtain ⟨g', cap', w', hr, h1, h2, h3⟩ := run_append_ob (P := P) w t tx o.type e hB g n cap l h X m cs hs hmax
  unfold Oper.wp execOp
  simp only [ho, resolve, invoke, builtin, Sem.run_bind, Sem.run_pure, Result.andThen_ok, List.map_toArray, List.map_cons, List.map_nil, hsv, hx, hr]
  exact hK' _ _ (hK g' cap' w' h1 h2 h3)

/-- 'make([]byte, 0, N)'. -/
theorem wpList_make_ob {P : Program} {w : World} {ops : Array Oper} {rest : List Oper} {o : Oper} {a : Act} {Q : Exit → Act → World → Prop} (hgd : o.guard = none) (l c : Operand) (t : TypeId)
    (ho : o.op = Op.makeSlice t l c) (e : TypeId) (hB : ByteTy P t e) (kl kc : IntKind) (C : Int) (N : Nat) (hl : a.eval l = .int kl 0) (hc : a.eval c = .int kc C) (hC : C = (N : Int)) (hN : N ≤ 70368744177664)
    (hK : ∀ w', OwnB w' e w.heap.size 0 N [] → Below w.heap.size w w' → wpList P ops Q rest (a.put o.dst (.slice (some ⟨w.heap.size, 0, none⟩) 0 N)) w') :
    wpList P ops Q (o :: rest) a w := by
  obtain ⟨i, hi, hz, hsize, hby⟩ := hB.info
  refine wpList_make_own w hgd l c t ho w.heap.size e i (.int .u8 0) 1 hB.ht hi hz hsize kl kc C N hl hc hC (by rw [hby]; omega) (by simp only [maxLen]; omega) (Nat.le_refl _) fun w' hown hgr => ?_
  refine hK w' ?_ ((Below.refl _ w).grown hgr (Nat.le_refl _) (fun k h => by cases h))
  rcases hown.2 with ⟨h, _⟩ | ⟨g, cap, cur, hv, _, hg, hnc, hcm, hcs, htake⟩
  · cases h
  · simp only [Value.slice.injEq, Option.some.injEq, Addr.mk.injEq, and_true] at hv
    obtain ⟨rfl, _, rfl⟩ := hv
    exact ⟨rfl, Nat.zero_le _, hcm, cur, hg, by rw [hcs, Nat.mul_one], by simp [bcs]⟩

/-- Bytes in a new block. -/
theorem isB_lit (w : World) (cs : Array Value) (e : TypeId) (l : List UInt8) (m : Nat) (hv : cs.toList = bcs l) (hm : l.length = m) (hM : m ≤ 1000000) : IsB (w.alloc (.cells cs e)) (some ⟨w.heap.size, 0, none⟩) m m l :=
  ⟨hm, Nat.le_refl _, by unfold maxLen; omega, (fun h => by cases h), fun a ha j u hu => by
    obtain rfl := Option.some.inj ha
    rw [Addr.add_lit, Nat.zero_add, cell_of_row _ _ _ _ e (0, 0) (heap_alloc_new w _), ← Array.getElem?_toList, hv, bcs_get, hu]
    rfl⟩
/-- A number's k lowest bytes, the lowest first. -/
def le : Nat → Nat → List UInt8
  | 0, _ => []
  | k + 1, x => UInt8.ofNat (x % 256) :: le k (x / 256)
theorem le_length : ∀ k x, (le k x).length = k
  | 0, _ => rfl
  | k + 1, x => by rw [le, List.length_cons, le_length k]
theorem le_snoc : ∀ k x, le (k + 1) x = le k x ++ [UInt8.ofNat (x / 256 ^ k % 256)]
  | 0, x => by simp [le]
  | k + 1, x => by
    rw [le, le_snoc k (x / 256)]
    rw [show le (k + 1) x = UInt8.ofNat (x % 256) :: le k (x / 256) from rfl, List.cons_append, Nat.div_div_eq_div_mul, ← Nat.pow_succ']
end Go.Proofs.Ytllijeciodmckaa
