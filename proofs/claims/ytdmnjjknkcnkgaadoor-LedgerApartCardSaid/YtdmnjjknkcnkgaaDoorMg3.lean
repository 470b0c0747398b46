/-
  SHA-256 as plain functions on lists of bytes, and its value at one text.
  Unsigned numbers of 32 bits as the walk meets them ('u x' is the number of x); a row of such numbers in a block.
  What a sum on its way holds in its block: the state, the block, how much is used, how long, the last block, its once (three cells), its schedule.
  A region that draws its order, reads first and writes last: met in a world of its own name.
  Package sha: what turns numbers about.
  Plain lemmas on schedules; what a store into one row leaves.
  The contract of spread: the schedule of the block.
  copy into the block of a sum on its way.
  What has been taken in, plain: the blocks that were mixed, and the bytes that wait.
  Pieces of a slice that reads as bytes.
-/
import Derived.KernelRfl
import Derived.WalkKit
import Derived.WalkSpells
import Derived.WalkLawsBesides
import Derived.Laws.BitsAllLaws
import Derived.Laws.Rows
import Derived.Lib.Hide
import Derived.Test.YtdmnjjknkcnkgaaDoorMg1
import Derived.Deep.MidRow
import Derived.StillTailTactics
import Derived.Deep.QuietTactic
import Derived.BigQuiet
import Derived.BigRegion
import Derived.Deep.RegionHeld3
import Derived.Below
import Derived.Outline
import Derived.Test.YtdmnjjknkcnkgaaDoorMg0
import Derived.Deep.Draws
import Derived.Laws.CopyOwn
import Derived.Laws.Slices
namespace Go.Proofs.YtdmnjjknkcnkgaaDoor

def rr (x : UInt32) (n : Nat) : UInt32 := UInt32.ofNat (x.toNat / 2 ^ n) ||| UInt32.ofNat (x.toNat * 2 ^ (32 - n))
def sr (x : UInt32) (n : Nat) : UInt32 := UInt32.ofNat (x.toNat / 2 ^ n)
def bs0 (x : UInt32) : UInt32 := rr x 7 ^^^ rr x 18 ^^^ sr x 3
def bs1 (x : UInt32) : UInt32 := rr x 17 ^^^ rr x 19 ^^^ sr x 10
def cs1 (e : UInt32) : UInt32 := rr e 6 ^^^ rr e 11 ^^^ rr e 25
def cs0 (a : UInt32) : UInt32 := rr a 2 ^^^ rr a 13 ^^^ rr a 22
def ch (e f g : UInt32) : UInt32 := (e &&& f) ^^^ (~~~e &&& g)
def mj (a b c : UInt32) : UInt32 := ((a &&& b) ^^^ (a &&& c)) ^^^ (b &&& c)
structure St where
  a : UInt32
  b : UInt32
  c : UInt32
  d : UInt32
  e : UInt32
  f : UInt32
  g : UInt32
  h : UInt32
def St.one (s : St) (k w : UInt32) : UInt32 := s.h + cs1 s.e + ch s.e s.f s.g + k + w
def St.two (s : St) : UInt32 := cs0 s.a + mj s.a s.b s.c
def St.step (s : St) (k w : UInt32) : St := ⟨s.one k w + s.two, s.a, s.b, s.c, s.d + s.one k w, s.e, s.f, s.g⟩
def K64 : List UInt32 := [
    0x428a2f98, 0x71374491, 0xb5c0fbcf, 0xe9b5dba5, 0x3956c25b, 0x59f111f1, 0x923f82a4, 0xab1c5ed5,
    0xd807aa98, 0x12835b01, 0x243185be, 0x550c7dc3, 0x72be5d74, 0x80deb1fe, 0x9bdc06a7, 0xc19bf174,
    0xe49b69c1, 0xefbe4786, 0x0fc19dc6, 0x240ca1cc, 0x2de92c6f, 0x4a7484aa, 0x5cb0a9dc, 0x76f988da,
    0x983e5152, 0xa831c66d, 0xb00327c8, 0xbf597fc7, 0xc6e00bf3, 0xd5a79147, 0x06ca6351, 0x14292967,
    0x27b70a85, 0x2e1b2138, 0x4d2c6dfc, 0x53380d13, 0x650a7354, 0x766a0abb, 0x81c2c92e, 0x92722c85,
    0xa2bfe8a1, 0xa81a664b, 0xc24b8b70, 0xc76c51a3, 0xd192e819, 0xd6990624, 0xf40e3585, 0x106aa070,
    0x19a4c116, 0x1e376c08, 0x2748774c, 0x34b0bcb5, 0x391c0cb3, 0x4ed8aa4a, 0x5b9cca4f, 0x682e6ff3,
    0x748f82ee, 0x78a5636f, 0x84c87814, 0x8cc70208, 0x90befffa, 0xa4506ceb, 0xbef9a3f7, 0xc67178f2]
def kk (i : Nat) : UInt32 := K64.getD i 0
def ext (W : List UInt32) (i : Nat) : UInt32 := bs1 (W.getD (i - 2) 0) + W.getD (i - 7) 0 + bs0 (W.getD (i - 15) 0) + W.getD (i - 16) 0
def sched (W : List UInt32) : Nat → List UInt32
  | 0 => W
  | n + 1 => sched W n ++ [ext (sched W n) (16 + n)]
def be4 (a b c d : UInt8) : UInt32 := UInt32.ofNat (a.toNat * 16777216 + b.toNat * 65536 + c.toNat * 256 + d.toNat)
def word (l : List UInt8) (i : Nat) : UInt32 := be4 (l.getD (4 * i) 0) (l.getD (4 * i + 1) 0) (l.getD (4 * i + 2) 0) (l.getD (4 * i + 3) 0)
def words (l : List UInt8) (n : Nat) : List UInt32 := (List.range n).map (word l)
def rounds (W : List UInt32) (s : St) : Nat → St
  | 0 => s
  | n + 1 => (rounds W s n).step (kk n) (W.getD n 0)
def St.add (s t : St) : St := ⟨s.a + t.a, s.b + t.b, s.c + t.c, s.d + t.d, s.e + t.e, s.f + t.f, s.g + t.g, s.h + t.h⟩
def St.mix (s : St) (l : List UInt8) : St := s.add (rounds (sched (words l 16) 48) s 64)
def H0 : St := ⟨0x6a09e667, 0xbb67ae85, 0x3c6ef372, 0xa54ff53a, 0x510e527f, 0x9b05688c, 0x1f83d9ab, 0x5be0cd19⟩
def St.l (s : St) : List UInt32 := [s.a, s.b, s.c, s.d, s.e, s.f, s.g, s.h]
def blocks (l : List UInt8) (s : St) : Nat → St
  | 0 => s
  | n + 1 => (blocks l s n).mix (l.drop (64 * n))
def be (k x : Nat) : List UInt8 := (List.range k).map fun i => UInt8.ofNat (x / 256 ^ (k - 1 - i))
def padding (n : Nat) : List UInt8 := 0x80 :: (List.replicate ((119 - n % 64) % 64) 0 ++ be 8 (8 * n))
def padded (l : List UInt8) : List UInt8 := l ++ padding l.length
def sha (l : List UInt8) : List UInt8 := ((blocks (padded l) H0 ((padded l).length / 64)).l.map fun x => be 4 x.toNat).flatten

theorem sha_abc : sha [97, 98, 99] = [186, 120, 22, 191, 143, 1, 207, 234, 65, 65, 64, 222, 93, 174, 34, 35, 176, 3, 97, 163, 150, 23, 122, 156, 180, 16, 255, 97, 242, 0, 21, 173] := by decide +kernel
theorem K64_length : K64.length = 64 := rfl
theorem sched_length (W : List UInt32) : ∀ n, (sched W n).length = W.length + n
  | 0 => rfl
  | n + 1 => by rw [sched, List.length_append, sched_length W n]; rfl
theorem words_length (l : List UInt8) (n : Nat) : (words l n).length = n := by simp [words]
theorem words_snoc (l : List UInt8) (n : Nat) : words l (n + 1) = words l n ++ [word l n] := by simp [words, List.range_succ]
theorem St.l_length (s : St) : s.l.length = 8 := rfl
theorem be_length (k x : Nat) : (be k x).length = k := by simp [be]
theorem sha_length (l : List UInt8) : (sha l).length = 32 := by simp [sha, St.l, be_length]
end Go.Proofs.YtdmnjjknkcnkgaaDoor
namespace Go.Proofs.YtdmnjjknkcnkgaaDoor
open Go.RowKit

def u (x : UInt32) : Int := (x.toNat : Int)
theorem u_lo (x : UInt32) : 0 ≤ u x := by unfold u; omega
theorem u_hi (x : UInt32) : u x < 4294967296 := by unfold u; have := x.toNat_lt; omega
theorem u_inj {x y : UInt32} (h : u x = u y) : x = y := UInt32.toNat_inj.1 (by unfold u at h; omega)
theorem u_add (x y : UInt32) : (u x + u y) % 4294967296 = u (x + y) := by
  unfold u; rw [UInt32.toNat_add]; omega
theorem u_xor (x y : UInt32) : bits .xor .u32 (u x) (u y) = u (x ^^^ y) := by
  unfold u; rw [u32_xor_nat _ _ x.toNat_lt y.toNat_lt, UInt32.toNat_xor]
theorem u_and (x y : UInt32) : bits .and .u32 (u x) (u y) = u (x &&& y) := by
  unfold u; rw [u32_and_nat _ _ x.toNat_lt y.toNat_lt, UInt32.toNat_and]
theorem u_or (x y : UInt32) : bits .or .u32 (u x) (u y) = u (x ||| y) := by
  unfold u; rw [u32_or_nat _ _ x.toNat_lt y.toNat_lt, UInt32.toNat_or]
theorem u_not (x : UInt32) : bits .xor .u32 4294967295 (u x) = u (~~~x) := by
  have h : (4294967295 : Int) = u 4294967295 := rfl
  rw [h, u_xor]
  congr 1
theorem u_inv (x : UInt32) : bits .xor .u32 (if IntKind.u32.signed = true then -1 else IntKind.u32.max) (u x) = u (~~~x) := u_not x
theorem u_wrap (x y : UInt32) : IntKind.u32.wrap (u x + u y) = u (x + y) := by rw [IntKind.wrap_u32']; exact u_add x y
theorem u_shr (x : UInt32) (n : Nat) : u x / 2 ^ n = u (sr x n) := by
  unfold u sr
  have h := x.toNat_lt
  have h1 : x.toNat / 2 ^ n ≤ x.toNat := Nat.div_le_self _ _
  rw [UInt32.toNat_ofNat_of_lt' (by show _ < 4294967296; omega)]
  simp
theorem u_shl (x : UInt32) (n : Nat) : u x * 2 ^ n % 4294967296 = u (UInt32.ofNat (x.toNat * 2 ^ n)) := by
  unfold u
  rw [UInt32.toNat_ofNat']
  simp
def ub (x : UInt8) : Int := (x.toNat : Int)
theorem ub_lo (x : UInt8) : 0 ≤ ub x := by unfold ub; omega
theorem ub_hi (x : UInt8) : ub x < 256 := by unfold ub; have := x.toNat_lt; omega
theorem or_parts (x y i : Nat) (h : y < 2 ^ i) : x * 2 ^ i ||| y = x * 2 ^ i + y := by
  have := Nat.shiftLeft_add_eq_or_of_lt h x
  rw [Nat.shiftLeft_eq] at this
  exact this.symm
theorem or_be4 (a b c d : UInt8) : bits .or .u32 (bits .or .u32 (bits .or .u32 (ub a * 16777216) (ub b * 65536)) (ub c * 256)) (ub d) = u (be4 a b c d) := by
  have ha := a.toNat_lt
  have hb := b.toNat_lt
  have hc := c.toNat_lt
  have hd := d.toNat_lt
  unfold ub be4 u
  generalize a.toNat = A at *
  generalize b.toNat = B at *
  generalize c.toNat = C at *
  generalize d.toNat = D at *
  have h1 : A * 16777216 ||| B * 65536 = A * 16777216 + B * 65536 := or_parts A (B * 65536) 24 (by omega)
  have h2 : A * 16777216 + B * 65536 ||| C * 256 = A * 16777216 + B * 65536 + C * 256 := by
    have := or_parts (A * 256 + B) (C * 256) 16 (by omega)
    rwa [show (A * 256 + B) * 2 ^ 16 = A * 16777216 + B * 65536 by omega] at this
  have h3 : A * 16777216 + B * 65536 + C * 256 ||| D = A * 16777216 + B * 65536 + C * 256 + D := by
    have := or_parts (A * 65536 + B * 256 + C) D 8 (by omega)
    rwa [show (A * 65536 + B * 256 + C) * 2 ^ 8 = A * 16777216 + B * 65536 + C * 256 by omega] at this
  have g1 := u32_or_nat (A * 16777216) (B * 65536) (by omega) (by omega)
  have g2 := u32_or_nat (A * 16777216 + B * 65536) (C * 256) (by omega) (by omega)
  have g3 := u32_or_nat (A * 16777216 + B * 65536 + C * 256) D (by omega) (by omega)
  rw [h1] at g1
  rw [h2] at g2
  rw [h3] at g3
  rw [show (A : Int) * 16777216 = ((A * 16777216 : Nat) : Int) by omega, show (B : Int) * 65536 = ((B * 65536 : Nat) : Int) by omega, show (C : Int) * 256 = ((C * 256 : Nat) : Int) by omega, g1, g2, g3]
  rw [UInt32.toNat_ofNat_of_lt' (by show _ < 4294967296; omega)]
def cu (x : UInt32) : Value := .int .u32 (u x)
def cus (L : List UInt32) : Array Value := (L.map cu).toArray
theorem cus_size (L : List UInt32) : (cus L).size = L.length := by simp [cus]
theorem cus_get (L : List UInt32) (j : Nat) : (cus L)[j]? = (L[j]?).map cu := by simp [cus]
theorem cus_one (L : List UInt32) : (cus L).all (·.oneCell') = true := by
  simp [cus, cu, Value.oneCell']

/-- BLOCK g HOLDS THE NUMBERS L. -/
def Ar (w : World) (t : TypeId) (g : Nat) (L : List UInt32) : Prop := w.heap[g]? = some (.cells (cus L) t (0, 0))
theorem Ar.lt {w : World} {t : TypeId} {g : Nat} {L : List UInt32} (h : Ar w t g L) : g < w.heap.size := (Array.getElem?_eq_some_iff.1 h).1
theorem Ar.cell {w : World} {t : TypeId} {g : Nat} {L : List UInt32} (h : Ar w t g L) (j : Nat) (x : UInt32) (hx : L[j]? = some x) : w.cell? ⟨g, j, none⟩ = some (.int .u32 (u x)) := by
  rw [cell_of_row w g j _ t (0, 0) h, cus_get, hx]; rfl
theorem Ar.get {w : World} {t : TypeId} {g : Nat} {L : List UInt32} (h : Ar w t g L) (j : Nat) (hj : j < L.length) : w.cell? ⟨g, j, none⟩ = some (.int .u32 (u (L.getD j 0))) :=
  h.cell j _ (by simp [List.getD, hj])
theorem Ar.free {w : World} {t : TypeId} {g : Nat} {L : List UInt32} (h : Ar w t g L) (j : Nat) : w.frozen? ⟨g, j, none⟩ = false := frozen_of_row w g j _ t h
theorem Ar.kept {w w' : World} {t : TypeId} {g : Nat} {L : List UInt32} (h : Ar w t g L) (k : w'.heap[g]? = w.heap[g]?) : Ar w' t g L := k.trans h
theorem Ar.set {w : World} {t : TypeId} {g : Nat} {L : List UInt32} (h : Ar w t g L) (j : Nat) (x : UInt32) : Ar (w.setCell ⟨g, j, none⟩ (.int .u32 (u x))) t g (L.set j x) := by
  have e := Go.heap_setCell_same w g j _ t (.int .u32 (u x)) h
  unfold Ar
  rw [e]
  congr 2
  simp [cus, cu, List.map_set]
theorem Ar.other {w : World} {t : TypeId} {g : Nat} {L : List UInt32} (h : Ar w t g L) (a : Addr) (v : Value) (hne : g ≠ a.block) : Ar (w.setCell a v) t g L := h.kept (heap_setCell_other w a g v hne)

theorem wpList_alloc_ar {P : Program} {w : World} {ops : Array Oper} {rest : List Oper} {o : Oper} {a : Act} {Q : Exit → Act → World → Prop} (hgd : o.guard = none) (t : TypeId) (ho : o.op = .alloc t) (N : Nat)
    (hz : (P.info? t).map (fun i => i.zero) = some (some (.agg (cus (List.replicate N 0)))))
    (hK : ∀ w' g, Ar w' t g (List.replicate N 0) → Below w.heap.size w w' → w.heap.size ≤ g → wpList P ops Q rest (a.put o.dst (.pointer (some ⟨g, 0, none⟩))) w') :
    wpList P ops Q (o :: rest) a w := wpList_alloc_blk hgd t ho _ hz fun w' g h => hK w' g h
/-- All of such an array is written. -/
theorem wpList_store_ar {P : Program} {w : World} {ops : Array Oper} {rest : List Oper} {o : Oper} {a : Act} {Q : Exit → Act → World → Prop} (hgd : o.guard = none) (ty : TypeId) (x y : Operand) (ho : o.op = .store ty x y)
    (g : Nat) (L M : List UInt32) (hx : a.eval x = .pointer (some ⟨g, 0, none⟩)) (hy : a.eval y = .agg (cus M)) (t : TypeId) (hg : Ar w t g L) (N : Nat) (hi : (P.info? ty).map (·.size) = some N) (hl : L.length = N) (hm : M.length = N)
    (hK : ∀ w', Ar w' t g M → w.grownBy w' (some g) → wpList P ops Q rest (a.put o.dst undef) w') :
    wpList P ops Q (o :: rest) a w := by
  refine wpList_store_row hgd ty x y ho g (cus M) hx hy t (cus L) hg (by rw [hi, cus_size, hm]) (by rw [cus_size, cus_size, hl, hm]) (cus_one M) (hK _ (setRow_heap w g _ _ _ _ hg) ⟨rfl, rfl, rfl, by simp, fun k _ hk => setRow_other w g k _ (fun e => hk (by rw [e]))⟩)
/-- All of such an array is read. -/
theorem wpList_load_ar {P : Program} {w : World} {ops : Array Oper} {rest : List Oper} {o : Oper} {a : Act} {Q : Exit → Act → World → Prop} (hgd : o.guard = none) (ty : TypeId) (x : Operand) (ho : o.op = .load ty x)
    (g : Nat) (L : List UInt32) (hx : a.eval x = .pointer (some ⟨g, 0, none⟩)) (t : TypeId) (hg : Ar w t g L) (n : Nat) (e : TypeId) (hu : P.underlying ty = some (.array n e)) (N : Nat) (hi : (P.info? ty).map (·.size) = some N) (hl : L.length = N)
    (hK : wpList P ops Q rest (a.put o.dst (.agg (cus L))) w) : wpList P ops Q (o :: rest) a w :=
  wpList_load_row hgd ty x ho g hx t (cus L) (0, 0) _ hg hu rfl (by rw [hi, cus_size, hl]) hK
/-- Byte k of a number, 0 the lowest. -/
def byt (x : UInt32) (k : Nat) : UInt8 := UInt8.ofNat (x.toNat / 256 ^ k)
theorem u_byte3 (x : UInt32) : u x / 16777216 = ub (byt x 3) := by
  have := x.toNat_lt
  unfold u ub byt
  rw [UInt8.toNat_ofNat']
  omega
theorem u_byte2 (x : UInt32) : u x / 65536 % 256 = ub (byt x 2) := by
  unfold u ub byt
  rw [UInt8.toNat_ofNat']
  omega
theorem u_byte1 (x : UInt32) : u x / 256 % 256 = ub (byt x 1) := by
  unfold u ub byt
  rw [UInt8.toNat_ofNat']
  omega
theorem u_byte0 (x : UInt32) : u x % 256 = ub (byt x 0) := by
  unfold u ub byt
  rw [UInt8.toNat_ofNat']
  omega
/-- The state with its first t numbers grown by T's. -/
def sums (S T : St) : Nat → List UInt32
  | 0 => S.l
  | t + 1 => (sums S T t).set t (S.l.getD t 0 + T.l.getD t 0)
theorem sums_length (S T : St) : ∀ t, (sums S T t).length = 8
  | 0 => rfl
  | t + 1 => by rw [sums, List.length_set, sums_length S T t]
theorem sums_get (S T : St) (t : Nat) (h : t < 8) : (sums S T t).getD t 0 = S.l.getD t 0 := by
  match t, h with
  | 0, _ => rfl
  | 1, _ => rfl
  | 2, _ => rfl
  | 3, _ => rfl
  | 4, _ => rfl
  | 5, _ => rfl
  | 6, _ => rfl
  | 7, _ => rfl
theorem sums_all (S T : St) : sums S T 8 = (S.add T).l := rfl
/-- The first 4 t bytes of the answer. -/
def outs (S : St) : Nat → List UInt8
  | 0 => List.replicate 32 0
  | t + 1 => ((((outs S t).set (4 * t) (byt (S.l.getD t 0) 3)).set (4 * t + 1) (byt (S.l.getD t 0) 2)).set (4 * t + 2) (byt (S.l.getD t 0) 1)).set (4 * t + 3) (byt (S.l.getD t 0) 0)
theorem outs_all (S : St) : outs S 8 = (S.l.map fun x => be 4 x.toNat).flatten := by kernel_rfl
theorem outs_length (S : St) : ∀ t, (outs S t).length = 32
  | 0 => rfl
  | t + 1 => by simp [outs, outs_length S t]
/-- BLOCK g HOLDS THE BYTES l. -/
def Ab (w : World) (t : TypeId) (g : Nat) (l : List UInt8) : Prop := w.heap[g]? = some (.cells (l.map fun x => Value.int .u8 (ub x)).toArray t (0, 0))
theorem Ab.lt {w : World} {t : TypeId} {g : Nat} {l : List UInt8} (h : Ab w t g l) : g < w.heap.size := (Array.getElem?_eq_some_iff.1 h).1
theorem Ab.cell {w : World} {t : TypeId} {g : Nat} {l : List UInt8} (h : Ab w t g l) (j : Nat) (hj : j < l.length) : w.cell? ⟨g, j, none⟩ = some (.int .u8 (ub (l.getD j 0))) := by
  rw [cell_of_row w g j _ t (0, 0) h]
  simp [List.getD, hj]
theorem Ab.free {w : World} {t : TypeId} {g : Nat} {l : List UInt8} (h : Ab w t g l) (j : Nat) : w.frozen? ⟨g, j, none⟩ = false := frozen_of_row w g j _ t h
theorem Ab.kept {w w' : World} {t : TypeId} {g : Nat} {l : List UInt8} (h : Ab w t g l) (k : w'.heap[g]? = w.heap[g]?) : Ab w' t g l := k.trans h
theorem Ab.set {w : World} {t : TypeId} {g : Nat} {l : List UInt8} (h : Ab w t g l) (j : Nat) (x : UInt8) : Ab (w.setCell ⟨g, j, none⟩ (.int .u8 (ub x))) t g (l.set j x) := by
  have e := Go.heap_setCell_same w g j _ t (.int .u8 (ub x)) h
  unfold Ab
  rw [e]
  congr 2
  simp [List.map_set]
theorem Ab.drew {w : World} {t : TypeId} {g : Nat} {l : List UInt8} (h : Ab w t g l) : Ab w.drew t g l := h
theorem u8_byte3 (x : UInt32) : IntKind.u8.wrap (u x / 16777216) = ub (byt x 3) := by
  rw [IntKind.wrap_u8', u_byte3]
  exact Int.emod_eq_of_lt (ub_lo _) (ub_hi _)
theorem u8_byte2 (x : UInt32) : IntKind.u8.wrap (u x / 65536) = ub (byt x 2) := by rw [IntKind.wrap_u8', u_byte2]
theorem u8_byte1 (x : UInt32) : IntKind.u8.wrap (u x / 256) = ub (byt x 1) := by rw [IntKind.wrap_u8', u_byte1]
theorem u8_byte0 (x : UInt32) : IntKind.u8.wrap (u x) = ub (byt x 0) := by rw [IntKind.wrap_u8', u_byte0]
theorem ub_wrap (x : UInt8) : IntKind.u8.wrap (ub x) = ub x := by
  rw [IntKind.wrap_u8']
  exact Int.emod_eq_of_lt (ub_lo _) (ub_hi _)
theorem ub_mod (x : UInt8) : ub x % 256 = ub x := Int.emod_eq_of_lt (ub_lo _) (ub_hi _)
theorem far_cell {g h : Nat} (hne : g ≠ h) (w : World) (i j : Nat) (v : Value) : (w.setCell ⟨h, i, none⟩ v).cell? ⟨g, j, none⟩ = w.cell? ⟨g, j, none⟩ :=
  World.cell?_setCell_other w _ _ _ (fun e => hne (by cases e; rfl))
end Go.Proofs.YtdmnjjknkcnkgaaDoor
namespace Go.Proofs.YtdmnjjknkcnkgaaDoor
open Go.RowKit

def smL (st : List UInt32) (blk : List UInt8) (used : Nat) (len : Int) (last : List UInt8) (mid : List Value) (sch : List UInt32) : List Value :=
  st.map cu ++ (bcs blk ++ ([.int .i64 used, .int .u64 len] ++ (bcs last ++ (mid ++ sch.map cu))))
/-- BLOCK g HOLDS SUCH A SUM. -/
structure Sm (w : World) (g : Nat) (st : List UInt32) (blk : List UInt8) (used : Nat) (len : Int) (last : List UInt8) (mid : List Value) (sch : List UInt32) : Prop where
  row : w.heap[g]? = some (.cells (smL st blk used len last mid sch).toArray 110 (0, 0))
  l1 : st.length = 8
  l2 : blk.length = 64
  l3 : last.length = 64
  l4 : sch.length = 64
  lm : mid.length = 3

section
variable {w w' : World} {g used : Nat} {len : Int} {st sch : List UInt32} {blk last : List UInt8} {mid : List Value}
theorem Sm.lt (h : Sm w g st blk used len last mid sch) : g < w.heap.size := (Array.getElem?_eq_some_iff.1 h.row).1
theorem Sm.kept (h : Sm w g st blk used len last mid sch) (k : w'.heap[g]? = w.heap[g]?) : Sm w' g st blk used len last mid sch := ⟨k.trans h.row, h.l1, h.l2, h.l3, h.l4, h.lm⟩
theorem Sm.free (h : Sm w g st blk used len last mid sch) (j : Nat) : w.frozen? ⟨g, j, none⟩ = false := frozen_of_row w g j _ _ h.row
theorem Sm.at (h : Sm w g st blk used len last mid sch) (j : Nat) (v : Value) (hv : (smL st blk used len last mid sch)[j]? = some v) : w.cell? ⟨g, j, none⟩ = some v := by
  rw [cell_of_row w g j _ _ (0, 0) h.row, List.getElem?_toArray]
  exact hv
theorem app_get {α : Type} {A B : List α} {n j : Nat} (h : A.length = n) : (A ++ B)[n + j]? = B[j]? := by
  subst h
  rw [List.getElem?_append_right (by omega), Nat.add_sub_cancel_left]
theorem app_set {α : Type} {A B : List α} {n j : Nat} {v : α} (h : A.length = n) : (A ++ B).set (n + j) v = A ++ B.set j v := by
  subst h
  rw [List.set_append_right _ _ (by omega), Nat.add_sub_cancel_left]
theorem Sm.st_cell (h : Sm w g st blk used len last mid sch) (j : Nat) (hj : j < 8) : w.cell? ⟨g, j, none⟩ = some (.int .u32 (u (st.getD j 0))) := by
  refine h.at j _ ?_
  have hl := h.l1
  unfold smL
  rw [List.getElem?_append_left (by simp; omega)]
  simp [cu, List.getD, show j < st.length by omega]
theorem Sm.blk_cell (h : Sm w g st blk used len last mid sch) (j : Nat) (hj : j < 64) : w.cell? ⟨g, 8 + j, none⟩ = some (.int .u8 (ub (blk.getD j 0))) := by
  refine h.at (8 + j) _ ?_
  have hl := h.l2
  unfold smL
  rw [app_get (by simp [h.l1]), List.getElem?_append_left (by simp [bcs]; omega)]
  simp [bcs, bc, ub, List.getD, show j < blk.length by omega]
theorem Sm.used_cell (h : Sm w g st blk used len last mid sch) : w.cell? ⟨g, 72, none⟩ = some (.int .i64 used) := by
  refine h.at (8 + (64 + 0)) _ ?_
  unfold smL
  rw [app_get (by simp [h.l1]), app_get (by simp [bcs, h.l2])]
  rfl
theorem Sm.len_cell (h : Sm w g st blk used len last mid sch) : w.cell? ⟨g, 73, none⟩ = some (.int .u64 len) := by
  refine h.at (8 + (64 + 1)) _ ?_
  unfold smL
  rw [app_get (by simp [h.l1]), app_get (by simp [bcs, h.l2])]
  rfl
theorem Sm.last_cell (h : Sm w g st blk used len last mid sch) (j : Nat) (hj : j < 64) : w.cell? ⟨g, 74 + j, none⟩ = some (.int .u8 (ub (last.getD j 0))) := by
  refine h.at (74 + j) _ ?_
  have hl := h.l3
  rw [show 74 + j = 8 + (64 + (2 + j)) by omega]
  unfold smL
  rw [app_get (by simp [h.l1]), app_get (by simp [bcs, h.l2]), app_get (n := 2) rfl, List.getElem?_append_left (by simp [bcs]; omega)]
  simp [bcs, bc, ub, List.getD, show j < last.length by omega]
theorem Sm.mid_cell (h : Sm w g st blk used len last mid sch) (j : Nat) (v : Value) (hj : mid[j]? = some v) : w.cell? ⟨g, 138 + j, none⟩ = some v := by
  refine h.at (138 + j) _ ?_
  have hl := (List.getElem?_eq_some_iff.1 hj).1
  rw [show 138 + j = 8 + (64 + (2 + (64 + j))) by omega]
  unfold smL
  rw [app_get (by simp [h.l1]), app_get (by simp [bcs, h.l2]), app_get (n := 2) rfl, app_get (by simp [bcs, h.l3]), List.getElem?_append_left hl]
  exact hj
theorem Sm.sch_cell (h : Sm w g st blk used len last mid sch) (j : Nat) (hj : j < 64) : w.cell? ⟨g, 141 + j, none⟩ = some (.int .u32 (u (sch.getD j 0))) := by
  refine h.at (141 + j) _ ?_
  have hl := h.l4
  rw [show 141 + j = 8 + (64 + (2 + (64 + (3 + j)))) by omega]
  unfold smL
  rw [app_get (by simp [h.l1]), app_get (by simp [bcs, h.l2]), app_get (n := 2) rfl, app_get (by simp [bcs, h.l3]), app_get h.lm]
  simp [cu, List.getD, show j < sch.length by omega]
theorem Sm.put (h : Sm w g st blk used len last mid sch) (j : Nat) (v : Value) : (w.setCell ⟨g, j, none⟩ v).heap[g]? = some (.cells ((smL st blk used len last mid sch).set j v).toArray 110 (0, 0)) := by
  rw [Go.heap_setCell_same w g j _ _ v h.row]
  simp
theorem Sm.set_st (h : Sm w g st blk used len last mid sch) (j : Nat) (x : UInt32) (hj : j < 8) : Sm (w.setCell ⟨g, j, none⟩ (.int .u32 (u x))) g (st.set j x) blk used len last mid sch := by
  refine ⟨(h.put j _).trans ?_, by simp [h.l1], h.l2, h.l3, h.l4, h.lm⟩
  have hl := h.l1
  unfold smL
  rw [List.set_append_left _ _ (by simp; omega), List.map_set]
  rfl
theorem Sm.set_mid (h : Sm w g st blk used len last mid sch) (j : Nat) (v : Value) (hj : j < 3) : Sm (w.setCell ⟨g, 138 + j, none⟩ v) g st blk used len last (mid.set j v) sch := by
  refine ⟨(h.put (138 + j) _).trans ?_, h.l1, h.l2, h.l3, h.l4, by simp [h.lm]⟩
  have hl := h.lm
  rw [show 138 + j = 8 + (64 + (2 + (64 + j))) by omega]
  unfold smL
  rw [app_set (by simp [h.l1]), app_set (by simp [bcs, h.l2]), app_set (n := 2) rfl, app_set (by simp [bcs, h.l3]), List.set_append_left _ _ (by omega)]
theorem Sm.set_sch (h : Sm w g st blk used len last mid sch) (j : Nat) (x : UInt32) (_hj : j < 64) : Sm (w.setCell ⟨g, 141 + j, none⟩ (.int .u32 (u x))) g st blk used len last mid (sch.set j x) := by
  refine ⟨(h.put (141 + j) _).trans ?_, h.l1, h.l2, h.l3, by simp [h.l4], h.lm⟩
  have hl := h.l4
  rw [show 141 + j = 8 + (64 + (2 + (64 + (3 + j)))) by omega]
  unfold smL
  rw [app_set (by simp [h.l1]), app_set (by simp [bcs, h.l2]), app_set (n := 2) rfl, app_set (by simp [bcs, h.l3]), app_set h.lm, List.map_set]
  rfl
theorem Sm.set_used (h : Sm w g st blk used len last mid sch) (n : Nat) : Sm (w.setCell ⟨g, 72, none⟩ (.int .i64 n)) g st blk n len last mid sch := by
  refine ⟨(h.put (8 + (64 + 0)) _).trans ?_, h.l1, h.l2, h.l3, h.l4, h.lm⟩
  unfold smL
  rw [app_set (by simp [h.l1]), app_set (by simp [bcs, h.l2])]
  rfl
theorem Sm.set_len (h : Sm w g st blk used len last mid sch) (n : Int) : Sm (w.setCell ⟨g, 73, none⟩ (.int .u64 n)) g st blk used n last mid sch := by
  refine ⟨(h.put (8 + (64 + 1)) _).trans ?_, h.l1, h.l2, h.l3, h.l4, h.lm⟩
  unfold smL
  rw [app_set (by simp [h.l1]), app_set (by simp [bcs, h.l2])]
  rfl
end
end Go.Proofs.YtdmnjjknkcnkgaaDoor
namespace Go.Proofs.YtdmnjjknkcnkgaaDoor
open Go.RowKit

theorem region_tail {P : Program} {id : Nat} {Q : Exit → Act → World → Prop} {a : Act} {w : World} {l : List Oper} (n : Nat) (hm : P.follows .mixedOrders = true) (hB : Region.lexTailB .any l.toArray n = true)
    (h : ∀ w1 : World, Hid (w1.heap = w.heap) → Below w.heap.size w w1 → wpStill P l.toArray w1 (fun a' => wpList P l.toArray Q (l.drop n) a' w1) (l.take n) a) : (Code.region id l.toArray true).wp P Q a w :=
  wp_region_still_tail n hm hB (h w.drew rfl (Below.refl _ _).drew)
theorem region_all {P : Program} {id : Nat} {Q : Exit → Act → World → Prop} {a : Act} {w : World} {l : List Oper} (hm : P.follows .mixedOrders = true) (hB : Region.lexB .any l.toArray = true)
    (h : ∀ w1 : World, Hid (w1.heap = w.heap) → Below w.heap.size w w1 → wpStill P l.toArray w1 (fun a' => Q .normal a' w1) l a) : (Code.region id l.toArray true).wp P Q a w :=
  wp_region_still_lit hm hB (h w.drew rfl (Below.refl _ _).drew)
theorem cell_hid {w w1 : World} (h : Hid (w1.heap = w.heap)) {p : Addr} {v : Value} (hc : w.cell? p = some v) : w1.cell? p = some v := by
  have e : w1.cell? p = w.cell? p := by simp [World.cell?, h.out]
  rw [e, hc]
theorem heap_hid {w w1 : World} (h : Hid (w1.heap = w.heap)) (g : Nat) : w1.heap[g]? = w.heap[g]? := by rw [h.out]
theorem below_drewN {B : Nat} {a w w1 : World} {n : Nat} (h : Below B a w) (k : Below (w.drewN n).heap.size (w.drewN n) w1) (hB : B ≤ w.heap.size) : Below B a w1 :=
  h.trans ⟨k.os, k.tape, k.output, k.size, fun i hi => k.block i (Nat.lt_of_lt_of_le hi hB)⟩
/-- A quiet call in a region behind one that drew. -/
theorem call_more {P : Program} {f : FuncId} {args : Array Value} {w : World} {a n : Nat} {v : Value} (h : Calls P f args (w.drewN (a + n)) fun e w' => e = .returned v ∧ w' = w.drewN (a + n)) :
    Calls P f args (w.drewN (a + n)) fun e w' => e = .returned v ∧ ∃ m, w' = w.drewN (a + m) := h.mono fun _ _ k => ⟨k.1, n, k.2⟩
end Go.Proofs.YtdmnjjknkcnkgaaDoor
namespace Go.Proofs.YtdmnjjknkcnkgaaDoor
open Go.RowKit

theorem and31 : ∀ n : Fin 32, 1 ≤ n.1 → bits .and .u64 (IntKind.u64.wrap (-(n.1 : Int))) 31 = ((32 - n.1 : Nat) : Int) := by decide +kernel
theorem rotl_any (x : UInt32) (n : Nat) (w : World) (hn : 1 ≤ n ∧ n ≤ 31) :
    Calls Tryd.prog 92 #[.int .u32 (u x), .int .i64 (-(n : Int))] w fun e w' => e = .returned (.int .u32 (u (rr x n))) ∧ w' = w := by
  have h1 := u_lo x
  have h2 := u_hi x
  have e := and31 ⟨n, by omega⟩ hn.1
  simp only at e
  have hk : 1 ≤ 32 - n ∧ 32 - n ≤ 31 := by omega
  have E : Hid (bits BinOp.or IntKind.u32 (u x * 2 ^ (32 - n) % 4294967296) (u x / 2 ^ (32 - (32 - n))) = u (rr x n)) := by
    unfold Hid
    rw [u_shr, u_shl, u_or, show 32 - (32 - n) = n by omega]
    unfold rr sr
    rw [UInt32.or_comm]
  generalize 32 - n = k at e hk E
  go_enter Tryd.func92, Tryd.ntmps92
  go_wp2_with fail
  go_ret
  exact ⟨ret_int E.out, rfl⟩

theorem right_any (x : UInt32) (n : Nat) (w : World) (hn : 1 ≤ n ∧ n ≤ 31) :
    Calls Tryd.prog 84 #[.int .u32 (u x), .int .i64 n] w fun e w' => e = .returned (.int .u32 (u (rr x n))) ∧ w' = w := by
  go_enter Tryd.func84, Tryd.ntmps84
  go_wp2_with (go_at_call 92; refine (rotl_any x n _ hn).mono ?_; rintro e w' ⟨rfl, rfl⟩)
  go_ret
  exact ⟨rfl, rfl⟩

theorem turned_any (x : UInt32) (i j k : Nat) (w : World) (hi : 1 ≤ i ∧ i ≤ 31) (hj : 1 ≤ j ∧ j ≤ 31) (hk : 1 ≤ k ∧ k ≤ 31) :
    Calls Tryd.prog 74 #[.int .u32 (u x), .int .i64 i, .int .i64 j, .int .i64 k] w fun e w' => e = .returned (.int .u32 (u (rr x i ^^^ rr x j ^^^ rr x k))) ∧ w' = w := by
  have r1 := u_xor
  go_enter Tryd.func74, Tryd.ntmps74
  go_wp2_with (go_at_call 84; refine (right_any x _ _ (by omega)).mono ?_; rintro e w' ⟨rfl, rfl⟩)
  go_ret
  exact ⟨rfl, rfl⟩

theorem shifted_any (x : UInt32) (i j k : Nat) (w : World) (hi : 1 ≤ i ∧ i ≤ 31) (hj : 1 ≤ j ∧ j ≤ 31) (hk : 1 ≤ k ∧ k ≤ 31) :
    Calls Tryd.prog 83 #[.int .u32 (u x), .int .i64 i, .int .i64 j, .int .i64 k] w fun e w' => e = .returned (.int .u32 (u (rr x i ^^^ rr x j ^^^ sr x k))) ∧ ∃ n, w' = w.drewN n := by
  have r1 := u_xor
  have r2 := u_shr
  have lo := u_lo x
  have hi := u_hi x
  go_enter Tryd.func83, Tryd.ntmps83
  go_wp2_with fail
  go_quiet ((go_at_call 84; exact Calls.quiet_of_same (right_any x _ _ (by omega))))
  go_wp2_with fail
  go_ret
  exact ⟨rfl, nq, rfl⟩
theorem shifted_lit (x : UInt32) (i j k : Int) (w : World) (hi : 1 ≤ i ∧ i ≤ 31) (hj : 1 ≤ j ∧ j ≤ 31) (hk : 1 ≤ k ∧ k ≤ 31) :
    Calls Tryd.prog 83 #[.int .u32 (u x), .int .i64 i, .int .i64 j, .int .i64 k] w fun e w' => e = .returned (.int .u32 (u (rr x i.toNat ^^^ rr x j.toNat ^^^ sr x k.toNat))) ∧ ∃ n, w' = w.drewN n := by
  obtain ⟨a, rfl⟩ := Int.eq_ofNat_of_zero_le (show 0 ≤ i by omega)
  obtain ⟨b, rfl⟩ := Int.eq_ofNat_of_zero_le (show 0 ≤ j by omega)
  obtain ⟨c, rfl⟩ := Int.eq_ofNat_of_zero_le (show 0 ≤ k by omega)
  exact shifted_any x a b c w (by omega) (by omega) (by omega)
theorem turned_lit (x : UInt32) (i j k : Int) (w : World) (hi : 1 ≤ i ∧ i ≤ 31) (hj : 1 ≤ j ∧ j ≤ 31) (hk : 1 ≤ k ∧ k ≤ 31) :
    Calls Tryd.prog 74 #[.int .u32 (u x), .int .i64 i, .int .i64 j, .int .i64 k] w fun e w' => e = .returned (.int .u32 (u (rr x i.toNat ^^^ rr x j.toNat ^^^ rr x k.toNat))) ∧ w' = w := by
  obtain ⟨a, rfl⟩ := Int.eq_ofNat_of_zero_le (show 0 ≤ i by omega)
  obtain ⟨b, rfl⟩ := Int.eq_ofNat_of_zero_le (show 0 ≤ j by omega)
  obtain ⟨c, rfl⟩ := Int.eq_ofNat_of_zero_le (show 0 ≤ k by omega)
  exact turned_any x a b c w (by omega) (by omega) (by omega)
end Go.Proofs.YtdmnjjknkcnkgaaDoor
namespace Go.Proofs.YtdmnjjknkcnkgaaDoor
open Go.RowKit

theorem take_set_snoc (L : List UInt32) (k : Nat) (x : UInt32) (h : k < L.length) : (L.set k x).take (k + 1) = L.take k ++ [x] := by
  rw [List.take_add_one, List.getElem?_set_self h, List.take_set_of_le (Nat.le_refl _)]
  rfl
theorem ext_take (L : List UInt32) (i : Nat) (h1 : 16 ≤ i) : ext (L.take i) i = ext L i := by
  have e : ∀ d, 1 ≤ d → d ≤ 16 → (L.take i).getD (i - d) 0 = L.getD (i - d) 0 := fun d a b => by
    simp only [List.getD]
    rw [List.getElem?_take_of_lt (by omega)]
  unfold ext
  rw [e 2 (by omega) (by omega), e 7 (by omega) (by omega), e 15 (by omega) (by omega), e 16 (by omega) (by omega)]
theorem sched_step (L W : List UInt32) (i : Nat) (h1 : 16 ≤ i) (h2 : i < L.length) (h : L.take i = sched W (i - 16)) : (L.set i (ext L i)).take (i + 1) = sched W (i + 1 - 16) := by
  rw [take_set_snoc L i _ h2, show i + 1 - 16 = (i - 16) + 1 by omega, sched, ← h, show 16 + (i - 16) = i by omega, ext_take L i h1]
theorem grown_set {w a : World} {g i : Nat} {v : Value} (h : w.grownBy a (some g)) : w.grownBy (a.setCell ⟨g, i, none⟩ v) (some g) :=
  ⟨h.os, h.tape, h.output, by have := h.size; simpa [World.setCell] using this, fun k hk hne => by
    rw [Below.heap_setCell _ _ _ _ (fun e => hne (by rw [e])), h.block k hk hne]⟩
theorem grown_row {w a b : World} {r : Option Nat} (h : w.grownBy a r) (k : Below a.heap.size a b) : w.grownBy b r :=
  ⟨k.os.trans h.os, k.tape.trans h.tape, k.output.trans h.output, Nat.le_trans h.size k.size, fun i hi hne => by
    have := h.size
    rw [k.block i (by omega), h.block i hi hne]⟩
theorem bcs_all (l : List UInt8) : (bcs l).toArray.all (·.oneCell') = true := by
  simp only [Array.all_eq_true_iff_forall_mem, List.mem_toArray]
  exact bcs_one l
theorem grown_both {a b c : World} {g : Nat} (h : a.grownBy b (some g)) (k : b.drew.grownBy c (some g)) : a.grownBy c (some g) :=
  ⟨k.os.trans h.os, k.tape.trans h.tape, k.output.trans h.output, Nat.le_trans h.size k.size, fun i hi hne => (k.block i (Nat.lt_of_lt_of_le hi h.size) hne).trans (h.block i hi hne)⟩
theorem grown_then {a b c : World} {g : Nat} (h : a.grownBy b (some g)) (k : b.grownBy c (some g)) : a.grownBy c (some g) :=
  ⟨k.os.trans h.os, k.tape.trans h.tape, k.output.trans h.output, Nat.le_trans h.size k.size, fun i hi hne => (k.block i (Nat.lt_of_lt_of_le hi h.size) hne).trans (h.block i hi hne)⟩
theorem gbelow {a b : World} {g : Nat} (h : a.grownBy b (some g)) (hg : g ≤ a.heap.size) : Below g a b :=
  ⟨h.os, h.tape, h.output, h.size, fun k hk => h.block k (by omega) (fun e => by have := Option.some.inj e; omega)⟩
theorem word_at {P : List UInt8} {a k : Nat} {b0 b1 b2 b3 : UInt8} (h0 : P[64 * a + 4 * k]? = some b0) (h1 : P[64 * a + 4 * k + 1]? = some b1) (h2 : P[64 * a + 4 * k + 2]? = some b2) (h3 : P[64 * a + 4 * k + 3]? = some b3) :
    word (P.drop (64 * a)) k = be4 b0 b1 b2 b3 := by
  unfold word
  simp only [List.getD, List.getElem?_drop, ← Nat.add_assoc, h0, h1, h2, h3, Option.getD_some]
theorem sched_turn (a b c d : UInt32) : a + b + c + d = d + b + c + a := by
  rw [UInt32.add_comm (a + b + c) d, UInt32.add_comm a b, UInt32.add_assoc b a c, UInt32.add_comm a c, ← UInt32.add_assoc, ← UInt32.add_assoc]
theorem grown_drewN {w a : World} {r : Option Nat} {n : Nat} (h : w.grownBy a r) : w.grownBy (a.drewN n) r := ⟨h.os, h.tape, h.output, h.size, h.block⟩
end Go.Proofs.YtdmnjjknkcnkgaaDoor
namespace Go.Proofs.YtdmnjjknkcnkgaaDoor
open Go.RowKit

theorem slice_blk (g o k : Nat) (hk : k < 16) (w : World) :
    (Instr.sliceAt 106 (.pointer (some ⟨g, o, none⟩)) (some (.int .i64 (4 * (k : Int)))) (some (.int .i64 (4 * (k : Int) + 4))) none).run Tryd.prog w = .ok (.slice (some ⟨g, o + 4 * k, none⟩) 4 (64 - 4 * k)) w := by
  have hz : ∀ w', (sizeOf (Tryd.prog.elem 106)).run Tryd.prog w' = .ok 1 w' := fun w' => by kernel_rfl
  have hn : Tryd.prog.arrayLen 106 = 64 := by kernel_rfl
  rw [run_sliceAt_array_lh w 106 ⟨g, o, none⟩ (by kernel_rfl) .i64 .i64 _ _ (by omega) (by omega) (by rw [hn]; omega), hz, hn]
  simp only [Result.andThen_ok, slicedAt]
  have e1 : (4 * (k : Int)).toNat = 4 * k := by omega
  have e2 : (4 * (k : Int) + 4).toNat = 4 * k + 4 := by omega
  rw [e1, e2, if_neg (by omega), Addr.add_lit, Nat.mul_one, show 4 * k + 4 - 4 * k = 4 by omega]

set_option maxRecDepth 100000 in
set_option maxHeartbeats 4000000 in
theorem spread_any (g : Nat) (st : List UInt32) (blk : List UInt8) (used : Nat) (len : Int) (last : List UInt8) (mid : List Value) (sch : List UInt32) (w : World) (h : Sm w g st blk used len last mid sch) :
    Calls Tryd.prog 73 #[.pointer (some ⟨g, 74, none⟩)] w fun e w' => e = .returned (.tuple #[]) ∧ Sm w' g st blk used len last mid (sched (words last 16) 48) ∧ w.grownBy w' (some g) := by
  go_enter Tryd.func73, Tryd.ntmps73
  go_wp2_with fail
  go_loopw [11] (fun i wq => ∃ (k : Nat) (L : List UInt32), k ≤ 16 ∧ i = .int .i64 k ∧ Sm wq g st blk used len last mid L ∧ Hid (L.take k = words last k) ∧ w.grownBy wq (some g)) (fun i _ => 16 - (intOf i).toNat)
  case atStart => exact ⟨0, sch, Nat.zero_le _, rfl, h, rfl, World.grownBy.refl _ _⟩
  case round =>
    obtain ⟨k, L, hk, rfl, hS, ht, hg⟩ := hrel
    by_cases hk16 : k < 16
    · have y0 := hS.last_cell (4 * k) (by omega)
      have y1 := hS.last_cell (4 * k + 1) (by omega)
      rw [← Nat.add_assoc] at y1
      have y2 := hS.last_cell (4 * k + 2) (by omega)
      rw [← Nat.add_assoc] at y2
      have y3 := hS.last_cell (4 * k + 3) (by omega)
      rw [← Nat.add_assoc] at y3
      have HW : Hid (word last k = be4 (last.getD (4 * k) 0) (last.getD (4 * k + 1) 0) (last.getD (4 * k + 2) 0) (last.getD (4 * k + 3) 0)) := rfl
      generalize last.getD (4 * k) 0 = b0 at y0 HW
      generalize last.getD (4 * k + 1) 0 = b1 at y1 HW
      generalize last.getD (4 * k + 2) 0 = b2 at y2 HW
      generalize last.getD (4 * k + 3) 0 = b3 at y3 HW
      have lo0 := ub_lo b0
      have hi0 := ub_hi b0
      have lo1 := ub_lo b1
      have hi1 := ub_hi b1
      have lo2 := ub_lo b2
      have hi2 := ub_hi b2
      have lo3 := ub_lo b3
      have hi3 := ub_hi b3
      have m1 : 4 * (k : Int) + 4 ≤ 64 := by omega
      have k64 : (k : Int) < 64 := by omega
      have hsl := slice_blk g 74 k hk16
      go_wp2_with fail
      refine region_tail 26 (by kernel_rfl) (by kernel_rfl) ?_
      intro wx hx bx
      replace y0 := cell_hid hx y0
      replace y1 := cell_hid hx y1
      replace y2 := cell_hid hx y2
      replace y3 := cell_hid hx y3
      have hSx := hS.kept (heap_hid hx g)
      have tw := hSx.sch_cell k (by omega)
      have tf := hSx.free (141 + k)
      simp only [List.take_succ_cons, List.take_zero, List.drop_succ_cons, List.drop_zero]
      iterate 26 still_step
      refine wpStill_nil ?_
      go_wp2_with fail
      go_roundw
      case rel =>
        refine ⟨k + 1, L.set k (be4 b0 b1 b2 b3), by omega, by go_num, ?_, ?_, ?_⟩
        · have := hSx.set_sch k (be4 b0 b1 b2 b3) (by omega)
          rw [← or_be4] at this
          exact this
        · unfold Hid
          rw [words_snoc, HW.out, ← ht.out]
          exact take_set_snoc _ _ _ (by have := hSx.l4; omega)
        · exact grown_set (grown_row hg bx)
      case measure => simp [intOf]; omega
    · obtain rfl : k = 16 := by omega
      have HT : Hid (L.take 16 = words last 16) := ht
      clear ht hk hk16
      go_wp2_with fail
      simp only [show ((16 : Nat) : Int) = 16 from rfl]
      go_loopw [5] (fun i wq => ∃ (i0 : Nat) (L1 : List UInt32), 16 ≤ i0 ∧ i0 ≤ 64 ∧ i = .int .i64 i0 ∧ Sm wq g st blk used len last mid L1 ∧ Hid (L1.take i0 = sched (words last 16) (i0 - 16)) ∧ w.grownBy wq (some g)) (fun i _ => 64 - (intOf i).toNat)
      case atStart => exact ⟨16, L, by omega, by omega, rfl, hS, HT, hg⟩
      case round =>
        clear hS HT hg
        obtain ⟨i, L1, hi1, hi2, rfl, hS, HT, hg⟩ := hrel
        by_cases hi3 : i < 64
        · have x15 := hS.sch_cell (i - 15) (by omega)
          have x2 := hS.sch_cell (i - 2) (by omega)
          have x7 := hS.sch_cell (i - 7) (by omega)
          have x16 := hS.sch_cell (i - 16) (by omega)
          have HE : Hid (ext L1 i = bs1 (L1.getD (i - 2) 0) + L1.getD (i - 7) 0 + bs0 (L1.getD (i - 15) 0) + L1.getD (i - 16) 0) := rfl
          generalize L1.getD (i - 15) 0 = a15 at x15 HE
          generalize L1.getD (i - 2) 0 = a2 at x2 HE
          generalize L1.getD (i - 7) 0 = a7 at x7 HE
          generalize L1.getD (i - 16) 0 = a16 at x16 HE
          have HF : Hid (ext L1 i = a16 + a7 + (rr a15 7 ^^^ rr a15 18 ^^^ sr a15 3) + (rr a2 17 ^^^ rr a2 19 ^^^ sr a2 10)) := by
            unfold Hid
            rw [HE.out, sched_turn]
            rfl
          clear HE
          have e15 := IntWalk.i64_in ((i : Int) - 15) (by omega)
          have e2 := IntWalk.i64_in ((i : Int) - 2) (by omega)
          have e7 := IntWalk.i64_in ((i : Int) - 7) (by omega)
          have e16 := IntWalk.i64_in ((i : Int) - 16) (by omega)
          have n15 : 0 ≤ (i : Int) - 15 := by omega
          have n2 : 0 ≤ (i : Int) - 2 := by omega
          have n7 : 0 ≤ (i : Int) - 7 := by omega
          have n16 : 0 ≤ (i : Int) - 16 := by omega
          have k15 : 15 ≤ (i : Int) := by omega
          have k2 : 2 ≤ (i : Int) := by omega
          have k7 : 7 ≤ (i : Int) := by omega
          have k16 : 16 ≤ (i : Int) := by omega
          have m15 : (i : Int) - 15 < 64 := by omega
          have m2 : (i : Int) - 2 < 64 := by omega
          have m7 : (i : Int) - 7 < 64 := by omega
          have m16 : (i : Int) - 16 < 64 := by omega
          have m0 : (i : Int) < 64 := by omega
          have c15 : ((i : Int) - 15).toNat = i - 15 := by omega
          have c2 : ((i : Int) - 2).toNat = i - 2 := by omega
          have c7 : ((i : Int) - 7).toNat = i - 7 := by omega
          have c16 : ((i : Int) - 16).toNat = i - 16 := by omega
          go_wp2_with fail
          go_quiet (fail)
          go_wp2_with fail
          have far16 : ∀ (W : World) (v : Value), (W.setCell ⟨g, 141 + i, none⟩ v).cell? ⟨g, 141 + (i - 16), none⟩ = W.cell? ⟨g, 141 + (i - 16), none⟩ := fun W v => World.cell?_setCell_other W _ _ v (fun e => by have := congrArg Addr.off e; simp at this; omega)
          have far7 : ∀ (W : World) (v : Value), (W.setCell ⟨g, 141 + i, none⟩ v).cell? ⟨g, 141 + (i - 7), none⟩ = W.cell? ⟨g, 141 + (i - 7), none⟩ := fun W v => World.cell?_setCell_other W _ _ v (fun e => by have := congrArg Addr.off e; simp at this; omega)
          have tw := hS.sch_cell i hi3
          have tf := hS.free (141 + i)
          have r1 := u_xor
          have r2 := u_add
          have r3 := u_wrap
          have lo := u_lo
          have hi := u_hi
          go_region_held3 (fun w' => w'.cell? ⟨g, 141 + (i - 16), none⟩ = some (.int .u32 (u a16)) ∧ w'.cell? ⟨g, 141 + (i - 7), none⟩ = some (.int .u32 (u a7))) (first | go_keep | exact ⟨x16, x7⟩ | (simp only [far16, far7, World.cell?_drewN]; exact ⟨x16, x7⟩)) ((go_at_call 83; refine (shifted_lit _ _ _ _ _ (by omega) (by omega) (by omega)).mono ?_; rintro e w' ⟨rfl, d1, rfl⟩))
          go_wp2_with fail
          go_roundw
          case rel =>
            refine ⟨i + 1, L1.set i (ext L1 i), by omega, by omega, by go_num, ?_, ?_, ?_⟩
            · rw [HF.out]
              exact (hS.kept (w' := wr.drewN _) rfl).set_sch i _ hi3
            · exact sched_step L1 _ i hi1 (by have := hS.l4; omega) HT.out
            · exact grown_set (grown_drewN hg)
          case measure => simp [intOf]; omega
        · obtain rfl : i = 64 := by omega
          have hW : L1 = sched (words last 16) 48 := by
            have e := HT.out
            rwa [List.take_of_length_le (by have := hS.l4; omega)] at e
          rw [hW] at hS
          clear hW HT
          go_wp2_with fail
          go_end0
          exact ⟨rfl, hS, hg⟩
end Go.Proofs.YtdmnjjknkcnkgaaDoor
namespace Go.Proofs.YtdmnjjknkcnkgaaDoor
open Go.RowKit

theorem sm_splice (st : List UInt32) (blk cs : List UInt8) (used : Nat) (len : Int) (last : List UInt8) (mid : List Value) (sch : List UInt32) (n : Nat) (h1 : st.length = 8) (h2 : n + cs.length ≤ blk.length) :
    (smL st blk used len last mid sch).take (8 + n) ++ bcs cs ++ (smL st blk used len last mid sch).drop (8 + n + (bcs cs).length) = smL st (blk.take n ++ cs ++ blk.drop (n + cs.length)) used len last mid sch := by
  have e1 : (st.map cu).length = 8 := by simp [h1]
  have e2 : (bcs blk).length = blk.length := bcs_length blk
  unfold smL
  generalize [Value.int .i64 (used : Int), .int .u64 len] ++ (bcs last ++ (mid ++ sch.map cu)) = R
  rw [List.take_append, List.drop_append, e1, List.take_of_length_le (by omega), List.drop_of_length_le (by omega), show 8 + n - 8 = n by omega, bcs_length, show 8 + n + cs.length - 8 = n + cs.length by omega,
    List.take_append_of_le_length (by omega), List.drop_append_of_le_length (by omega), bcs_append, bcs_append, bcs_take]
  have e3 : (bcs blk).drop (n + cs.length) = bcs (blk.drop (n + cs.length)) := by simp [bcs]
  rw [e3]
  simp [List.append_assoc]

theorem step_copy_sm {P : Program} {ops : Array Oper} {o : Oper} {a : Act} {w : World} {K : Act → World → Prop} {Q : Exit → Act → World → Prop} {E : Prop} (hgd : o.guard = none) (d s : Operand) (dT sT : TypeId)
    (ho : o.op = .call { callee := .builtin .copy, args := #[d, s], argTypes := #[dT, sT] }) (elem : TypeId) (hu : P.underlying dT = some (.slice elem)) (hsz : (P.info? elem).map (·.size) = some 1)
    (g : Nat) (st : List UInt32) (blk : List UInt8) (used : Nat) (len : Int) (last : List UInt8) (mid : List Value) (sch : List UInt32) (h : Sm w g st blk used len last mid sch) (n : Nat) (hn : n < 64)
    (hd : a.eval d = .slice (some ⟨g, 8 + n, none⟩) (64 - n) (64 - n)) (ao : Option Addr) (pn pc : Nat) (p : List UInt8) (hs : a.eval s = .slice ao pn pc) (hp : IsB w ao pn pc p) (hpos : 0 < pn) (c : Nat) (hc : c = min pn (64 - n))
    (hK : ∀ w', Sm w' g st (blk.take n ++ p.take c ++ blk.drop (n + c)) used len last mid sch → w.grownBy w' (some g) → K (a.put o.dst (.int .i64 c)) w') :
    if Region.wanted o (yielded ops a.tmps) = true then Oper.wp P o a w K Q else E := by
  have hw : Region.wanted o (yielded ops a.tmps) = true := by simp [Region.wanted, hgd]
  rw [if_pos hw]
  have hl2 := h.l2
  have hpl := hp.len
  have hcl : (p.take c).length = c := by rw [List.length_take]; omega
  have hbl : (bcs (p.take c)).length = c := by rw [bcs_length, hcl]
  cases ao with
  | none =>
    have h1 := hp.nil rfl
    have h2 := hp.le
    omega
  | some ad =>
    have hrun := run_copy_row (P := P) w dT sT o.type elem g (8 + n) (64 - n) (64 - n) ad pn pc (smL st blk used len last mid sch).toArray 110 (bcs (p.take c)) hu hsz h.row
      (by rw [hbl, hc])
      (fun j v hj => by
        rw [bcs_get] at hj
        obtain ⟨x, hx, rfl⟩ := Option.map_eq_some_iff.1 hj
        refine hp.cell ad rfl j x ?_
        rw [List.getElem?_take] at hx
        split at hx
        · exact hx
        · cases hx)
      (by rw [hbl]; simp [smL, bcs, h.l1, h.l2]; omega) (bcs_one _)
    rw [sm_splice st blk (p.take c) used len last mid sch n h.l1 (by rw [hcl]; omega), hcl, hbl] at hrun
    unfold Oper.wp
    simp only [execOp, ho, resolve, invoke, builtin, hd, hs, hrun, Sem.run_bind, Sem.run_pure, Result.andThen_ok, List.map_toArray, List.map_cons, List.map_nil]
    refine hK _ ⟨?_, h.l1, by simp [h.l2]; omega, h.l3, h.l4, h.lm⟩ ⟨rfl, rfl, rfl, by simp, fun k _ hk => setRow_other w g k _ (fun e => hk (by rw [e]))⟩
    exact setRow_heap w g _ _ _ _ h.row
end Go.Proofs.YtdmnjjknkcnkgaaDoor
namespace Go.Proofs.YtdmnjjknkcnkgaaDoor

theorem word_append (l p : List UInt8) (i : Nat) (h : 4 * i + 4 ≤ l.length) : word (l ++ p) i = word l i := by
  have e : ∀ j, j < l.length → (l ++ p).getD j 0 = l.getD j 0 := fun j hj => by simp [List.getD, List.getElem?_append_left hj]
  unfold word
  rw [e _ (by omega), e _ (by omega), e _ (by omega), e _ (by omega)]
theorem words_append (l p : List UInt8) (h : 64 ≤ l.length) : words (l ++ p) 16 = words l 16 := by
  unfold words
  refine List.map_congr_left fun i hi => word_append l p i ?_
  have := List.mem_range.1 hi
  omega
theorem mix_append (s : St) (l p : List UInt8) (h : 64 ≤ l.length) : s.mix (l ++ p) = s.mix l := by
  unfold St.mix
  rw [words_append l p h]
theorem blocks_append (m p : List UInt8) (s : St) : ∀ n, 64 * n ≤ m.length → blocks (m ++ p) s n = blocks m s n
  | 0, _ => rfl
  | n + 1, h => by
    rw [blocks, blocks, blocks_append m p s n (by omega), List.drop_append_of_le_length (by omega), mix_append _ _ _ (by simp; omega)]

/-- THE BYTES m HAVE BEEN TAKEN IN. -/
structure Taken (m : List UInt8) (st : St) (blk : List UInt8) (used : Nat) : Prop where
  hst : st = blocks m H0 (m.length / 64)
  hused : used = m.length % 64
  wait : blk.take used = m.drop (64 * (m.length / 64))
theorem Taken.more {m : List UInt8} {st : St} {blk : List UInt8} {used : Nat} (h : Taken m st blk used) (cs : List UInt8) (hb : blk.length = 64) (hc : used + cs.length < 64) :
    Taken (m ++ cs) st (blk.take used ++ cs ++ blk.drop (used + cs.length)) (used + cs.length) := by
  have hu := h.hused
  have e : (m ++ cs).length / 64 = m.length / 64 := by rw [List.length_append]; omega
  refine ⟨?_, by rw [List.length_append]; omega, ?_⟩
  · rw [e, blocks_append m cs H0 _ (by omega)]
    exact h.hst
  · rw [e, List.drop_append_of_le_length (by omega), ← h.wait]
    have hl : (blk.take used ++ cs).length = used + cs.length := by rw [List.length_append, List.length_take]; omega
    rw [← hl, List.take_left]
theorem Taken.full {m : List UInt8} {st : St} {blk : List UInt8} {used : Nat} (h : Taken m st blk used) (cs : List UInt8) (hc : used + cs.length = 64) (c : List UInt8) :
    Taken (m ++ cs) (st.mix (blk.take used ++ cs)) c 0 := by
  have hu := h.hused
  have e : (m ++ cs).length / 64 = m.length / 64 + 1 := by rw [List.length_append]; omega
  refine ⟨?_, by rw [List.length_append]; omega, ?_⟩
  · rw [e, blocks, blocks_append m cs H0 _ (by omega), ← h.hst, List.drop_append_of_le_length (by omega), ← h.wait]
  · rw [e, List.take_zero, List.drop_of_length_le (by rw [List.length_append]; omega)]
theorem Taken.none (blk : List UInt8) : Taken [] H0 blk 0 := ⟨rfl, rfl, rfl⟩
theorem pad_count (n : Nat) : (120 - (n + 1) % 64) % 64 = (119 - n % 64) % 64 := by omega
theorem Taken.sum {m : List UInt8} {st : St} {blk : List UInt8} {used : Nat} (h : Taken (padded m) st blk used) : (st.l.map fun x => be 4 x.toNat).flatten = sha m := by
  unfold sha
  rw [h.hst]
theorem sched_zero : sched (words (List.replicate 64 0) 16) 48 = List.replicate 64 0 := by decide +kernel
end Go.Proofs.YtdmnjjknkcnkgaaDoor
namespace Go.Proofs.YtdmnjjknkcnkgaaDoor
open Go.RowKit

theorem IsB_take {w : World} {ao : Option Addr} {n cap m : Nat} {l : List UInt8} (h : IsB w ao n cap l) (hm : m ≤ n) : IsB w ao m cap (l.take m) := by
  have h1 := h.len
  have h2 := h.le
  refine ⟨by rw [List.length_take]; omega, by omega, h.max, h.nil, fun a ha j u hu => h.cell a ha j u ?_⟩
  rw [List.getElem?_take] at hu
  split at hu
  · exact hu
  · cases hu
theorem IsB_drop {w : World} {ao : Option Addr} {n cap m : Nat} {l : List UInt8} (h : IsB w ao n cap l) (hm : m ≤ n) : IsB w (Option.map (fun x => x.add m) ao) (n - m) (cap - m) (l.drop m) := by
  have h1 := h.len
  have h2 := h.le
  have h3 := h.max
  refine ⟨by rw [List.length_drop]; omega, by omega, by omega, fun hn => ?_, fun a ha j u hu => ?_⟩
  · have := h.nil (by simpa using hn)
    omega
  · obtain ⟨b, rfl, rfl⟩ := Option.map_eq_some_iff.1 ha
    rw [Addr.add_add]
    rw [List.getElem?_drop] at hu
    exact h.cell b rfl _ u hu
theorem IsB_end {w : World} {ao : Option Addr} {n cap : Nat} {l : List UInt8} (h : IsB w ao n cap l) : IsB w ao 0 0 (l.drop n) := by
  have h1 := h.len
  rw [List.drop_eq_nil_of_le (by omega)]
  exact ⟨rfl, Nat.le_refl _, Nat.zero_le _, fun _ => rfl, fun a ha j u hu => by cases hu⟩
theorem block_add (a : Addr) (m : Nat) : (a.add m).block = a.block := by unfold Addr.add; split <;> rfl
/-- 'p[c:]'. -/
theorem IsB_cut {P : Program} {w : World} {ao : Option Addr} {n cap : Nat} {l : List UInt8} {t : TypeId} (h : IsB w ao n cap l) (ht : P.underlying t = some (.slice (P.elem t))) (hz : ∀ w' : World, (sizeOf (P.elem t)).run P w' = .ok 1 w') (c : Nat) (hc : c ≤ n) :
    ∃ ao2, (∀ w' : World, (Instr.slice t (.slice ao n cap) (some (.int .i64 c)) none none).run P w' = .ok (.slice ao2 (n - c) (cap - c)) w') ∧ IsB w ao2 (n - c) (cap - c) (l.drop c) ∧ (∀ a2, ao2 = some a2 → ∃ a, ao = some a ∧ a2.block = a.block) := by
  have hle := h.le
  have hrun : ∀ w' : World, (Instr.slice t (.slice ao n cap) (some (.int .i64 c)) none none).run P w' = .ok (sliced ao c n cap 1) w' := fun w' => by
    rw [run_slice_l w' t ao n cap ht .i64 (c : Int) (by omega) (by omega), hz]
    simp [Result.andThen]
  by_cases he : cap = c
  · have hn : n = c := by omega
    refine ⟨ao, fun w' => by rw [hrun, sliced, if_pos he], ?_, fun a2 h2 => ⟨a2, h2, rfl⟩⟩
    subst he
    subst hn
    rw [Nat.sub_self]
    exact IsB_end h
  · refine ⟨ao.map fun x => x.add c, fun w' => by rw [hrun, sliced, if_neg he]; simp, IsB_drop h hc, fun a2 h2 => ?_⟩
    obtain ⟨b, hb, rfl⟩ := Option.map_eq_some_iff.1 h2
    exact ⟨b, hb, block_add b c⟩
end Go.Proofs.YtdmnjjknkcnkgaaDoor
