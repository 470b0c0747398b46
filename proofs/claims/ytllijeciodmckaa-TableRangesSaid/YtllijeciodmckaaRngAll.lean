/-
  Valid values.
  Rows from one key on up to another one, plain.
  Rows that a function gathers: the slice of their headers is its own (cut out of XLTOrders).
  table.Range (by gen_tabr.py).
  The reference's Range, walked (by gen_rrng.py).
  The same rows twice, walked (by gen_rows10.py).
-/
import Derived.Test.YtllijeciodmckaaV
import Derived.Test.YtllijeciodmckaaTabP
import Derived.Test.YtllijeciodmckaaHd
import Derived.Test.YtllijeciodmckaaRowT
import Derived.Test.YtllijeciodmckaaConc
import Derived.Test.YtllijeciodmckaaTabC
import Derived.Test.YtllijeciodmckaaRTab
import Derived.Test.YtllijeciodmckaaRSame5
import Derived.Test.YtllijeciodmckaaInv
import Derived.Deep.CutRange
namespace Go.Proofs.Ytllijeciodmckaa
open Go.RowKit

/-- A valid value. -/
inductive Vok : V → Prop
  | none : Vok ⟨0, 0, ByteArray.empty⟩
  | bool (n : Int) : n = 0 ∨ n = 1 → Vok ⟨1, n, ByteArray.empty⟩
  | int (n : Int) : -9223372036854775808 ≤ n ∧ n ≤ 9223372036854775807 → Vok ⟨2, n, ByteArray.empty⟩
  | text (s : ByteArray) : s.size ≤ 60 → Vok ⟨3, 0, s⟩
end Go.Proofs.Ytllijeciodmckaa
namespace Go.Proofs.Ytllijeciodmckaa

/-- Where the rows of greater keys begin. -/
def nxtN (ky : Nat) (v : V) (rs : List (List V)) : Nat := if hasN ky v rs then atN ky v rs + 1 else atN ky v rs
def endN (ky : Nat) (hi : V) (rs : List (List V)) : Nat := if hi.k = 0 then rs.length else nxtN ky hi rs
/-- What table.Range cuts out. -/
def rngN (ky : Nat) (lo hi : V) (rs : List (List V)) : List (List V) := (rs.drop (atN ky lo rs)).take (max (atN ky lo rs) (endN ky hi rs) - atN ky lo rs)
/-- Whether a key lies between. -/
def inN (lo hi k : V) : Bool := (decide (lo.k = 0) || decide (0 ≤ k.cmp lo)) && (decide (hi.k = 0) || decide (k.cmp hi ≤ 0))
def rngF (ky : Nat) (lo hi : V) (rs : List (List V)) : List (List V) := rs.filter fun r => inN lo hi (kOf ky r)
theorem filter_ix {α : Type} {p : α → Bool} : ∀ {l : List α} {a b : Nat}, (∀ i x, l[i]? = some x → (p x = true ↔ a ≤ i ∧ i < b)) → l.filter p = (l.drop a).take (b - a)
  | [], a, b, _ => by simp
  | x :: l, a, b, h => by
    have h0 := h 0 x rfl
    have ht := filter_ix (p := p) (l := l) (a := a - 1) (b := b - 1) fun i y hy => by
      have h1 := h (i + 1) y (by simpa using hy)
      rw [h1]
      omega
    cases a with
    | zero =>
      cases b with
      | zero =>
        have hx : p x = false := by
          cases q : p x with
          | false => rfl
          | true => have := h0.1 q; omega
        rw [List.filter_cons_of_neg (by rw [hx]; decide), ht]
        simp
      | succ b =>
        have hx : p x = true := h0.2 ⟨Nat.le_refl _, Nat.zero_lt_succ _⟩
        rw [List.filter_cons_of_pos hx, ht]
        simp
    | succ a =>
      have hx : p x = false := by
        cases q : p x with
        | false => rfl
        | true => have := h0.1 q; omega
      rw [List.filter_cons_of_neg (by rw [hx]; decide), ht, List.drop_succ_cons]
      congr 1
      omega
section
variable {key : Nat} {rs : List (List V)}
theorem nxt_le (key : Nat) (k : V) (rs : List (List V)) : nxtN key k rs ≤ rs.length := by
  have h := at_le key k rs
  unfold nxtN
  split
  · rename_i hh
    have := has_lt hh
    omega
  · exact h
theorem end_le (key : Nat) (k : V) (rs : List (List V)) : endN key k rs ≤ rs.length := by
  unfold endN
  split
  · exact Nat.le_refl _
  · exact nxt_le key k rs
theorem Srt.nxt (h : Srt key rs) (k : V) {i : Nat} {r : List V} (hr : rs[i]? = some r) : (kOf key r).cmp k ≤ 0 ↔ i < nxtN key k rs := by
  have h1 := h.iff (k := k) hr
  unfold nxtN
  split
  · rename_i hh
    unfold hasN at hh
    split at hh
    · rename_i x hx
      have h0 : (kOf key x).cmp k = 0 := by simpa using hh
      rcases Nat.lt_trichotomy i (atN key k rs) with q | q | q
      · have := h1.2 q; omega
      · rw [← q, hr] at hx
        obtain rfl := Option.some.inj hx
        omega
      · have h2 := h.get hx hr q
        have h3 := (V.cmp_zero _ _).1 h0
        rw [h3] at h2
        have := V.cmp_swap k (kOf key r)
        omega
    · cases hh
  · rename_i hh
    have hne : i = atN key k rs → (kOf key r).cmp k ≠ 0 := fun e h0 => by
      refine hh ?_
      unfold hasN
      rw [← e, hr]
      exact decide_eq_true h0
    constructor
    · intro hc
      refine h1.1 ?_
      rcases Nat.lt_or_ge i (atN key k rs) with q | q
      · exact h1.2 q
      · have := h.gt hr q hne
        omega
    · intro q
      have := h1.2 q
      omega
theorem cmp_null {v k : V} (hv : Vok v) (hk : Vok k) (h0 : k.k = 0) : 0 ≤ v.cmp k := by
  have hk0 : k = ⟨0, 0, ByteArray.empty⟩ := by cases hk <;> simp_all
  subst hk0
  unfold V.cmp cmpV or3
  cases hv with
  | none => exact Int.le_of_eq (cmpV_self (k := 0) (n := 0) (s := ByteArray.empty)).symm
  | bool n hn => simp [cmpI]
  | int n hn => simp [cmpI]
  | text s hs => simp [cmpI]
theorem rng_eq (h : Srt key rs) (lo hi : V) (hlo : Vok lo) (hV : ∀ r ∈ rs, Vok (kOf key r)) : rngF key lo hi rs = rngN key lo hi rs := by
  have he := end_le key hi rs
  unfold rngF rngN
  rw [filter_ix (a := atN key lo rs) (b := endN key hi rs)]
  · congr 1
    omega
  · intro i r hr
    have h1 := h.iff (k := lo) hr
    have hi' := (List.getElem?_eq_some_iff.1 hr).1
    have h2 : (decide (lo.k = 0) || decide (0 ≤ (kOf key r).cmp lo)) = true ↔ atN key lo rs ≤ i := by
      rw [Bool.or_eq_true, decide_eq_true_eq, decide_eq_true_eq]
      have h3 := fun h0 => cmp_null (hV r (List.mem_of_getElem? hr)) hlo h0
      constructor
      · rintro (q | q)
        · have := h3 q; omega
        · omega
      · intro q
        right
        omega
    have h4 : (decide (hi.k = 0) || decide ((kOf key r).cmp hi ≤ 0)) = true ↔ i < endN key hi rs := by
      rw [Bool.or_eq_true, decide_eq_true_eq, decide_eq_true_eq]
      unfold endN
      split
      · exact ⟨fun _ => hi', fun _ => .inl ‹_›⟩
      · rw [h.nxt hi hr]
        exact ⟨fun q => q.resolve_left ‹_›, .inr⟩
    unfold inN
    rw [Bool.and_eq_true, h2, h4]
end
end Go.Proofs.Ytllijeciodmckaa
namespace Go.Proofs.Ytllijeciodmckaa
open Go.RowKit
set_option linter.unusedSimpArgs false
/-- The rows put, in the order in which they came: the slice of their headers is the law's own. -/
structure Lst (w : World) (B : Nat) (la : Option Addr) (rn lc : Nat) (hs : List HdR) (L : List (List V)) : Prop where
  own : TxtR EH w 49 B la rn lc hs
  rd : Rd EV w hs L
  ne : ∀ x ∈ hs, ∃ b, x.a = some ⟨b, 0, none⟩ ∧ B ≤ b ∧ b < w.heap.size ∧ blk la ≠ some b
section
variable {w w' : World} {B : Nat} {la : Option Addr} {rn lc : Nat} {hs : List HdR} {L : List (List V)}
theorem Lst.past (h : Lst w B la rn lc hs L) (b : Below w.heap.size w w') : Lst w' B la rn lc hs L := ⟨h.own.past b, h.rd.past b, fun x hx => by
  obtain ⟨b1, h1, h2, h3, h4⟩ := h.ne x hx
  exact ⟨b1, h1, h2, Nat.lt_of_lt_of_le h3 b.size, h4⟩⟩
theorem Lst.nil (w : World) (B : Nat) : Lst w B none 0 0 [] [] := ⟨TxtR.nil .., Rd.nil, fun h hx => by cases hx⟩
theorem Lst.len (h : Lst w B la rn lc hs L) : L.length = rn := by
  rw [← h.rd.1]
  exact h.own.len
theorem Lst.ge (h : Lst w B la rn lc hs L) : ∀ z, blk la = some z → B ≤ z := by
  rcases h.own.either with ⟨rfl, _⟩ | ⟨g, rfl, _, hg⟩
  · intro z hz; cases hz
  · intro z hz
    cases hz
    exact hg
theorem Lst.rr (h : Lst w B la rn lc hs L) : IsRR EV w B la rn lc L := ⟨hs, h.own.isR, h.rd, (fun a ha => h.ge a.block (by rw [ha]; rfl)), (fun x hx a ha => by
  obtain ⟨b1, h1, h2, _⟩ := h.ne x hx
  rw [h1] at ha
  cases ha
  exact h2)⟩
theorem Lst.grown (h : Lst w B la rn lc hs L) {r : Nat} (g : w.grownBy w' (some r)) (hr : r < B) : Lst w' B la rn lc hs L := by
  refine ⟨h.own.grown g fun z hz e => ?_, ⟨h.rd.1, fun j x l hx hl => (h.rd.2 j x l hx hl).grown g (fun a ha e => ?_)⟩, fun x hx => ?_⟩
  · have := h.ge z hz
    have := Option.some.inj e
    omega
  · obtain ⟨b1, h1, h2, _⟩ := h.ne x (List.mem_of_getElem? hx)
    rw [h1] at ha
    cases ha
    have := Option.some.inj e
    simp only at this
    omega
  · obtain ⟨b1, h1, h2, h3, h4⟩ := h.ne x hx
    exact ⟨b1, h1, h2, Nat.lt_of_lt_of_le h3 g.size, h4⟩
theorem Lst.app {gr N rca g' c' : Nat} {row : List V} (h : Lst w B la rn lc hs L) (oR : OwnR EV w 55 gr N rca row) (hB : B ≤ gr) (hne : blk la ≠ some gr) (o' : TxtR EH w' 49 B (some ⟨g', 0, none⟩) (rn + 1) c' (hs ++ [⟨some ⟨gr, 0, none⟩, N, rca⟩])) (g : w.grownBy w' (blk la)) (hg' : blk la = some g' ∨ w.heap.size ≤ g') : Lst w' B (some ⟨g', 0, none⟩) (rn + 1) c' (hs ++ [⟨some ⟨gr, 0, none⟩, N, rca⟩]) (L ++ [row]) := by
  have hlt := oR.lt
  have key : ∀ b, b < w.heap.size → blk la ≠ some b → blk (some (⟨g', 0, none⟩ : Addr)) ≠ some b := by
    intro b hb hn e
    have e2 : g' = b := Option.some.inj e
    rcases hg' with q | q
    · exact hn (by rw [q, e2])
    · omega
  refine ⟨o', Rd.append ⟨h.rd.1, fun j x l hx hl => (h.rd.2 j x l hx hl).grown g (fun a ha e => ?_)⟩ (Rd.one (x := ⟨some ⟨gr, 0, none⟩, N, rca⟩) (oR.grown g (fun e => hne e.symm)).isR), fun x hx => ?_⟩
  · obtain ⟨b1, h1, -, -, h4⟩ := h.ne x (List.mem_of_getElem? hx)
    rw [h1] at ha
    cases ha
    first | exact h4 e | exact h4 e.symm
  · rcases List.mem_append.1 hx with hx | hx
    · obtain ⟨b1, h1, h2, h3, h4⟩ := h.ne x hx
      exact ⟨b1, h1, h2, Nat.lt_of_lt_of_le h3 g.size, key b1 h3 h4⟩
    · obtain rfl := List.mem_singleton.1 hx
      exact ⟨gr, rfl, hB, Nat.lt_of_lt_of_le hlt g.size, key gr hlt hne⟩
end
theorem wpList_append_g {P : Program} {α : Type} {E : Enc α} {zero : α} {e : TypeId} {ao : Option Addr} {n c B : Nat} {l : List α} {w : World} {ops : Array Oper} {rest : List Oper} {o : Oper} {a : Act} {Q : Exit → Act → World → Prop} (hgd : o.guard = none) (s x : Operand) (t tx : TypeId)
    (ho : o.op = .call { callee := .builtin .append, args := #[s, x], argTypes := #[t, tx] }) (hB : RowTy E P t e zero) (hsv : a.eval s = .slice ao n c) (h : TxtR E w e B ao n c l) (hBw : B ≤ w.heap.size)
    (X : Value) (hx : a.eval x = X) (m : Nat) (cs : List α) (hs : Src P E.sz tx X m (E.all cs) w) (hcl : cs.length = m) (hpos : 0 < m) (hmax : n + m ≤ 1000000)
    (hK : ∀ g' c' w', TxtR E w' e B (some ⟨g', 0, none⟩) (n + m) c' (l ++ cs) → w.grownBy w' (blk ao) → (blk ao = some g' ∨ w.heap.size ≤ g') → Below B w w' → wpList P ops Q rest (a.put o.dst (.slice (some ⟨g', 0, none⟩) (n + m) c')) w') : wpList P ops Q (o :: rest) a w := by
  refine wpList_plain hgd fun K hK' => ?_
  exact wp_append_r s x t tx ho hB hsv h hBw X hx m cs hs hcl hpos (n + m) rfl (l ++ cs) rfl hmax fun g' c' w' h1 h2 h3 h4 => hK' _ _ (hK g' c' w' h1 h2 h3 h4)
theorem oneH_lit (w : World) (x : HdR) : IsR EH (w.alloc (.cells #[.slice x.a x.n x.c] 49)) (some ⟨w.heap.size, 0, none⟩) 1 1 [x] := (OwnR.ofBlk (E := EH) (l := [x]) (n := 1) (heap_alloc_new w _) rfl rfl (by omega)).isR
end Go.Proofs.Ytllijeciodmckaa
namespace Go.Proofs.Ytllijeciodmckaa
open Go.RowKit
set_option linter.unusedSimpArgs false
theorem IsRRf.mono {α : Type} {E : Enc α} {w : World} {B B' : Nat} {ao : Option Addr} {n c : Nat} {ls : List (List α)} (h : IsRRf E w B ao n c ls) (hb : B' ≤ B) : IsRRf E w B' ao n c ls := by
  obtain ⟨hs, h1, h2, h3, h4, h5⟩ := h
  exact ⟨hs, h1, h2, h3.mono hb, h4.mono hb, h5⟩
/-- What stands while the region's operations come up. -/
inductive Range1 (B : Nat) (p : Nat) (l : List UInt8) (co : Option Addr) (cn : Nat) (cc : Nat) (ky : Nat) (only : Bool) (ro : Option Addr) (rn : Nat) (rc : Nat) (lk : Int) (lm : Int) (ls : ByteArray) (N : Nat) (tk : Bool) (a0 : Act) (w0 : World) (L : Array Bool) (a : Act) (w : World) : Prop
  | mk (b0 b1 b2 b3 b4 b5 b6 b7 b8 : Bool) (x9 x10 x11 x12 x13 x14 x15 x7 x8 : Value) (hL : L = #[b0, b1, b2, b3, b4, b5, b6, b7, b8]) (ha : a = ⟨(((((((((a0.tmps.setIfInBounds 9 x9).setIfInBounds 10 x10).setIfInBounds 11 x11).setIfInBounds 12 x12).setIfInBounds 13 x13).setIfInBounds 14 x14).setIfInBounds 15 x15).setIfInBounds 7 x7).setIfInBounds 8 x8), a0.defers⟩) (hb : Below B w0 w) (cd0 : Hid (b0 = true → x9 = .agg #[.string (bsOf l), .slice co cn cc, .int .i64 (ky : Nat), .bool only, .slice ro rn rc])) (cd1 : Hid (b1 = true → x10 = .agg #[.int .i64 lk, .int .i64 lm, .string ls])) (cd2 : Hid (b2 = true → x11 = .agg #[.string (bsOf l), .slice co cn cc, .int .i64 (ky : Nat), .bool only, .slice ro rn rc, .int .i64 (N : Nat), .bool tk])) (cd3 : Hid (b3 = true → x12 = .int .i64 (N : Nat))) (cd4 : Hid (b4 = true → x13 = .pointer (some ⟨p, 4, none⟩))) (cd5 : Hid (b5 = true → x14 = .slice ro rn rc)) (cd6 : Hid (b6 = true → x15 = .int .i64 (rn : Nat))) (cd7 : Hid (b7 = true → x7 = .int .i64 (N : Nat))) (cd8 : Hid (b8 = true → x8 = .int .i64 (rn : Nat))) : Range1 B p l co cn cc ky only ro rn rc lk lm ls N tk a0 w0 L a w
set_option maxRecDepth 100000 in
set_option maxHeartbeats 1000000 in
theorem range_any (w : World) (l : List UInt8) (co : Option Addr) (cn cc : Nat) (ky : Nat) (only : Bool) (ro : Option Addr) (rn rc : Nat) (B : Nat) (rs : List (List V)) (h : IsRR EV w B ro rn rc rs) (lo hi : V) (hS : Srt ky rs) (hn : rn ≤ 300) (hfl : ∀ x ∈ rs, x.length ≤ 100) :
    Calls Try.prog 33 #[tbV l co cn cc (ky : Nat) only ro rn rc, vv lo.k lo.n lo.s, vv hi.k hi.n hi.s] w fun e w' => ∃ ao c, e = .returned (.slice ao (rngN ky lo hi rs).length c) ∧ IsRRf EV w' w.heap.size ao (rngN ky lo hi rs).length c (rngN ky lo hi rs) ∧ Below w.heap.size w w' := by
  have hln := h.len
  have hNle := at_le ky lo rs
  have hEle := end_le ky hi rs
  have HS0 := fun (w' : World) (hb : Below w.heap.size w w') => seek_any w' l co cn cc ky only ro rn rc B rs (h.past hb) lo hS (by omega)
  have HX0 := fun (w' : World) (hb : Below w.heap.size w w') => seek_any w' l co cn cc ky only ro rn rc B rs (h.past hb) hi hS (by omega)
  have HRg : Hid (rngN ky lo hi rs = (rs.drop (atN ky lo rs)).take (max (atN ky lo rs) (endN ky hi rs) - atN ky lo rs)) := rfl
  obtain ⟨RG, hRG⟩ : ∃ RG, rngN ky lo hi rs = RG := ⟨_, rfl⟩
  rw [hRG] at HRg
  rw [hRG]
  obtain ⟨N, hN⟩ : ∃ N, atN ky lo rs = N := ⟨_, rfl⟩
  obtain ⟨tk, htk⟩ : ∃ tk, hasN ky lo rs = tk := ⟨_, rfl⟩
  simp only [hN, htk] at HS0 hNle HRg
  clear hN htk hRG
  obtain ⟨lk, lm, ls⟩ := lo
  obtain ⟨hk, hm, hs⟩ := hi
  simp only at HS0 HX0 ⊢
  have B0 : Below w.heap.size w (((w.alloc (.cells #[.string (bsOf l), .slice co cn cc, .int .i64 (ky : Nat), .bool only, .slice ro rn rc] 47)).alloc (.cells #[.int .i64 lk, .int .i64 lm, .string ls] 55)).alloc (.cells #[.int .i64 hk, .int .i64 hm, .string hs] 55)) := (((Below.refl _ _).alloc (Nat.le_refl _) _).alloc (by simp) _).alloc (by simp; omega) _
  have hT : Bk (((w.alloc (.cells #[.string (bsOf l), .slice co cn cc, .int .i64 (ky : Nat), .bool only, .slice ro rn rc] 47)).alloc (.cells #[.int .i64 lk, .int .i64 lm, .string ls] 55)).alloc (.cells #[.int .i64 hk, .int .i64 hm, .string hs] 55)) w.heap.size (tbC l co cn cc (ky : Nat) only ro rn rc) 47 := ((Bk.new w _ _).alloc _).alloc _
  have hLo : VAt (((w.alloc (.cells #[.string (bsOf l), .slice co cn cc, .int .i64 (ky : Nat), .bool only, .slice ro rn rc] 47)).alloc (.cells #[.int .i64 lk, .int .i64 lm, .string ls] 55)).alloc (.cells #[.int .i64 hk, .int .i64 hm, .string hs] 55)) (w.heap.size + 1) lk lm ls := by
    have := (VAt.new (w.alloc (.cells #[.string (bsOf l), .slice co cn cc, .int .i64 (ky : Nat), .bool only, .slice ro rn rc] 47)) lk lm ls).alloc (.cells #[.int .i64 hk, .int .i64 hm, .string hs] 55)
    rwa [World.size_alloc] at this
  have hHi : VAt (((w.alloc (.cells #[.string (bsOf l), .slice co cn cc, .int .i64 (ky : Nat), .bool only, .slice ro rn rc] 47)).alloc (.cells #[.int .i64 lk, .int .i64 lm, .string ls] 55)).alloc (.cells #[.int .i64 hk, .int .i64 hm, .string hs] 55)) (w.heap.size + 1 + 1) hk hm hs := by
    have := VAt.new ((w.alloc (.cells #[.string (bsOf l), .slice co cn cc, .int .i64 (ky : Nat), .bool only, .slice ro rn rc] 47)).alloc (.cells #[.int .i64 lk, .int .i64 lm, .string ls] 55)) hk hm hs
    rwa [World.size_alloc, World.size_alloc] at this
  unfold tbV spV at HS0 HX0
  unfold tbV
  go_enter Try.func33, Try.ntmps33
  go_upto_region 1 with fail
  generalize ((w.alloc (.cells #[.string (bsOf l), .slice co cn cc, .int .i64 (ky : Nat), .bool only, .slice ro rn rc] 47)).alloc (.cells #[.int .i64 lk, .int .i64 lm, .string ls] 55)).alloc (.cells #[.int .i64 hk, .int .i64 hm, .string hs] 55) = W at B0 hT hLo hHi ⊢
  obtain ⟨p, hp⟩ : ∃ p, w.heap.size = p := ⟨_, rfl⟩
  obtain ⟨q, hq⟩ : ∃ q, p + 1 = q := ⟨_, rfl⟩
  obtain ⟨q2, hq2⟩ : ∃ q2, p + 1 + 1 = q2 := ⟨_, rfl⟩
  simp only [hp] at hT hLo hHi ⊢
  simp only [hq2] at hHi ⊢
  simp only [hq] at hLo ⊢
  clear hp hq hq2
  obtain ⟨t0, t1, t2, t3, t4⟩ := tb_cells hT
  obtain ⟨g0, g1, g2, -, -, -, hgB⟩ := hLo
  have hpB := hT.lt
  have HS := fun (w' : World) (hb : Below W.heap.size W.drew w') => HS0 w' (B0.trans (((Below.refl _ _).drew.trans hb).mono B0.size))
  have hB0 : W.heap.size ≤ W.heap.size := Nat.le_refl _
  refine region_inv (Range1 W.heap.size p l co cn cc ky only ro rn rc lk lm ls N tk) (by kernel_rfl) (by kernel_rfl) ?_ ?_ ?_
  · exact ⟨false, false, false, false, false, false, false, false, false, undef, undef, undef, undef, undef, undef, undef, undef, undef, rfl, (by simp only [Act.put, List.setIfInBounds_toArray, List.set_cons_zero, List.set_cons_succ]), Below.refl _ _, (fun h => by cases h), (fun h => by cases h), (fun h => by cases h), (fun h => by cases h), (fun h => by cases h), (fun h => by cases h), (fun h => by cases h), (fun h => by cases h), (fun h => by cases h)⟩
  · refine ⟨?_, ?_, ?_, ?_, ?_, ?_, ?_, ?_, ?_, trivial⟩
    · rintro L a w ⟨b0, b1, b2, b3, b4, b5, b6, b7, b8, x9, x10, x11, x12, x13, x14, x15, x7, x8, rfl, rfl, hb, cd0, cd1, cd2, cd3, cd4, cd5, cd6, cd7, cd8⟩ hf hd
      have hf' : b0 = false := hf
      subst hf'
      clear hf hd
      try simp only [List.setIfInBounds_toArray, List.set_cons_zero, List.set_cons_succ]
      have z0 := (hb.cell hpB).trans t0
      have z1 := (hb.cell hpB).trans t1
      have z2 := (hb.cell hpB).trans t2
      have z3 := (hb.cell hpB).trans t3
      have z4 := (hb.cell hpB).trans t4
      intro K hK
      rw [if_pos (by rfl)]
      go_simp
      exact hK.out _ _ ⟨true, b1, b2, b3, b4, b5, b6, b7, b8, (.agg #[.string (bsOf l), .slice co cn cc, .int .i64 (ky : Nat), .bool only, .slice ro rn rc]), x10, x11, x12, x13, x14, x15, x7, x8, (by simp only [Act.put, List.setIfInBounds_toArray, List.set_cons_zero, List.set_cons_succ]), (by simp only [Act.put, List.setIfInBounds_toArray, List.set_cons_zero, List.set_cons_succ]), hb, (fun _ => rfl), cd1, cd2, cd3, cd4, cd5, cd6, cd7, cd8⟩
    · rintro L a w ⟨b0, b1, b2, b3, b4, b5, b6, b7, b8, x9, x10, x11, x12, x13, x14, x15, x7, x8, rfl, rfl, hb, cd0, cd1, cd2, cd3, cd4, cd5, cd6, cd7, cd8⟩ hf hd
      have hf' : b1 = false := hf
      subst hf'
      clear hf hd
      try simp only [List.setIfInBounds_toArray, List.set_cons_zero, List.set_cons_succ]
      have z0 := (hb.cell hgB).trans g0
      have z1 := (hb.cell hgB).trans g1
      have z2 := (hb.cell hgB).trans g2
      intro K hK
      rw [if_pos (by rfl)]
      go_simp
      exact hK.out _ _ ⟨b0, true, b2, b3, b4, b5, b6, b7, b8, x9, (.agg #[.int .i64 lk, .int .i64 lm, .string ls]), x11, x12, x13, x14, x15, x7, x8, (by simp only [Act.put, List.setIfInBounds_toArray, List.set_cons_zero, List.set_cons_succ]), (by simp only [Act.put, List.setIfInBounds_toArray, List.set_cons_zero, List.set_cons_succ]), hb, cd0, (fun _ => rfl), cd2, cd3, cd4, cd5, cd6, cd7, cd8⟩
    · rintro L a w ⟨b0, b1, b2, b3, b4, b5, b6, b7, b8, x9, x10, x11, x12, x13, x14, x15, x7, x8, rfl, rfl, hb, cd0, cd1, cd2, cd3, cd4, cd5, cd6, cd7, cd8⟩ hf hd
      have hf' : b2 = false := hf
      subst hf'
      have d0 : b0 = true := hd ⟨0, .data⟩ (by simp) rfl
      subst d0
      have d1 : b1 = true := hd ⟨1, .data⟩ (by simp) rfl
      subst d1
      obtain rfl := cd0.out rfl
      obtain rfl := cd1.out rfl
      clear hf hd
      try simp only [List.setIfInBounds_toArray, List.set_cons_zero, List.set_cons_succ]
      intro K hK
      rw [if_pos (by rfl)]
      go_simp
      go_at_call 76
      refine (HS _ hb).mono ?_
      rintro e w' ⟨rfl, bx⟩
      exact hK.out _ _ ⟨true, true, true, b3, b4, b5, b6, b7, b8, .agg #[.string (bsOf l), .slice co cn cc, .int .i64 (ky : Nat), .bool only, .slice ro rn rc], .agg #[.int .i64 lk, .int .i64 lm, .string ls], (.agg #[.string (bsOf l), .slice co cn cc, .int .i64 (ky : Nat), .bool only, .slice ro rn rc, .int .i64 (N : Nat), .bool tk]), x12, x13, x14, x15, x7, x8, (by simp only [Act.put, List.setIfInBounds_toArray, List.set_cons_zero, List.set_cons_succ]), (by simp only [Act.put, List.setIfInBounds_toArray, List.set_cons_zero, List.set_cons_succ]), hb.trans (bx.mono (Nat.le_trans hB0 hb.size)), (fun _ => rfl), (fun _ => rfl), (fun _ => rfl), cd3, cd4, cd5, cd6, cd7, cd8⟩
    · rintro L a w ⟨b0, b1, b2, b3, b4, b5, b6, b7, b8, x9, x10, x11, x12, x13, x14, x15, x7, x8, rfl, rfl, hb, cd0, cd1, cd2, cd3, cd4, cd5, cd6, cd7, cd8⟩ hf hd
      have hf' : b3 = false := hf
      subst hf'
      have d2 : b2 = true := hd ⟨2, .data⟩ (by simp) rfl
      subst d2
      obtain rfl := cd2.out rfl
      clear hf hd
      try simp only [List.setIfInBounds_toArray, List.set_cons_zero, List.set_cons_succ]
      intro K hK
      rw [if_pos (by rfl)]
      go_simp
      exact hK.out _ _ ⟨b0, b1, true, true, b4, b5, b6, b7, b8, x9, x10, .agg #[.string (bsOf l), .slice co cn cc, .int .i64 (ky : Nat), .bool only, .slice ro rn rc, .int .i64 (N : Nat), .bool tk], (.int .i64 (N : Nat)), x13, x14, x15, x7, x8, (by simp only [Act.put, List.setIfInBounds_toArray, List.set_cons_zero, List.set_cons_succ]), (by simp [Act.put]), hb, cd0, cd1, (fun _ => rfl), (fun _ => rfl), cd4, cd5, cd6, cd7, cd8⟩
    · rintro L a w ⟨b0, b1, b2, b3, b4, b5, b6, b7, b8, x9, x10, x11, x12, x13, x14, x15, x7, x8, rfl, rfl, hb, cd0, cd1, cd2, cd3, cd4, cd5, cd6, cd7, cd8⟩ hf hd
      have hf' : b4 = false := hf
      subst hf'
      clear hf hd
      try simp only [List.setIfInBounds_toArray, List.set_cons_zero, List.set_cons_succ]
      intro K hK
      rw [if_pos (by rfl)]
      go_simp
      exact hK.out _ _ ⟨b0, b1, b2, b3, true, b5, b6, b7, b8, x9, x10, x11, x12, (.pointer (some ⟨p, 4, none⟩)), x14, x15, x7, x8, (by simp only [Act.put, List.setIfInBounds_toArray, List.set_cons_zero, List.set_cons_succ]), (by simp only [Act.put, List.setIfInBounds_toArray, List.set_cons_zero, List.set_cons_succ]), hb, cd0, cd1, cd2, cd3, (fun _ => rfl), cd5, cd6, cd7, cd8⟩
    · rintro L a w ⟨b0, b1, b2, b3, b4, b5, b6, b7, b8, x9, x10, x11, x12, x13, x14, x15, x7, x8, rfl, rfl, hb, cd0, cd1, cd2, cd3, cd4, cd5, cd6, cd7, cd8⟩ hf hd
      have hf' : b5 = false := hf
      subst hf'
      have d4 : b4 = true := hd ⟨4, .data⟩ (by simp) rfl
      subst d4
      obtain rfl := cd4.out rfl
      clear hf hd
      try simp only [List.setIfInBounds_toArray, List.set_cons_zero, List.set_cons_succ]
      have z0 := (hb.cell hpB).trans t4
      intro K hK
      rw [if_pos (by rfl)]
      go_simp
      exact hK.out _ _ ⟨b0, b1, b2, b3, true, true, b6, b7, b8, x9, x10, x11, x12, .pointer (some ⟨p, 4, none⟩), (.slice ro rn rc), x15, x7, x8, (by simp only [Act.put, List.setIfInBounds_toArray, List.set_cons_zero, List.set_cons_succ]), (by simp only [Act.put, List.setIfInBounds_toArray, List.set_cons_zero, List.set_cons_succ]), hb, cd0, cd1, cd2, cd3, (fun _ => rfl), (fun _ => rfl), cd6, cd7, cd8⟩
    · rintro L a w ⟨b0, b1, b2, b3, b4, b5, b6, b7, b8, x9, x10, x11, x12, x13, x14, x15, x7, x8, rfl, rfl, hb, cd0, cd1, cd2, cd3, cd4, cd5, cd6, cd7, cd8⟩ hf hd
      have hf' : b6 = false := hf
      subst hf'
      have d5 : b5 = true := hd ⟨5, .data⟩ (by simp) rfl
      subst d5
      obtain rfl := cd5.out rfl
      clear hf hd
      try simp only [List.setIfInBounds_toArray, List.set_cons_zero, List.set_cons_succ]
      intro K hK
      rw [if_pos (by rfl)]
      go_simp
      exact hK.out _ _ ⟨b0, b1, b2, b3, b4, true, true, b7, b8, x9, x10, x11, x12, x13, .slice ro rn rc, (.int .i64 (rn : Nat)), x7, x8, (by simp only [Act.put, List.setIfInBounds_toArray, List.set_cons_zero, List.set_cons_succ]), (by simp only [Act.put, List.setIfInBounds_toArray, List.set_cons_zero, List.set_cons_succ]), hb, cd0, cd1, cd2, cd3, cd4, (fun _ => rfl), (fun _ => rfl), cd7, cd8⟩
    · rintro L a w ⟨b0, b1, b2, b3, b4, b5, b6, b7, b8, x9, x10, x11, x12, x13, x14, x15, x7, x8, rfl, rfl, hb, cd0, cd1, cd2, cd3, cd4, cd5, cd6, cd7, cd8⟩ hf hd
      have hf' : b7 = false := hf
      subst hf'
      have d3 : b3 = true := hd ⟨3, .data⟩ (by simp) rfl
      subst d3
      have d2 : b2 = true := hd ⟨2, .chain⟩ (by simp) rfl
      subst d2
      have d0 : b0 = true := hd ⟨0, .phase⟩ (by simp) rfl
      subst d0
      have d1 : b1 = true := hd ⟨1, .phase⟩ (by simp) rfl
      subst d1
      obtain rfl := cd3.out rfl
      obtain rfl := cd2.out rfl
      obtain rfl := cd0.out rfl
      obtain rfl := cd1.out rfl
      clear hf hd
      try simp only [List.setIfInBounds_toArray, List.set_cons_zero, List.set_cons_succ]
      intro K hK
      rw [if_pos (by rfl)]
      go_simp
      exact hK.out _ _ ⟨true, true, true, true, b4, b5, b6, true, b8, .agg #[.string (bsOf l), .slice co cn cc, .int .i64 (ky : Nat), .bool only, .slice ro rn rc], .agg #[.int .i64 lk, .int .i64 lm, .string ls], .agg #[.string (bsOf l), .slice co cn cc, .int .i64 (ky : Nat), .bool only, .slice ro rn rc, .int .i64 (N : Nat), .bool tk], .int .i64 (N : Nat), x13, x14, x15, (.int .i64 (N : Nat)), x8, (by simp only [Act.put, List.setIfInBounds_toArray, List.set_cons_zero, List.set_cons_succ]), (by simp only [Act.put, List.setIfInBounds_toArray, List.set_cons_zero, List.set_cons_succ]), hb, (fun _ => rfl), (fun _ => rfl), (fun _ => rfl), (fun _ => rfl), cd4, cd5, cd6, (fun _ => rfl), cd8⟩
    · rintro L a w ⟨b0, b1, b2, b3, b4, b5, b6, b7, b8, x9, x10, x11, x12, x13, x14, x15, x7, x8, rfl, rfl, hb, cd0, cd1, cd2, cd3, cd4, cd5, cd6, cd7, cd8⟩ hf hd
      have hf' : b8 = false := hf
      subst hf'
      have d6 : b6 = true := hd ⟨6, .data⟩ (by simp) rfl
      subst d6
      have d7 : b7 = true := hd ⟨7, .chain⟩ (by simp) rfl
      subst d7
      have d0 : b0 = true := hd ⟨0, .phase⟩ (by simp) rfl
      subst d0
      have d1 : b1 = true := hd ⟨1, .phase⟩ (by simp) rfl
      subst d1
      have d2 : b2 = true := hd ⟨2, .phase⟩ (by simp) rfl
      subst d2
      have d3 : b3 = true := hd ⟨3, .phase⟩ (by simp) rfl
      subst d3
      have d4 : b4 = true := hd ⟨4, .phase⟩ (by simp) rfl
      subst d4
      have d5 : b5 = true := hd ⟨5, .phase⟩ (by simp) rfl
      subst d5
      obtain rfl := cd6.out rfl
      obtain rfl := cd7.out rfl
      obtain rfl := cd0.out rfl
      obtain rfl := cd1.out rfl
      obtain rfl := cd2.out rfl
      obtain rfl := cd3.out rfl
      obtain rfl := cd4.out rfl
      obtain rfl := cd5.out rfl
      clear hf hd
      try simp only [List.setIfInBounds_toArray, List.set_cons_zero, List.set_cons_succ]
      intro K hK
      rw [if_pos (by rfl)]
      go_simp
      exact hK.out _ _ ⟨true, true, true, true, true, true, true, true, true, .agg #[.string (bsOf l), .slice co cn cc, .int .i64 (ky : Nat), .bool only, .slice ro rn rc], .agg #[.int .i64 lk, .int .i64 lm, .string ls], .agg #[.string (bsOf l), .slice co cn cc, .int .i64 (ky : Nat), .bool only, .slice ro rn rc, .int .i64 (N : Nat), .bool tk], .int .i64 (N : Nat), .pointer (some ⟨p, 4, none⟩), .slice ro rn rc, .int .i64 (rn : Nat), .int .i64 (N : Nat), (.int .i64 (rn : Nat)), (by simp only [Act.put, List.setIfInBounds_toArray, List.set_cons_zero, List.set_cons_succ]), (by simp only [Act.put, List.setIfInBounds_toArray, List.set_cons_zero, List.set_cons_succ]), hb, (fun _ => rfl), (fun _ => rfl), (fun _ => rfl), (fun _ => rfl), (fun _ => rfl), (fun _ => rfl), (fun _ => rfl), (fun _ => rfl), (fun _ => rfl)⟩
  · rintro act V ⟨b0, b1, b2, b3, b4, b5, b6, b7, b8, x9, x10, x11, x12, x13, x14, x15, x7, x8, hL, rfl, hb, cd0, cd1, cd2, cd3, cd4, cd5, cd6, cd7, cd8⟩
    have hL' : [true, true, true, true, true, true, true, true, true] = [b0, b1, b2, b3, b4, b5, b6, b7, b8] := congrArg Array.toList hL
    simp only [List.cons.injEq, and_true] at hL'
    obtain ⟨rfl, rfl, rfl, rfl, rfl, rfl, rfl, rfl, rfl⟩ := hL'
    obtain rfl := cd0.out rfl
    obtain rfl := cd1.out rfl
    obtain rfl := cd2.out rfl
    obtain rfl := cd3.out rfl
    obtain rfl := cd4.out rfl
    obtain rfl := cd5.out rfl
    obtain rfl := cd6.out rfl
    obtain rfl := cd7.out rfl
    obtain rfl := cd8.out rfl
    clear hL cd0 cd1 cd2 cd3 cd4 cd5 cd6 cd7 cd8
    simp only [List.setIfInBounds_toArray, List.set_cons_zero, List.set_cons_succ]
    have BV1 : Below W.heap.size W V := (Below.refl _ _).drew.trans hb
    have BV := B0.trans (BV1.mono B0.size)
    have hTV := hT.past BV1
    have hHV := hHi.past BV1
    clear hb t0 t1 t2 t3 t4 g0 g1 g2 HS
    obtain ⟨t0, t1, t2, t3, t4⟩ := tb_cells hTV
    obtain ⟨h0, h1, h2, -, -, -, hhB⟩ := id hHV
    by_cases k0 : hk = 0
    · subst k0
      have hEn : endN ky ⟨0, hm, hs⟩ rs = rn := hln
      rw [hEn] at HRg hEle
      have hpV := hTV.lt
      clear hEn HX0
      obtain ⟨hds, hhs, hRd, -⟩ := id h
      have hle := hhs.le
      have hmx : max N rn ≤ rn := by omega
      have hmi : max (N : Int) (rn : Int) = ((max N rn : Nat) : Int) := by omega
      have hpp : IsR EH V (if rc = N then ro else Option.map (fun x => x.add N) ro) (max N rn - N) (rc - N) ((hds.drop N).take (max N rn - N)) := by
        have := (hhs.past BV).part N (max N rn) rc (Nat.le_max_left _ _) hmx (Nat.le_trans hmx hle) (Nat.le_refl _)
        simpa [EH] using this
      have hPL : IsRR EH (V.alloc (.cells #[.slice (if rc = N then ro else Option.map (fun x => x.add N) ro) (max N rn - N) (rc - N)] 45)) 0 (some ⟨V.heap.size, 0, none⟩) 1 1 [(hds.drop N).take (max N rn - N)] := part_lit V _ [⟨_, _, _⟩] _ (Rd.one hpp) 1 rfl (by omega) _ rfl
      have BA := BV.alloc BV.size (.cells #[.slice (if rc = N then ro else Option.map (fun x => x.add N) ro) (max N rn - N) (rc - N)] 45)
      have hRd2 : Rd EV (V.alloc (.cells #[.slice (if rc = N then ro else Option.map (fun x => x.add N) ro) (max N rn - N) (rc - N)] 45)) [(hds.drop N).take (max N rn - N)].flatten RG := by
        rw [HRg.out]
        simpa using ((hRd.drop N).take (max N rn - N)).past BA
      have hRl : RG.length ≤ rn := by rw [HRg.out, List.length_take, List.length_drop]; omega
      have hRm : ∀ x ∈ RG, x.length ≤ 100 := fun x hx => by rw [HRg.out] at hx; exact hfl x (List.mem_of_mem_drop (List.mem_of_mem_take hx))
      have hfb := flat_bound 100 RG hRm
      have HO := own_anyF (V.alloc (.cells #[.slice (if rc = N then ro else Option.map (fun x => x.add N) ro) (max N rn - N) (rc - N)] 45)) 0 _ 1 1 _ hPL (by omega) RG hRd2 RG.length rfl (by omega) (by omega)
      clear hpp hPL hRd2 hRm
      go_wp2_with (go_at_call 91; refine HO.mono ?_; rintro e w9 ⟨a9, c9, rfl, i9, b9⟩)
      all_goals (go_ret; exact ⟨a9, c9, rfl, i9.mono BA.size, BA.trans (b9.mono BA.size)⟩)
    · have kn : (hk != 0) = true := by simp [k0]
      have kb : (hk == 0) = false := by simp [k0]
      have hEn : endN ky ⟨hk, hm, hs⟩ rs = nxtN ky ⟨hk, hm, hs⟩ rs := by unfold endN; rw [if_neg k0]
      have HX := HX0 V BV
      have hM := at_le ky ⟨hk, hm, hs⟩ rs
      have hnxt : nxtN ky ⟨hk, hm, hs⟩ rs = (if hasN ky ⟨hk, hm, hs⟩ rs then atN ky ⟨hk, hm, hs⟩ rs + 1 else atN ky ⟨hk, hm, hs⟩ rs) := rfl
      rw [hEn] at HRg hEle
      rw [hnxt] at HRg hEle
      obtain ⟨M, hMe⟩ : ∃ M, atN ky ⟨hk, hm, hs⟩ rs = M := ⟨_, rfl⟩
      obtain ⟨tk2, htk2⟩ : ∃ tk2, hasN ky ⟨hk, hm, hs⟩ rs = tk2 := ⟨_, rfl⟩
      simp only [hMe, htk2] at HX hM HRg hEle
      have HNx := fun w' => next_any w' l co cn cc (ky : Nat) only ro rn rc M (by omega) tk2
      obtain ⟨E, hE⟩ : ∃ E, (if tk2 then M + 1 else M) = E := ⟨_, rfl⟩
      have hEi : (if tk2 then ((M + 1 : Nat) : Int) else (M : Int)) = (E : Int) := by rw [← hE]; split <;> rfl
      simp only [hE, hEi] at HNx HRg hEle
      unfold spV at HNx
      clear hEn hnxt hMe htk2 hE hEi
      go_upto_region 4 with (first | (go_at_call 76; refine HX.mono ?_; rintro e w2 ⟨rfl, b2⟩; have B2 := BV.trans (b2.mono BV.size)) | (go_at_call 90; refine (HNx _).mono ?_; rintro e w3 ⟨rfl, b3⟩; have B3 := B2.trans (b3.mono B2.size); have hT3 := hTV.past (b2.trans (b3.mono b2.size))))
      clear t0 t1 t2 t3 t4 h0 h1 h2
      obtain ⟨t0, t1, t2, t3, t4⟩ := tb_cells hT3
      have hpV := hT3.lt
      obtain ⟨hds, hhs, hRd, -⟩ := id h
      have hle := hhs.le
      have hmx : max N E ≤ rn := by omega
      have hmi : max (N : Int) (E : Int) = ((max N E : Nat) : Int) := by omega
      have hpp : IsR EH w3 (if rc = N then ro else Option.map (fun x => x.add N) ro) (max N E - N) (rc - N) ((hds.drop N).take (max N E - N)) := by
        have := (hhs.past B3).part N (max N E) rc (Nat.le_max_left _ _) hmx (Nat.le_trans hmx hle) (Nat.le_refl _)
        simpa [EH] using this
      have hPL : IsRR EH (w3.alloc (.cells #[.slice (if rc = N then ro else Option.map (fun x => x.add N) ro) (max N E - N) (rc - N)] 45)) 0 (some ⟨w3.heap.size, 0, none⟩) 1 1 [(hds.drop N).take (max N E - N)] := part_lit w3 _ [⟨_, _, _⟩] _ (Rd.one hpp) 1 rfl (by omega) _ rfl
      have BA := B3.alloc B3.size (.cells #[.slice (if rc = N then ro else Option.map (fun x => x.add N) ro) (max N E - N) (rc - N)] 45)
      have hRd2 : Rd EV (w3.alloc (.cells #[.slice (if rc = N then ro else Option.map (fun x => x.add N) ro) (max N E - N) (rc - N)] 45)) [(hds.drop N).take (max N E - N)].flatten RG := by
        rw [HRg.out]
        simpa using ((hRd.drop N).take (max N E - N)).past BA
      have hRl : RG.length ≤ rn := by rw [HRg.out, List.length_take, List.length_drop]; omega
      have hRm : ∀ x ∈ RG, x.length ≤ 100 := fun x hx => by rw [HRg.out] at hx; exact hfl x (List.mem_of_mem_drop (List.mem_of_mem_take hx))
      have hfb := flat_bound 100 RG hRm
      have HO := own_anyF (w3.alloc (.cells #[.slice (if rc = N then ro else Option.map (fun x => x.add N) ro) (max N E - N) (rc - N)] 45)) 0 _ 1 1 _ hPL (by omega) RG hRd2 RG.length rfl (by omega) (by omega)
      clear hpp hPL hRd2 hRm
      go_wp2_with (go_at_call 91; refine HO.mono ?_; rintro e w9 ⟨a9, c9, rfl, i9, b9⟩)
      all_goals (go_ret; exact ⟨a9, c9, rfl, i9.mono BA.size, BA.trans (b9.mono BA.size)⟩)
end Go.Proofs.Ytllijeciodmckaa
namespace Go.Proofs.Ytllijeciodmckaa
open Go.RowKit
set_option linter.unusedSimpArgs false
theorem lit_oneL (w : World) (t : TypeId) (x : HdR) : IsR EH (w.alloc (.cells #[.slice x.a x.n x.c] t)) (some ⟨w.heap.size, 0, none⟩) 1 1 [x] := (OwnR.ofBlk (E := EH) (l := [x]) (n := 1) (heap_alloc_new w _) rfl rfl (by omega)).isR
theorem tb_cells4 {w : World} {p : Nat} {l : List UInt8} {co : Option Addr} {cn cc : Nat} {ky : Int} {only : Bool} {ro : Option Addr} {rn rc : Nat} {t : TypeId} (h : Bk w p (tbC l co cn cc ky only ro rn rc) t) : w.cell? ⟨p, 4, none⟩ = some (.slice ro rn rc) := h.c rfl
theorem rngF_next {ky : Nat} {lo hi : V} {rs : List (List V)} {j : Nat} {r : List V} (h : rs[j]? = some r) : rngF ky lo hi (rs.take (j + 1)) = rngF ky lo hi (rs.take j) ++ if inN lo hi (kOf ky r) then [r] else [] := by
  obtain ⟨h1, rfl⟩ := List.getElem?_eq_some_iff.1 h
  unfold rngF
  rw [List.take_succ_eq_append_getElem h1, List.filter_append]
  cases q : inN lo hi (kOf ky rs[j]) <;> simp [q]
theorem vok_valR {v : V} (h : Vok v) : Val v.k v.n v.s := by
  cases h with
  | none => exact .none
  | bool n h => exact .bool _ (by simp only; omega) (by simp only; omega)
  | int n h => exact .int _
  | text s h => exact .text _ h
/-- What stands between the rounds. -/
def RngRel (W : World) (ky rn : Nat) (lo hi : V) (rs : List (List V)) (z i : Value) (wr : World) : Prop :=
  ∃ (j : Nat) (la : Option Addr) (ln lc : Nat) (hs : List HdR), j ≤ rn ∧ z = .slice la ln lc ∧ i = .int .i64 (j : Nat) ∧ Lst wr W.heap.size la ln lc hs (rngF ky lo hi (rs.take j)) ∧ Below W.heap.size W wr
/-- What the reference's Range answers. -/
def RngIs (w : World) (ls : List (List V)) (e : Ending) (w' : World) : Prop :=
  ∃ B ao c, e = .returned (.slice ao ls.length c) ∧ IsRR EV w' B ao ls.length c ls ∧ Below w.heap.size w w'
/-- What stands while the region's operations come up: which have (b), what their slots hold (x), what the world holds. -/
inductive RRng5 (p : Nat) (b : Nat) (off : Nat) (rn : Nat) (rc : Nat) (ky : Nat) (j : Nat) (zb : Nat) (zo : Nat) (xn : Nat) (xc : Nat) (k1 : Int) (m1 : Int) (s1 : ByteArray) (a0 : Act) (w0 : World) (L : Array Bool) (a : Act) (w : World) : Prop
  | mk (b0 b1 b2 b3 b4 b5 b6 b7 b8 b9 b10 b11 : Bool) (x17 x18 x19 x20 x21 x22 x23 x24 x25 x26 x9 : Value) (g9 : Nat) (hL : L = #[b0, b1, b2, b3, b4, b5, b6, b7, b8, b9, b10, b11]) (ha : a = ⟨(((((((((((a0.tmps.setIfInBounds 17 x17).setIfInBounds 18 x18).setIfInBounds 19 x19).setIfInBounds 20 x20).setIfInBounds 21 x21).setIfInBounds 22 x22).setIfInBounds 23 x23).setIfInBounds 24 x24).setIfInBounds 25 x25).setIfInBounds 26 x26).setIfInBounds 9 x9), a0.defers⟩) (hb : Below w0.heap.size w0 w) (cd0 : Hid (b0 = true → x17 = .pointer (some ⟨p, 4, none⟩))) (cd1 : Hid (b1 = true → x18 = .slice (some ⟨b, off, none⟩) rn rc)) (cd2 : Hid (b2 = true → x19 = .int .i64 (j : Nat))) (cd3 : Hid (b3 = true → x20 = .pointer (some ⟨b, off + j, none⟩))) (cd4 : Hid (b4 = true → x21 = .slice (some ⟨zb, zo, none⟩) xn xc)) (cd5 : Hid (b5 = true → x22 = .pointer (some ⟨p, 0, none⟩))) (cd6 : Hid (b6 = true → x23 = .pointer (some ⟨p, 2, none⟩))) (cd7 : Hid (b7 = true → x24 = .int .i64 (ky : Nat))) (cd8 : Hid (b8 = true → x25 = .pointer (some ⟨zb, zo + ky * 3, none⟩))) (cd9 : Hid (b9 = true → x26 = .agg #[.int .i64 k1, .int .i64 m1, .string s1])) (cd10 : Hid (b10 = true → x9 = .pointer (some ⟨g9, 0, none⟩))) (v_g9 : Hid (b10 = true → w0.heap.size ≤ g9 ∧ VAt w g9 (bif b11 then k1 else 0) (bif b11 then m1 else 0) (bif b11 then s1 else ⟨#[]⟩))) (s_g9 : Hid (b11 = true → b10 = true)) (r_g9 : Hid (b11 = true → b9 = true)) : RRng5 p b off rn rc ky j zb zo xn xc k1 m1 s1 a0 w0 L a w
set_option maxRecDepth 100000 in
set_option maxHeartbeats 4000000 in
theorem rrange_any (w : World) (l : List UInt8) (co : Option Addr) (cn cc : Nat) (ky : Nat) (only : Bool) (ro : Option Addr) (rn rc : Nat) (B : Nat) (rs : List (List V)) (h : IsRR EV w B ro rn rc rs) (lo hi : V) (hlo : Vok lo) (hhi : Vok hi) (hV : ∀ r ∈ rs, ky < r.length ∧ Vok (kOf ky r) ∧ r.length ≤ 1000) (hn : rn ≤ 300) :
    Calls Try.prog 34 #[tbV l co cn cc (ky : Nat) only ro rn rc, vv lo.k lo.n lo.s, vv hi.k hi.n hi.s] w (RngIs w (rngF ky lo hi rs)) := by
  have hln := h.len
  have B0 : Below w.heap.size w (((w.alloc (.cells #[.string (bsOf l), .slice co cn cc, .int .i64 (ky : Nat), .bool only, .slice ro rn rc] 48)).alloc (.cells #[.int .i64 lo.k, .int .i64 lo.n, .string lo.s] 55)).alloc (.cells #[.int .i64 hi.k, .int .i64 hi.n, .string hi.s] 55)) := (((Below.refl _ _).alloc (Nat.le_refl _) _).alloc (by simp) _).alloc (by simp; omega) _
  have hT : Bk (((w.alloc (.cells #[.string (bsOf l), .slice co cn cc, .int .i64 (ky : Nat), .bool only, .slice ro rn rc] 48)).alloc (.cells #[.int .i64 lo.k, .int .i64 lo.n, .string lo.s] 55)).alloc (.cells #[.int .i64 hi.k, .int .i64 hi.n, .string hi.s] 55)) w.heap.size (tbC l co cn cc (ky : Nat) only ro rn rc) 48 := ((Bk.new w _ _).alloc _).alloc _
  have hVl : VAt (((w.alloc (.cells #[.string (bsOf l), .slice co cn cc, .int .i64 (ky : Nat), .bool only, .slice ro rn rc] 48)).alloc (.cells #[.int .i64 lo.k, .int .i64 lo.n, .string lo.s] 55)).alloc (.cells #[.int .i64 hi.k, .int .i64 hi.n, .string hi.s] 55)) (w.heap.size + 1) lo.k lo.n lo.s := by
    have := (VAt.new (w.alloc (.cells #[.string (bsOf l), .slice co cn cc, .int .i64 (ky : Nat), .bool only, .slice ro rn rc] 48)) lo.k lo.n lo.s).alloc (.cells #[.int .i64 hi.k, .int .i64 hi.n, .string hi.s] 55)
    rwa [World.size_alloc] at this
  have hVh : VAt (((w.alloc (.cells #[.string (bsOf l), .slice co cn cc, .int .i64 (ky : Nat), .bool only, .slice ro rn rc] 48)).alloc (.cells #[.int .i64 lo.k, .int .i64 lo.n, .string lo.s] 55)).alloc (.cells #[.int .i64 hi.k, .int .i64 hi.n, .string hi.s] 55)) (w.heap.size + 1 + 1) hi.k hi.n hi.s := by
    have := VAt.new ((w.alloc (.cells #[.string (bsOf l), .slice co cn cc, .int .i64 (ky : Nat), .bool only, .slice ro rn rc] 48)).alloc (.cells #[.int .i64 lo.k, .int .i64 lo.n, .string lo.s] 55)) hi.k hi.n hi.s
    rwa [World.size_alloc, World.size_alloc] at this
  unfold tbV
  go_enter Try.func34, Try.ntmps34
  go_upto_region 1 with fail
  generalize (((w.alloc (.cells #[.string (bsOf l), .slice co cn cc, .int .i64 (ky : Nat), .bool only, .slice ro rn rc] 48)).alloc (.cells #[.int .i64 lo.k, .int .i64 lo.n, .string lo.s] 55)).alloc (.cells #[.int .i64 hi.k, .int .i64 hi.n, .string hi.s] 55)) = W at B0 hT hVl hVh ⊢
  obtain ⟨p, hp⟩ : ∃ p, w.heap.size = p := ⟨_, rfl⟩
  have HP := Lib.hid hp
  obtain ⟨q1, hq1⟩ : ∃ q, p + 1 = q := ⟨_, rfl⟩
  obtain ⟨q2, hq2⟩ : ∃ q, q1 + 1 = q := ⟨_, rfl⟩
  simp only [hp, hq1, hq2] at hT hVl hVh ⊢
  clear hq1 hq2 hp
  go_wp2_with fail
  go_loopw [7, 8] (RngRel W ky rn lo hi rs) (fun _ i _ => rn - (intOf i).toNat)
  case atStart => exact ⟨0, none, 0, 0, [], Nat.zero_le _, rfl, rfl, Lst.nil _ _, Below.refl _ _⟩
  case round =>
    obtain ⟨j, la, ln, lc, hs, hj, rfl, rfl, lS, hB⟩ := hrel
    obtain ⟨t0, t1, t2, t3, t4⟩ := tb_cells (hT.past hB)
    have hpB := (hT.past hB).lt
    have hlnj : ln ≤ j := by rw [← lS.len]; exact Nat.le_trans (List.length_filter_le _ _) (by rw [List.length_take]; omega)
    have hlw : ∀ z, blk la = some z → z < wr.heap.size := fun z hz => by
      rcases lS.own.either with ⟨rfl, -, -, -⟩ | ⟨g, rfl, ow, -⟩
      · cases hz
      · cases hz
        exact ow.lt
    by_cases hlt : j < rn
    · have hlti : (j : Int) < (rn : Int) := by omega
      obtain ⟨r, hr⟩ : ∃ r, rs[j]? = some r := ⟨rs[j]'(by omega), List.getElem?_eq_getElem _⟩
      obtain ⟨b, off, x, rfl, hbx, hc, hx⟩ := h.at hr
      obtain ⟨hky, hVr, hrl⟩ := hV r (List.mem_of_getElem? hr)
      obtain ⟨kv, hkv⟩ : ∃ v, r[ky]? = some v := ⟨r[ky]'hky, List.getElem?_eq_getElem _⟩
      have hkk := kOf_get hkv
      have hnx := rngF_next (ky := ky) (lo := lo) (hi := hi) hr
      rw [hkk] at hVr hnx
      obtain ⟨xa, xn, xc⟩ := x
      simp only at hc hx
      obtain ⟨zb, zo, rfl, hb2x, hcc⟩ := hx.open (by have := hx.len; omega) (by decide)
      obtain ⟨e0, e1, e2⟩ := cells_v hcc ky kv hkv
      have hxl := hx.len
      have BB := B0.trans (hB.mono B0.size)
      rw [← BB.cell hbx] at hc
      rw [← BB.cell hb2x] at e0 e1 e2
      have hbB := Nat.lt_of_lt_of_le hbx BB.size
      have hzB := Nat.lt_of_lt_of_le hb2x BB.size
      have hkn : (ky : Int) < (xn : Int) := by omega
      have HCL0 := fun w => rcmp4_any kv.k kv.n kv.s lo.k lo.n lo.s w (vok_valR hVr) (vok_valR hlo)
      have HCH0 := fun w => rcmp4_any kv.k kv.n kv.s hi.k hi.n hi.s w (vok_valR hVr) (vok_valR hhi)
      obtain ⟨k1, m1, s1⟩ := kv
      obtain ⟨CL, hCL⟩ : ∃ C, (V.mk k1 m1 s1).cmp lo = C := ⟨_, rfl⟩
      obtain ⟨CH, hCH⟩ : ∃ C, (V.mk k1 m1 s1).cmp hi = C := ⟨_, rfl⟩
      have HCL : ∀ w', Calls Try.prog 87 #[vv k1 m1 s1, vv lo.k lo.n lo.s] w' fun e w'' => e = .returned (.int .i64 CL) ∧ Below w'.heap.size w' w'' := by rw [← hCL]; exact HCL0
      have HCH : ∀ w', Calls Try.prog 87 #[vv k1 m1 s1, vv hi.k hi.n hi.s] w' fun e w'' => e = .returned (.int .i64 CH) ∧ Below w'.heap.size w' w'' := by rw [← hCH]; exact HCH0
      have HCLe := Lib.hid hCL
      have HCHe := Lib.hid hCH
      have HNX := Lib.hid hnx
      simp only at e0 e1 e2
      clear HCL0 HCH0 hCL hCH hnx hkk hkv hcc hr hVr hky
      go_upto_region 5 with fail
      refine region_inv (RRng5 p b off rn rc ky j zb zo xn xc k1 m1 s1) (by kernel_rfl) (by kernel_rfl) ?_ ?_ ?_
      · exact ⟨false, false, false, false, false, false, false, false, false, false, false, false, u17, u18, u19, u20, u21, u22, u23, u24, u25, u26, u9, 0, rfl, (by simp only [Act.put, List.setIfInBounds_toArray, List.set_cons_zero, List.set_cons_succ]), Below.refl _ _, (fun h => by cases h), (fun h => by cases h), (fun h => by cases h), (fun h => by cases h), (fun h => by cases h), (fun h => by cases h), (fun h => by cases h), (fun h => by cases h), (fun h => by cases h), (fun h => by cases h), (fun h => by cases h), (fun h => by cases h), (fun h => by cases h), (fun h => by cases h)⟩
      · refine ⟨?_, ?_, ?_, ?_, ?_, ?_, ?_, ?_, ?_, ?_, ?_, ?_, trivial⟩
        · rintro L a w ⟨b0, b1, b2, b3, b4, b5, b6, b7, b8, b9, b10, b11, x17, x18, x19, x20, x21, x22, x23, x24, x25, x26, x9, g9, rfl, rfl, hb, cd0, cd1, cd2, cd3, cd4, cd5, cd6, cd7, cd8, cd9, cd10, v_g9, s_g9, r_g9⟩ hf hd
          have hf' : b0 = false := hf
          subst hf'
          clear hf hd
          try simp only [List.setIfInBounds_toArray, List.set_cons_zero, List.set_cons_succ]
          intro K hK
          rw [if_pos (by rfl)]
          go_simp
          exact hK.out _ _ ⟨true, b1, b2, b3, b4, b5, b6, b7, b8, b9, b10, b11, (.pointer (some ⟨p, 4, none⟩)), x18, x19, x20, x21, x22, x23, x24, x25, x26, x9, g9, (by simp only [Act.put, List.setIfInBounds_toArray, List.set_cons_zero, List.set_cons_succ]), (by simp only [Act.put, List.setIfInBounds_toArray, List.set_cons_zero, List.set_cons_succ]), hb, (fun _ => rfl), cd1, cd2, cd3, cd4, cd5, cd6, cd7, cd8, cd9, cd10, v_g9, s_g9, r_g9⟩
        · rintro L a w ⟨b0, b1, b2, b3, b4, b5, b6, b7, b8, b9, b10, b11, x17, x18, x19, x20, x21, x22, x23, x24, x25, x26, x9, g9, rfl, rfl, hb, cd0, cd1, cd2, cd3, cd4, cd5, cd6, cd7, cd8, cd9, cd10, v_g9, s_g9, r_g9⟩ hf hd
          have hf' : b1 = false := hf
          subst hf'
          have d0 : b0 = true := hd ⟨0, .data⟩ (by simp) rfl
          subst d0
          obtain rfl := cd0.out rfl
          clear hf hd
          try simp only [List.setIfInBounds_toArray, List.set_cons_zero, List.set_cons_succ]
          have z0 := (hb.cell hpB).trans t4
          intro K hK
          rw [if_pos (by rfl)]
          go_simp
          exact hK.out _ _ ⟨true, true, b2, b3, b4, b5, b6, b7, b8, b9, b10, b11, .pointer (some ⟨p, 4, none⟩), (.slice (some ⟨b, off, none⟩) rn rc), x19, x20, x21, x22, x23, x24, x25, x26, x9, g9, (by simp only [Act.put, List.setIfInBounds_toArray, List.set_cons_zero, List.set_cons_succ]), (by simp only [Act.put, List.setIfInBounds_toArray, List.set_cons_zero, List.set_cons_succ]), hb, (fun _ => rfl), (fun _ => rfl), cd2, cd3, cd4, cd5, cd6, cd7, cd8, cd9, cd10, v_g9, s_g9, r_g9⟩
        · rintro L a w ⟨b0, b1, b2, b3, b4, b5, b6, b7, b8, b9, b10, b11, x17, x18, x19, x20, x21, x22, x23, x24, x25, x26, x9, g9, rfl, rfl, hb, cd0, cd1, cd2, cd3, cd4, cd5, cd6, cd7, cd8, cd9, cd10, v_g9, s_g9, r_g9⟩ hf hd
          have hf' : b2 = false := hf
          subst hf'
          clear hf hd
          try simp only [List.setIfInBounds_toArray, List.set_cons_zero, List.set_cons_succ]
          intro K hK
          rw [if_pos (by rfl)]
          go_simp
          exact hK.out _ _ ⟨b0, b1, true, b3, b4, b5, b6, b7, b8, b9, b10, b11, x17, x18, (.int .i64 (j : Nat)), x20, x21, x22, x23, x24, x25, x26, x9, g9, (by simp only [Act.put, List.setIfInBounds_toArray, List.set_cons_zero, List.set_cons_succ]), (by simp only [Act.put, List.setIfInBounds_toArray, List.set_cons_zero, List.set_cons_succ]), hb, cd0, cd1, (fun _ => rfl), cd3, cd4, cd5, cd6, cd7, cd8, cd9, cd10, v_g9, s_g9, r_g9⟩
        · rintro L a w ⟨b0, b1, b2, b3, b4, b5, b6, b7, b8, b9, b10, b11, x17, x18, x19, x20, x21, x22, x23, x24, x25, x26, x9, g9, rfl, rfl, hb, cd0, cd1, cd2, cd3, cd4, cd5, cd6, cd7, cd8, cd9, cd10, v_g9, s_g9, r_g9⟩ hf hd
          have hf' : b3 = false := hf
          subst hf'
          have d1 : b1 = true := hd ⟨1, .data⟩ (by simp) rfl
          subst d1
          have d2 : b2 = true := hd ⟨2, .data⟩ (by simp) rfl
          subst d2
          obtain rfl := cd1.out rfl
          obtain rfl := cd2.out rfl
          clear hf hd
          try simp only [List.setIfInBounds_toArray, List.set_cons_zero, List.set_cons_succ]
          intro K hK
          rw [if_pos (by rfl)]
          go_simp
          exact hK.out _ _ ⟨b0, true, true, true, b4, b5, b6, b7, b8, b9, b10, b11, x17, .slice (some ⟨b, off, none⟩) rn rc, .int .i64 (j : Nat), (.pointer (some ⟨b, off + j, none⟩)), x21, x22, x23, x24, x25, x26, x9, g9, (by simp only [Act.put, List.setIfInBounds_toArray, List.set_cons_zero, List.set_cons_succ]), (by simp only [Act.put, List.setIfInBounds_toArray, List.set_cons_zero, List.set_cons_succ]), hb, cd0, (fun _ => rfl), (fun _ => rfl), (fun _ => rfl), cd4, cd5, cd6, cd7, cd8, cd9, cd10, v_g9, s_g9, r_g9⟩
        · rintro L a w ⟨b0, b1, b2, b3, b4, b5, b6, b7, b8, b9, b10, b11, x17, x18, x19, x20, x21, x22, x23, x24, x25, x26, x9, g9, rfl, rfl, hb, cd0, cd1, cd2, cd3, cd4, cd5, cd6, cd7, cd8, cd9, cd10, v_g9, s_g9, r_g9⟩ hf hd
          have hf' : b4 = false := hf
          subst hf'
          have d3 : b3 = true := hd ⟨3, .data⟩ (by simp) rfl
          subst d3
          obtain rfl := cd3.out rfl
          clear hf hd
          try simp only [List.setIfInBounds_toArray, List.set_cons_zero, List.set_cons_succ]
          have z0 := (hb.cell hbB).trans hc
          intro K hK
          rw [if_pos (by rfl)]
          go_simp
          exact hK.out _ _ ⟨b0, b1, b2, true, true, b5, b6, b7, b8, b9, b10, b11, x17, x18, x19, .pointer (some ⟨b, off + j, none⟩), (.slice (some ⟨zb, zo, none⟩) xn xc), x22, x23, x24, x25, x26, x9, g9, (by simp only [Act.put, List.setIfInBounds_toArray, List.set_cons_zero, List.set_cons_succ]), (by simp only [Act.put, List.setIfInBounds_toArray, List.set_cons_zero, List.set_cons_succ]), hb, cd0, cd1, cd2, (fun _ => rfl), (fun _ => rfl), cd5, cd6, cd7, cd8, cd9, cd10, v_g9, s_g9, r_g9⟩
        · rintro L a w ⟨b0, b1, b2, b3, b4, b5, b6, b7, b8, b9, b10, b11, x17, x18, x19, x20, x21, x22, x23, x24, x25, x26, x9, g9, rfl, rfl, hb, cd0, cd1, cd2, cd3, cd4, cd5, cd6, cd7, cd8, cd9, cd10, v_g9, s_g9, r_g9⟩ hf hd
          have hf' : b5 = false := hf
          subst hf'
          clear hf hd
          try simp only [List.setIfInBounds_toArray, List.set_cons_zero, List.set_cons_succ]
          intro K hK
          rw [if_pos (by rfl)]
          go_simp
          exact hK.out _ _ ⟨b0, b1, b2, b3, b4, true, b6, b7, b8, b9, b10, b11, x17, x18, x19, x20, x21, (.pointer (some ⟨p, 0, none⟩)), x23, x24, x25, x26, x9, g9, (by simp only [Act.put, List.setIfInBounds_toArray, List.set_cons_zero, List.set_cons_succ]), (by simp only [Act.put, List.setIfInBounds_toArray, List.set_cons_zero, List.set_cons_succ]), hb, cd0, cd1, cd2, cd3, cd4, (fun _ => rfl), cd6, cd7, cd8, cd9, cd10, v_g9, s_g9, r_g9⟩
        · rintro L a w ⟨b0, b1, b2, b3, b4, b5, b6, b7, b8, b9, b10, b11, x17, x18, x19, x20, x21, x22, x23, x24, x25, x26, x9, g9, rfl, rfl, hb, cd0, cd1, cd2, cd3, cd4, cd5, cd6, cd7, cd8, cd9, cd10, v_g9, s_g9, r_g9⟩ hf hd
          have hf' : b6 = false := hf
          subst hf'
          have d5 : b5 = true := hd ⟨5, .data⟩ (by simp) rfl
          subst d5
          obtain rfl := cd5.out rfl
          clear hf hd
          try simp only [List.setIfInBounds_toArray, List.set_cons_zero, List.set_cons_succ]
          intro K hK
          rw [if_pos (by rfl)]
          go_simp
          exact hK.out _ _ ⟨b0, b1, b2, b3, b4, true, true, b7, b8, b9, b10, b11, x17, x18, x19, x20, x21, .pointer (some ⟨p, 0, none⟩), (.pointer (some ⟨p, 2, none⟩)), x24, x25, x26, x9, g9, (by simp only [Act.put, List.setIfInBounds_toArray, List.set_cons_zero, List.set_cons_succ]), (by simp only [Act.put, List.setIfInBounds_toArray, List.set_cons_zero, List.set_cons_succ]), hb, cd0, cd1, cd2, cd3, cd4, (fun _ => rfl), (fun _ => rfl), cd7, cd8, cd9, cd10, v_g9, s_g9, r_g9⟩
        · rintro L a w ⟨b0, b1, b2, b3, b4, b5, b6, b7, b8, b9, b10, b11, x17, x18, x19, x20, x21, x22, x23, x24, x25, x26, x9, g9, rfl, rfl, hb, cd0, cd1, cd2, cd3, cd4, cd5, cd6, cd7, cd8, cd9, cd10, v_g9, s_g9, r_g9⟩ hf hd
          have hf' : b7 = false := hf
          subst hf'
          have d6 : b6 = true := hd ⟨6, .data⟩ (by simp) rfl
          subst d6
          obtain rfl := cd6.out rfl
          clear hf hd
          try simp only [List.setIfInBounds_toArray, List.set_cons_zero, List.set_cons_succ]
          have z0 := (hb.cell hpB).trans t2
          intro K hK
          rw [if_pos (by rfl)]
          go_simp
          exact hK.out _ _ ⟨b0, b1, b2, b3, b4, b5, true, true, b8, b9, b10, b11, x17, x18, x19, x20, x21, x22, .pointer (some ⟨p, 2, none⟩), (.int .i64 (ky : Nat)), x25, x26, x9, g9, (by simp only [Act.put, List.setIfInBounds_toArray, List.set_cons_zero, List.set_cons_succ]), (by simp only [Act.put, List.setIfInBounds_toArray, List.set_cons_zero, List.set_cons_succ]), hb, cd0, cd1, cd2, cd3, cd4, cd5, (fun _ => rfl), (fun _ => rfl), cd8, cd9, cd10, v_g9, s_g9, r_g9⟩
        · rintro L a w ⟨b0, b1, b2, b3, b4, b5, b6, b7, b8, b9, b10, b11, x17, x18, x19, x20, x21, x22, x23, x24, x25, x26, x9, g9, rfl, rfl, hb, cd0, cd1, cd2, cd3, cd4, cd5, cd6, cd7, cd8, cd9, cd10, v_g9, s_g9, r_g9⟩ hf hd
          have hf' : b8 = false := hf
          subst hf'
          have d4 : b4 = true := hd ⟨4, .data⟩ (by simp) rfl
          subst d4
          have d7 : b7 = true := hd ⟨7, .data⟩ (by simp) rfl
          subst d7
          obtain rfl := cd4.out rfl
          obtain rfl := cd7.out rfl
          clear hf hd
          try simp only [List.setIfInBounds_toArray, List.set_cons_zero, List.set_cons_succ]
          intro K hK
          rw [if_pos (by rfl)]
          go_simp
          exact hK.out _ _ ⟨b0, b1, b2, b3, true, b5, b6, true, true, b9, b10, b11, x17, x18, x19, x20, .slice (some ⟨zb, zo, none⟩) xn xc, x22, x23, .int .i64 (ky : Nat), (.pointer (some ⟨zb, zo + ky * 3, none⟩)), x26, x9, g9, (by simp only [Act.put, List.setIfInBounds_toArray, List.set_cons_zero, List.set_cons_succ]), (by simp only [Act.put, List.setIfInBounds_toArray, List.set_cons_zero, List.set_cons_succ]), hb, cd0, cd1, cd2, cd3, (fun _ => rfl), cd5, cd6, (fun _ => rfl), (fun _ => rfl), cd9, cd10, v_g9, s_g9, r_g9⟩
        · rintro L a w ⟨b0, b1, b2, b3, b4, b5, b6, b7, b8, b9, b10, b11, x17, x18, x19, x20, x21, x22, x23, x24, x25, x26, x9, g9, rfl, rfl, hb, cd0, cd1, cd2, cd3, cd4, cd5, cd6, cd7, cd8, cd9, cd10, v_g9, s_g9, r_g9⟩ hf hd
          have hf' : b9 = false := hf
          subst hf'
          have d8 : b8 = true := hd ⟨8, .data⟩ (by simp) rfl
          subst d8
          obtain rfl := cd8.out rfl
          clear hf hd
          try simp only [List.setIfInBounds_toArray, List.set_cons_zero, List.set_cons_succ]
          have z0 := (hb.cell hzB).trans e0
          have z1 := (hb.cell hzB).trans e1
          have z2 := (hb.cell hzB).trans e2
          intro K hK
          rw [if_pos (by rfl)]
          go_simp
          exact hK.out _ _ ⟨b0, b1, b2, b3, b4, b5, b6, b7, true, true, b10, b11, x17, x18, x19, x20, x21, x22, x23, x24, .pointer (some ⟨zb, zo + ky * 3, none⟩), (.agg #[.int .i64 k1, .int .i64 m1, .string s1]), x9, g9, (by simp only [Act.put, List.setIfInBounds_toArray, List.set_cons_zero, List.set_cons_succ]), (by simp only [Act.put, List.setIfInBounds_toArray, List.set_cons_zero, List.set_cons_succ]), hb, cd0, cd1, cd2, cd3, cd4, cd5, cd6, cd7, (fun _ => rfl), (fun _ => rfl), cd10, v_g9, s_g9, (fun _ => rfl)⟩
        · rintro L a w ⟨b0, b1, b2, b3, b4, b5, b6, b7, b8, b9, b10, b11, x17, x18, x19, x20, x21, x22, x23, x24, x25, x26, x9, g9, rfl, rfl, hb, cd0, cd1, cd2, cd3, cd4, cd5, cd6, cd7, cd8, cd9, cd10, v_g9, s_g9, r_g9⟩ hf hd
          have hf' : b10 = false := hf
          subst hf'
          clear hf hd
          try simp only [List.setIfInBounds_toArray, List.set_cons_zero, List.set_cons_succ]
          intro K hK
          rw [if_pos (by rfl)]
          go_simp
          have bx : Below w.heap.size w (w.alloc (.cells #[.int .i64 0, .int .i64 0, .string ⟨#[]⟩] 55)) := (Below.refl _ _).alloc (Nat.le_refl _) _
          exact hK.out _ _ ⟨b0, b1, b2, b3, b4, b5, b6, b7, b8, b9, true, b11, x17, x18, x19, x20, x21, x22, x23, x24, x25, x26, (.pointer (some ⟨(w.heap.size), 0, none⟩)), w.heap.size, (by simp only [Act.put, List.setIfInBounds_toArray, List.set_cons_zero, List.set_cons_succ]), (by simp only [Act.put, List.setIfInBounds_toArray, List.set_cons_zero, List.set_cons_succ]), hb.trans (bx.mono hb.size), cd0, cd1, cd2, cd3, cd4, cd5, cd6, cd7, cd8, cd9, (fun _ => rfl), (fun _ => ⟨hb.size, by cases hq : b11 with | false => exact VAt.new w 0 0 ⟨#[]⟩ | true => exact absurd (s_g9.out hq) (by simp)⟩), (fun _ => rfl), r_g9⟩
        · rintro L a w ⟨b0, b1, b2, b3, b4, b5, b6, b7, b8, b9, b10, b11, x17, x18, x19, x20, x21, x22, x23, x24, x25, x26, x9, g9, rfl, rfl, hb, cd0, cd1, cd2, cd3, cd4, cd5, cd6, cd7, cd8, cd9, cd10, v_g9, s_g9, r_g9⟩ hf hd
          have hf' : b11 = false := hf
          subst hf'
          have d10 : b10 = true := hd ⟨10, .data⟩ (by simp) rfl
          subst d10
          have d9 : b9 = true := hd ⟨9, .data⟩ (by simp) rfl
          subst d9
          have d0 : b0 = true := hd ⟨0, .phase⟩ (by simp) rfl
          subst d0
          have d1 : b1 = true := hd ⟨1, .phase⟩ (by simp) rfl
          subst d1
          have d2 : b2 = true := hd ⟨2, .phase⟩ (by simp) rfl
          subst d2
          have d3 : b3 = true := hd ⟨3, .phase⟩ (by simp) rfl
          subst d3
          have d4 : b4 = true := hd ⟨4, .phase⟩ (by simp) rfl
          subst d4
          have d5 : b5 = true := hd ⟨5, .phase⟩ (by simp) rfl
          subst d5
          have d6 : b6 = true := hd ⟨6, .phase⟩ (by simp) rfl
          subst d6
          have d7 : b7 = true := hd ⟨7, .phase⟩ (by simp) rfl
          subst d7
          have d8 : b8 = true := hd ⟨8, .phase⟩ (by simp) rfl
          subst d8
          obtain rfl := cd10.out rfl
          obtain rfl := cd9.out rfl
          obtain rfl := cd0.out rfl
          obtain rfl := cd1.out rfl
          obtain rfl := cd2.out rfl
          obtain rfl := cd3.out rfl
          obtain rfl := cd4.out rfl
          obtain rfl := cd5.out rfl
          obtain rfl := cd6.out rfl
          obtain rfl := cd7.out rfl
          obtain rfl := cd8.out rfl
          clear hf hd
          try simp only [List.setIfInBounds_toArray, List.set_cons_zero, List.set_cons_succ]
          obtain ⟨vg, va⟩ := v_g9.out rfl
          simp only [cond_false] at va
          obtain ⟨z0, z1, z2, y0, y1, y2, vl⟩ := id va
          intro K hK
          rw [if_pos (by rfl)]
          go_simp
          exact hK.out _ _ ⟨true, true, true, true, true, true, true, true, true, true, true, true, .pointer (some ⟨p, 4, none⟩), .slice (some ⟨b, off, none⟩) rn rc, .int .i64 (j : Nat), .pointer (some ⟨b, off + j, none⟩), .slice (some ⟨zb, zo, none⟩) xn xc, .pointer (some ⟨p, 0, none⟩), .pointer (some ⟨p, 2, none⟩), .int .i64 (ky : Nat), .pointer (some ⟨zb, zo + ky * 3, none⟩), .agg #[.int .i64 k1, .int .i64 m1, .string s1], .pointer (some ⟨g9, 0, none⟩), g9, (by simp only [Act.put, List.setIfInBounds_toArray, List.set_cons_zero, List.set_cons_succ]), (by simp only [Act.put, List.setIfInBounds_toArray, List.set_cons_zero, List.set_cons_succ]), ((hb.setCell (p := ⟨g9, 0, none⟩) vg _).setCell (p := ⟨g9, 1, none⟩) vg _).setCell (p := ⟨g9, 2, none⟩) vg _, (fun _ => rfl), (fun _ => rfl), (fun _ => rfl), (fun _ => rfl), (fun _ => rfl), (fun _ => rfl), (fun _ => rfl), (fun _ => rfl), (fun _ => rfl), (fun _ => rfl), (fun _ => rfl), (fun _ => ⟨vg, va.set _ _ _⟩), (fun _ => rfl), (fun _ => rfl)⟩
      · rintro act V5 ⟨b0, b1, b2, b3, b4, b5, b6, b7, b8, b9, b10, b11, x17, x18, x19, x20, x21, x22, x23, x24, x25, x26, x9, g9, hL, rfl, hb, cd0, cd1, cd2, cd3, cd4, cd5, cd6, cd7, cd8, cd9, cd10, v_g9, s_g9, r_g9⟩
        have hL' : [true, true, true, true, true, true, true, true, true, true, true, true] = [b0, b1, b2, b3, b4, b5, b6, b7, b8, b9, b10, b11] := congrArg Array.toList hL
        simp only [List.cons.injEq, and_true] at hL'
        obtain ⟨rfl, rfl, rfl, rfl, rfl, rfl, rfl, rfl, rfl, rfl, rfl, rfl⟩ := hL'
        obtain rfl := cd0.out rfl
        obtain rfl := cd1.out rfl
        obtain rfl := cd2.out rfl
        obtain rfl := cd3.out rfl
        obtain rfl := cd4.out rfl
        obtain rfl := cd5.out rfl
        obtain rfl := cd6.out rfl
        obtain rfl := cd7.out rfl
        obtain rfl := cd8.out rfl
        obtain rfl := cd9.out rfl
        obtain rfl := cd10.out rfl
        obtain ⟨vg_g9, va_g9⟩ := v_g9.out rfl
        simp only [cond_true] at va_g9
        clear hL
        simp only [List.setIfInBounds_toArray, List.set_cons_zero, List.set_cons_succ]
        have bj : Below wr.heap.size wr V5 := (Below.refl _ _).drew.trans hb
        have BV : Below W.heap.size W V5 := hB.trans (bj.mono hB.size)
        have VK := va_g9
        have VL := hVl.past BV
        have VH := hVh.past BV
        have hpV := (hT.past BV).lt
        have t4V := tb_cells4 (hT.past BV)
        have hbV := Nat.lt_of_lt_of_le hbB bj.size
        have hcV := (bj.cell hbB).trans hc
        obtain ⟨x0, x1, x2, -, -, -, -⟩ := id VK
        obtain ⟨v0, v1, v2, -, -, -, -⟩ := id VL
        obtain ⟨y0, y1, y2, -, -, -, -⟩ := id VH
        clear hb t0 t1 t2 t3 t4 e0 e1 e2 va_g9 vg_g9 hc
        rcases Decidable.em (lo.k = 0) with hl0 | hl0
        · have hl0b : (lo.k == 0) = true := by simp [hl0]
          rcases Decidable.em (hi.k = 0) with hh0 | hh0
          · have hh0b : (hi.k == 0) = true := by simp [hh0]
            have HIN : inN lo hi ⟨k1, m1, s1⟩ = true := by simp [inN, hl0, hh0]
            go_upto_region 7 with fail
            have b67 := Below.refl V5.heap.size V5
            have bX := BV.trans (b67.mono BV.size)
            have hp7 := Nat.lt_of_lt_of_le hpV b67.size
            have hb7 := Nat.lt_of_lt_of_le hbV b67.size
            have hx7 := hx.past (B0.trans (bX.mono B0.size))
            have lS7 := lS.past (bj.trans (b67.mono bj.size))
            have o0 : OwnR EV (V5.alloc (.cells #[] 55)) 55 V5.heap.size 0 0 [] := own_emptyR V5 _
            have hsrc := (hx7.alloc (.cells #[] 55)).src Try.underlying49
            have hszW := bX.size
            go_wp2_with (first
              | (at_builtin; refine wpList_append_or rfl _ _ 49 49 rfl 55 rowTyV V5.heap.size 0 0 [] rfl o0 _ rfl xn r hsrc hxl xn (Nat.zero_add xn) r rfl (by omega) ?_; intro g1 c1 w8 o1 p1 q1; have b8 := below_puts (Below.refl _ V5) p1 (Nat.le_refl _); have q1' := ge_new q1; have hLit := lit_oneL w8 49 ⟨some ⟨g1, 0, none⟩, xn, c1⟩; have lS8 := (lS7.past b8).past ((Below.refl w8.heap.size w8).alloc (Nat.le_refl _) (.cells #[.slice (some ⟨g1, 0, none⟩) xn c1] 49)); have oR8 := o1.alloc (.cells #[.slice (some ⟨g1, 0, none⟩) xn c1] 49); have hq8 : W.heap.size ≤ (w8.alloc (.cells #[.slice (some ⟨g1, 0, none⟩) xn c1] 49)).heap.size := by rw [World.size_alloc]; have := b8.size; omega)
              | (at_builtin; refine wpList_append_g rfl _ _ 45 45 rfl rowTyH rfl lS8.own hq8 _ rfl 1 [⟨some ⟨g1, 0, none⟩, xn, c1⟩] (hLit.src Try.underlying45) rfl (by omega) (by omega) ?_; intro g' c' w10 o' gg hg' bb))
            have hne5 : blk la ≠ some g1 := fun e => by have := hlw _ e; have := (bj.trans (b67.mono bj.size)).size; omega
            have lS9 := lS8.app oR8 (by omega) hne5 o' gg hg'
            have bA : Below V5.heap.size V5 (w8.alloc (.cells #[.slice (some ⟨g1, 0, none⟩) xn c1] 49)) := b8.alloc b8.size _
            have B9 := (bX.trans (bA.mono hszW)).trans (bb.mono (by omega))
            have HN1 : rngF ky lo hi (rs.take (j + 1)) = rngF ky lo hi (rs.take j) ++ [r] := by rw [HNX.out, HIN]; rfl
            go_roundw
            case rel => exact ⟨j + 1, some ⟨g', 0, none⟩, ln + 1, c', _, by omega, rfl, by go_num, by rw [HN1]; exact lS9, B9⟩
            case measure => simp [intOf]; omega
          have hh0b : (hi.k == 0) = false := by simp [hh0]
          rcases Decidable.em (CH ≤ 0) with hch0 | hch0
          · have hch : (V.mk k1 m1 s1).cmp hi ≤ 0 := by rw [HCHe.out]; exact hch0
            have HIN : inN lo hi ⟨k1, m1, s1⟩ = true := by simp [inN, hl0, hh0, hch]
            go_upto_region 7 with (first
              | (go_at_call 87; (with_reducible refine (HCH _).mono ?_); rintro e w7 ⟨rfl, b7⟩; have b67 := b7; have t47 := (b67.cell hpV).trans t4V; have hc7 := (b67.cell hbV).trans hcV))
            have bX := BV.trans (b67.mono BV.size)
            have hp7 := Nat.lt_of_lt_of_le hpV b67.size
            have hb7 := Nat.lt_of_lt_of_le hbV b67.size
            have hx7 := hx.past (B0.trans (bX.mono B0.size))
            have lS7 := lS.past (bj.trans (b67.mono bj.size))
            have o0 : OwnR EV (w7.alloc (.cells #[] 55)) 55 w7.heap.size 0 0 [] := own_emptyR w7 _
            have hsrc := (hx7.alloc (.cells #[] 55)).src Try.underlying49
            have hszW := bX.size
            go_wp2_with (first
              | (at_builtin; refine wpList_append_or rfl _ _ 49 49 rfl 55 rowTyV w7.heap.size 0 0 [] rfl o0 _ rfl xn r hsrc hxl xn (Nat.zero_add xn) r rfl (by omega) ?_; intro g1 c1 w8 o1 p1 q1; have b8 := below_puts (Below.refl _ w7) p1 (Nat.le_refl _); have q1' := ge_new q1; have hLit := lit_oneL w8 49 ⟨some ⟨g1, 0, none⟩, xn, c1⟩; have lS8 := (lS7.past b8).past ((Below.refl w8.heap.size w8).alloc (Nat.le_refl _) (.cells #[.slice (some ⟨g1, 0, none⟩) xn c1] 49)); have oR8 := o1.alloc (.cells #[.slice (some ⟨g1, 0, none⟩) xn c1] 49); have hq8 : W.heap.size ≤ (w8.alloc (.cells #[.slice (some ⟨g1, 0, none⟩) xn c1] 49)).heap.size := by rw [World.size_alloc]; have := b8.size; omega)
              | (at_builtin; refine wpList_append_g rfl _ _ 45 45 rfl rowTyH rfl lS8.own hq8 _ rfl 1 [⟨some ⟨g1, 0, none⟩, xn, c1⟩] (hLit.src Try.underlying45) rfl (by omega) (by omega) ?_; intro g' c' w10 o' gg hg' bb))
            have hne5 : blk la ≠ some g1 := fun e => by have := hlw _ e; have := (bj.trans (b67.mono bj.size)).size; omega
            have lS9 := lS8.app oR8 (by omega) hne5 o' gg hg'
            have bA : Below w7.heap.size w7 (w8.alloc (.cells #[.slice (some ⟨g1, 0, none⟩) xn c1] 49)) := b8.alloc b8.size _
            have B9 := (bX.trans (bA.mono hszW)).trans (bb.mono (by omega))
            have HN1 : rngF ky lo hi (rs.take (j + 1)) = rngF ky lo hi (rs.take j) ++ [r] := by rw [HNX.out, HIN]; rfl
            go_roundw
            case rel => exact ⟨j + 1, some ⟨g', 0, none⟩, ln + 1, c', _, by omega, rfl, by go_num, by rw [HN1]; exact lS9, B9⟩
            case measure => simp [intOf]; omega
          · have hch : ¬ (V.mk k1 m1 s1).cmp hi ≤ 0 := by rw [HCHe.out]; exact hch0
            have HIN : inN lo hi ⟨k1, m1, s1⟩ = false := by simp [inN, hl0, hh0, hch]
            clear hl0
            go_upto_region 4 with (first
              | (go_at_call 87; (with_reducible refine (HCH _).mono ?_); rintro e w7 ⟨rfl, b7⟩; have b67 := b7; have t47 := (b67.cell hpV).trans t4V; have hc7 := (b67.cell hbV).trans hcV))
            go_wp2_with fail
            have bX := BV.trans (b67.mono BV.size)
            have lS7 := lS.past (bj.trans (b67.mono bj.size))
            have HN1 : rngF ky lo hi (rs.take (j + 1)) = rngF ky lo hi (rs.take j) := by rw [HNX.out, HIN]; simp
            go_roundw
            case rel => exact ⟨j + 1, la, ln, lc, hs, by omega, rfl, by go_num, by rw [HN1]; exact lS7, bX⟩
            case measure => simp [intOf]; omega
        have hl0b : (lo.k == 0) = false := by simp [hl0]
        rcases Decidable.em (0 ≤ CL) with hcl0 | hcl0
        · have hcl : 0 ≤ (V.mk k1 m1 s1).cmp lo := by rw [HCLe.out]; exact hcl0
          rcases Decidable.em (hi.k = 0) with hh0 | hh0
          · have hh0b : (hi.k == 0) = true := by simp [hh0]
            have HIN : inN lo hi ⟨k1, m1, s1⟩ = true := by simp [inN, hl0, hcl, hh0]
            go_upto_region 7 with (first
              | (go_at_call 87; (with_reducible refine (HCL _).mono ?_); rintro e w6 ⟨rfl, b6⟩; obtain ⟨y0, y1, y2, -, -, -, -⟩ := VH.past b6; obtain ⟨x0, x1, x2, -, -, -, -⟩ := VK.past b6; have t46 := (b6.cell hpV).trans t4V; have hc6 := (b6.cell hbV).trans hcV))
            have b67 := b6
            have bX := BV.trans (b67.mono BV.size)
            have hp7 := Nat.lt_of_lt_of_le hpV b67.size
            have hb7 := Nat.lt_of_lt_of_le hbV b67.size
            have hx7 := hx.past (B0.trans (bX.mono B0.size))
            have lS7 := lS.past (bj.trans (b67.mono bj.size))
            have o0 : OwnR EV (w6.alloc (.cells #[] 55)) 55 w6.heap.size 0 0 [] := own_emptyR w6 _
            have hsrc := (hx7.alloc (.cells #[] 55)).src Try.underlying49
            have hszW := bX.size
            go_wp2_with (first
              | (at_builtin; refine wpList_append_or rfl _ _ 49 49 rfl 55 rowTyV w6.heap.size 0 0 [] rfl o0 _ rfl xn r hsrc hxl xn (Nat.zero_add xn) r rfl (by omega) ?_; intro g1 c1 w8 o1 p1 q1; have b8 := below_puts (Below.refl _ w6) p1 (Nat.le_refl _); have q1' := ge_new q1; have hLit := lit_oneL w8 49 ⟨some ⟨g1, 0, none⟩, xn, c1⟩; have lS8 := (lS7.past b8).past ((Below.refl w8.heap.size w8).alloc (Nat.le_refl _) (.cells #[.slice (some ⟨g1, 0, none⟩) xn c1] 49)); have oR8 := o1.alloc (.cells #[.slice (some ⟨g1, 0, none⟩) xn c1] 49); have hq8 : W.heap.size ≤ (w8.alloc (.cells #[.slice (some ⟨g1, 0, none⟩) xn c1] 49)).heap.size := by rw [World.size_alloc]; have := b8.size; omega)
              | (at_builtin; refine wpList_append_g rfl _ _ 45 45 rfl rowTyH rfl lS8.own hq8 _ rfl 1 [⟨some ⟨g1, 0, none⟩, xn, c1⟩] (hLit.src Try.underlying45) rfl (by omega) (by omega) ?_; intro g' c' w10 o' gg hg' bb))
            have hne5 : blk la ≠ some g1 := fun e => by have := hlw _ e; have := (bj.trans (b67.mono bj.size)).size; omega
            have lS9 := lS8.app oR8 (by omega) hne5 o' gg hg'
            have bA : Below w6.heap.size w6 (w8.alloc (.cells #[.slice (some ⟨g1, 0, none⟩) xn c1] 49)) := b8.alloc b8.size _
            have B9 := (bX.trans (bA.mono hszW)).trans (bb.mono (by omega))
            have HN1 : rngF ky lo hi (rs.take (j + 1)) = rngF ky lo hi (rs.take j) ++ [r] := by rw [HNX.out, HIN]; rfl
            go_roundw
            case rel => exact ⟨j + 1, some ⟨g', 0, none⟩, ln + 1, c', _, by omega, rfl, by go_num, by rw [HN1]; exact lS9, B9⟩
            case measure => simp [intOf]; omega
          have hh0b : (hi.k == 0) = false := by simp [hh0]
          rcases Decidable.em (CH ≤ 0) with hch0 | hch0
          · have hch : (V.mk k1 m1 s1).cmp hi ≤ 0 := by rw [HCHe.out]; exact hch0
            have HIN : inN lo hi ⟨k1, m1, s1⟩ = true := by simp [inN, hl0, hcl, hh0, hch]
            go_upto_region 7 with (first
              | (go_at_call 87; (with_reducible refine (HCL _).mono ?_); rintro e w6 ⟨rfl, b6⟩; obtain ⟨y0, y1, y2, -, -, -, -⟩ := VH.past b6; obtain ⟨x0, x1, x2, -, -, -, -⟩ := VK.past b6; have t46 := (b6.cell hpV).trans t4V; have hc6 := (b6.cell hbV).trans hcV)
              | (go_at_call 87; (with_reducible refine (HCH _).mono ?_); rintro e w7 ⟨rfl, b7⟩; have b67 := b6.trans (b7.mono b6.size); have t47 := (b67.cell hpV).trans t4V; have hc7 := (b67.cell hbV).trans hcV))
            have bX := BV.trans (b67.mono BV.size)
            have hp7 := Nat.lt_of_lt_of_le hpV b67.size
            have hb7 := Nat.lt_of_lt_of_le hbV b67.size
            have hx7 := hx.past (B0.trans (bX.mono B0.size))
            have lS7 := lS.past (bj.trans (b67.mono bj.size))
            have o0 : OwnR EV (w7.alloc (.cells #[] 55)) 55 w7.heap.size 0 0 [] := own_emptyR w7 _
            have hsrc := (hx7.alloc (.cells #[] 55)).src Try.underlying49
            have hszW := bX.size
            go_wp2_with (first
              | (at_builtin; refine wpList_append_or rfl _ _ 49 49 rfl 55 rowTyV w7.heap.size 0 0 [] rfl o0 _ rfl xn r hsrc hxl xn (Nat.zero_add xn) r rfl (by omega) ?_; intro g1 c1 w8 o1 p1 q1; have b8 := below_puts (Below.refl _ w7) p1 (Nat.le_refl _); have q1' := ge_new q1; have hLit := lit_oneL w8 49 ⟨some ⟨g1, 0, none⟩, xn, c1⟩; have lS8 := (lS7.past b8).past ((Below.refl w8.heap.size w8).alloc (Nat.le_refl _) (.cells #[.slice (some ⟨g1, 0, none⟩) xn c1] 49)); have oR8 := o1.alloc (.cells #[.slice (some ⟨g1, 0, none⟩) xn c1] 49); have hq8 : W.heap.size ≤ (w8.alloc (.cells #[.slice (some ⟨g1, 0, none⟩) xn c1] 49)).heap.size := by rw [World.size_alloc]; have := b8.size; omega)
              | (at_builtin; refine wpList_append_g rfl _ _ 45 45 rfl rowTyH rfl lS8.own hq8 _ rfl 1 [⟨some ⟨g1, 0, none⟩, xn, c1⟩] (hLit.src Try.underlying45) rfl (by omega) (by omega) ?_; intro g' c' w10 o' gg hg' bb))
            have hne5 : blk la ≠ some g1 := fun e => by have := hlw _ e; have := (bj.trans (b67.mono bj.size)).size; omega
            have lS9 := lS8.app oR8 (by omega) hne5 o' gg hg'
            have bA : Below w7.heap.size w7 (w8.alloc (.cells #[.slice (some ⟨g1, 0, none⟩) xn c1] 49)) := b8.alloc b8.size _
            have B9 := (bX.trans (bA.mono hszW)).trans (bb.mono (by omega))
            have HN1 : rngF ky lo hi (rs.take (j + 1)) = rngF ky lo hi (rs.take j) ++ [r] := by rw [HNX.out, HIN]; rfl
            go_roundw
            case rel => exact ⟨j + 1, some ⟨g', 0, none⟩, ln + 1, c', _, by omega, rfl, by go_num, by rw [HN1]; exact lS9, B9⟩
            case measure => simp [intOf]; omega
          · have hch : ¬ (V.mk k1 m1 s1).cmp hi ≤ 0 := by rw [HCHe.out]; exact hch0
            have HIN : inN lo hi ⟨k1, m1, s1⟩ = false := by simp [inN, hl0, hcl, hh0, hch]
            go_wp2_with (first
              | (go_at_call 87; (with_reducible refine (HCL _).mono ?_); rintro e w6 ⟨rfl, b6⟩; obtain ⟨y0, y1, y2, -, -, -, -⟩ := VH.past b6; obtain ⟨x0, x1, x2, -, -, -, -⟩ := VK.past b6; have t46 := (b6.cell hpV).trans t4V; have hc6 := (b6.cell hbV).trans hcV)
              | (go_at_call 87; (with_reducible refine (HCH _).mono ?_); rintro e w7 ⟨rfl, b7⟩; have b67 := b6.trans (b7.mono b6.size); have t47 := (b67.cell hpV).trans t4V; have hc7 := (b67.cell hbV).trans hcV))
            have bX := BV.trans (b67.mono BV.size)
            have lS7 := lS.past (bj.trans (b67.mono bj.size))
            have HN1 : rngF ky lo hi (rs.take (j + 1)) = rngF ky lo hi (rs.take j) := by rw [HNX.out, HIN]; simp
            go_roundw
            case rel => exact ⟨j + 1, la, ln, lc, hs, by omega, rfl, by go_num, by rw [HN1]; exact lS7, bX⟩
            case measure => simp [intOf]; omega
        · have hcl : ¬ 0 ≤ (V.mk k1 m1 s1).cmp lo := by rw [HCLe.out]; exact hcl0
          have HIN : inN lo hi ⟨k1, m1, s1⟩ = false := by simp [inN, hl0, hcl]
          go_wp2_with (first
            | (go_at_call 87; (with_reducible refine (HCL _).mono ?_); rintro e w6 ⟨rfl, b6⟩; obtain ⟨y0, y1, y2, -, -, -, -⟩ := VH.past b6; obtain ⟨x0, x1, x2, -, -, -, -⟩ := VK.past b6; have t46 := (b6.cell hpV).trans t4V; have hc6 := (b6.cell hbV).trans hcV))
          have b67 := b6
          have bX := BV.trans (b67.mono BV.size)
          have lS7 := lS.past (bj.trans (b67.mono bj.size))
          have HN1 : rngF ky lo hi (rs.take (j + 1)) = rngF ky lo hi (rs.take j) := by rw [HNX.out, HIN]; simp
          go_roundw
          case rel => exact ⟨j + 1, la, ln, lc, hs, by omega, rfl, by go_num, by rw [HN1]; exact lS7, bX⟩
          case measure => simp [intOf]; omega
    · have hlti : ¬ ((j : Int) < (rn : Int)) := by omega
      have hjr : rs.take j = rs := List.take_of_length_le (by omega)
      rw [hjr] at lS
      have hll := lS.len
      have hrr := lS.rr
      go_wp2_with fail
      go_ret
      subst hll
      exact ⟨_, la, lc, rfl, hrr, B0.trans (hB.mono B0.size)⟩
end Go.Proofs.Ytllijeciodmckaa
namespace Go.Proofs.Ytllijeciodmckaa
open Go.RowKit
set_option linter.unusedSimpArgs false
/-- What stands while the region's operations come up. -/
inductive Rows106 (B : Nat) (b : Nat) (off : Nat) (n : Nat) (c : Nat) (b' : Nat) (off' : Nat) (c' : Nat) (j : Nat) (za : Option Addr) (zn : Nat) (zc : Nat) (ya : Option Addr) (yn : Nat) (yc : Nat) (a0 : Act) (w0 : World) (L : Array Bool) (a : Act) (w : World) : Prop
  | mk (b0 b1 b2 b3 b4 b5 b6 b7 b8 b9 : Bool) (x17 x18 x19 x20 x21 x22 x23 x24 x25 x26 : Value) (hL : L = #[b0, b1, b2, b3, b4, b5, b6, b7, b8, b9]) (ha : a = ⟨((((((((((a0.tmps.setIfInBounds 17 x17).setIfInBounds 18 x18).setIfInBounds 19 x19).setIfInBounds 20 x20).setIfInBounds 21 x21).setIfInBounds 22 x22).setIfInBounds 23 x23).setIfInBounds 24 x24).setIfInBounds 25 x25).setIfInBounds 26 x26), a0.defers⟩) (hb : Below B w0 w) (cd0 : Hid (b0 = true → x17 = .slice (some ⟨b, off, none⟩) n c)) (cd1 : Hid (b1 = true → x18 = .int .i64 (j : Nat))) (cd2 : Hid (b2 = true → x19 = .pointer (some ⟨b, off + j, none⟩))) (cd3 : Hid (b3 = true → x20 = .slice za zn zc)) (cd4 : Hid (b4 = true → x21 = .slice (some ⟨b', off', none⟩) n c')) (cd5 : Hid (b5 = true → x22 = .int .i64 (j : Nat))) (cd6 : Hid (b6 = true → x23 = .pointer (some ⟨b', off' + j, none⟩))) (cd7 : Hid (b7 = true → x24 = .slice ya yn yc)) (cd8 : Hid (b8 = true → x25 = .bool true)) (cd9 : Hid (b9 = true → x26 = .bool false)) : Rows106 B b off n c b' off' c' j za zn zc ya yn yc a0 w0 L a w
set_option maxRecDepth 100000 in
set_option maxHeartbeats 1000000 in
theorem rows10_any (w : World) (B B' : Nat) (ao : Option Addr) (n c : Nat) (ao' : Option Addr) (c' : Nat) (rs : List (List V)) (h : IsRR EV w B ao n c rs) (h' : IsRR EV w B' ao' n c' rs) (hn : n ≤ 1000) :
    Calls Try.prog 32 #[.slice ao n c, .slice ao' n c'] w (Told w true) := by
  have hln := h.len
  go_enter Try.func32, Try.ntmps32
  go_wp2_with fail
  go_loopw [5] (fun i wr => ∃ j : Nat, j ≤ n ∧ i = .int .i64 (j : Nat) ∧ Below w.heap.size w wr) (fun i _ => n - (intOf i).toNat)
  case atStart => exact ⟨0, Nat.zero_le _, rfl, Below.refl _ _⟩
  case round =>
    obtain ⟨j, hj, rfl, hB⟩ := hrel
    by_cases hlt : j < n
    · have hlti : (j : Int) < (n : Int) := by omega
      obtain ⟨r, hr⟩ : ∃ r, rs[j]? = some r := ⟨rs[j]'(by omega), List.getElem?_eq_getElem _⟩
      obtain ⟨b, off, x, rfl, hbx, hc1, hx⟩ := h.at hr
      obtain ⟨b', off', y, rfl, hby, hc2, hy⟩ := h'.at hr
      obtain ⟨za, zn, zc⟩ := x
      obtain ⟨ya, yn, yc⟩ := y
      simp only at hc1 hx hc2 hy
      rw [← hB.cell hbx] at hc1
      rw [← hB.cell hby] at hc2
      have hbB := Nat.lt_of_lt_of_le hbx hB.size
      have hbB' := Nat.lt_of_lt_of_le hby hB.size
      have HS0 : ∀ w', Below wr.heap.size wr.drew w' → Calls Try.prog 25 #[.slice za zn zc, .slice ya yn yc] w' fun e w'' => e = .returned (.bool true) ∧ Below w'.heap.size w' w'' := fun w' hb => by
        have bq := hB.trans (((Below.refl _ _).drew.trans hb).mono hB.size)
        have := rsame_any za zn zc r ya yn yc r w' (hx.past bq) (hy.past bq)
        rwa [(eqVs_iff r r).2 rfl] at this
      have HS := HS0
      have hB0 : wr.heap.size ≤ wr.heap.size := Nat.le_refl _
      clear HS0 hx hy hr
      go_upto_region 6 with fail
      refine region_inv (Rows106 wr.heap.size b off n c b' off' c' j za zn zc ya yn yc) (by kernel_rfl) (by kernel_rfl) ?_ ?_ ?_
      · exact ⟨false, false, false, false, false, false, false, false, false, false, u17, u18, u19, u20, u21, u22, u23, u24, u25, u26, rfl, (by simp only [Act.put, List.setIfInBounds_toArray, List.set_cons_zero, List.set_cons_succ]), Below.refl _ _, (fun h => by cases h), (fun h => by cases h), (fun h => by cases h), (fun h => by cases h), (fun h => by cases h), (fun h => by cases h), (fun h => by cases h), (fun h => by cases h), (fun h => by cases h), (fun h => by cases h)⟩
      · refine ⟨?_, ?_, ?_, ?_, ?_, ?_, ?_, ?_, ?_, ?_, trivial⟩
        · rintro L a w ⟨b0, b1, b2, b3, b4, b5, b6, b7, b8, b9, x17, x18, x19, x20, x21, x22, x23, x24, x25, x26, rfl, rfl, hb, cd0, cd1, cd2, cd3, cd4, cd5, cd6, cd7, cd8, cd9⟩ hf hd
          have hf' : b0 = false := hf
          subst hf'
          clear hf hd
          try simp only [List.setIfInBounds_toArray, List.set_cons_zero, List.set_cons_succ]
          intro K hK
          rw [if_pos (by rfl)]
          go_simp
          exact hK.out _ _ ⟨true, b1, b2, b3, b4, b5, b6, b7, b8, b9, (.slice (some ⟨b, off, none⟩) n c), x18, x19, x20, x21, x22, x23, x24, x25, x26, (by simp only [Act.put, List.setIfInBounds_toArray, List.set_cons_zero, List.set_cons_succ]), (by simp only [Act.put, List.setIfInBounds_toArray, List.set_cons_zero, List.set_cons_succ]), hb, (fun _ => rfl), cd1, cd2, cd3, cd4, cd5, cd6, cd7, cd8, cd9⟩
        · rintro L a w ⟨b0, b1, b2, b3, b4, b5, b6, b7, b8, b9, x17, x18, x19, x20, x21, x22, x23, x24, x25, x26, rfl, rfl, hb, cd0, cd1, cd2, cd3, cd4, cd5, cd6, cd7, cd8, cd9⟩ hf hd
          have hf' : b1 = false := hf
          subst hf'
          clear hf hd
          try simp only [List.setIfInBounds_toArray, List.set_cons_zero, List.set_cons_succ]
          intro K hK
          rw [if_pos (by rfl)]
          go_simp
          exact hK.out _ _ ⟨b0, true, b2, b3, b4, b5, b6, b7, b8, b9, x17, (.int .i64 (j : Nat)), x19, x20, x21, x22, x23, x24, x25, x26, (by simp only [Act.put, List.setIfInBounds_toArray, List.set_cons_zero, List.set_cons_succ]), (by simp only [Act.put, List.setIfInBounds_toArray, List.set_cons_zero, List.set_cons_succ]), hb, cd0, (fun _ => rfl), cd2, cd3, cd4, cd5, cd6, cd7, cd8, cd9⟩
        · rintro L a w ⟨b0, b1, b2, b3, b4, b5, b6, b7, b8, b9, x17, x18, x19, x20, x21, x22, x23, x24, x25, x26, rfl, rfl, hb, cd0, cd1, cd2, cd3, cd4, cd5, cd6, cd7, cd8, cd9⟩ hf hd
          have hf' : b2 = false := hf
          subst hf'
          have d0 : b0 = true := hd ⟨0, .data⟩ (by simp) rfl
          subst d0
          have d1 : b1 = true := hd ⟨1, .data⟩ (by simp) rfl
          subst d1
          obtain rfl := cd0.out rfl
          obtain rfl := cd1.out rfl
          clear hf hd
          try simp only [List.setIfInBounds_toArray, List.set_cons_zero, List.set_cons_succ]
          intro K hK
          rw [if_pos (by rfl)]
          go_simp
          exact hK.out _ _ ⟨true, true, true, b3, b4, b5, b6, b7, b8, b9, .slice (some ⟨b, off, none⟩) n c, .int .i64 (j : Nat), (.pointer (some ⟨b, off + j, none⟩)), x20, x21, x22, x23, x24, x25, x26, (by simp only [Act.put, List.setIfInBounds_toArray, List.set_cons_zero, List.set_cons_succ]), (by simp only [Act.put, List.setIfInBounds_toArray, List.set_cons_zero, List.set_cons_succ]), hb, (fun _ => rfl), (fun _ => rfl), (fun _ => rfl), cd3, cd4, cd5, cd6, cd7, cd8, cd9⟩
        · rintro L a w ⟨b0, b1, b2, b3, b4, b5, b6, b7, b8, b9, x17, x18, x19, x20, x21, x22, x23, x24, x25, x26, rfl, rfl, hb, cd0, cd1, cd2, cd3, cd4, cd5, cd6, cd7, cd8, cd9⟩ hf hd
          have hf' : b3 = false := hf
          subst hf'
          have d2 : b2 = true := hd ⟨2, .data⟩ (by simp) rfl
          subst d2
          obtain rfl := cd2.out rfl
          clear hf hd
          try simp only [List.setIfInBounds_toArray, List.set_cons_zero, List.set_cons_succ]
          have z0 := (hb.cell hbB).trans hc1
          intro K hK
          rw [if_pos (by rfl)]
          go_simp
          exact hK.out _ _ ⟨b0, b1, true, true, b4, b5, b6, b7, b8, b9, x17, x18, .pointer (some ⟨b, off + j, none⟩), (.slice za zn zc), x21, x22, x23, x24, x25, x26, (by simp only [Act.put, List.setIfInBounds_toArray, List.set_cons_zero, List.set_cons_succ]), (by simp only [Act.put, List.setIfInBounds_toArray, List.set_cons_zero, List.set_cons_succ]), hb, cd0, cd1, (fun _ => rfl), (fun _ => rfl), cd4, cd5, cd6, cd7, cd8, cd9⟩
        · rintro L a w ⟨b0, b1, b2, b3, b4, b5, b6, b7, b8, b9, x17, x18, x19, x20, x21, x22, x23, x24, x25, x26, rfl, rfl, hb, cd0, cd1, cd2, cd3, cd4, cd5, cd6, cd7, cd8, cd9⟩ hf hd
          have hf' : b4 = false := hf
          subst hf'
          clear hf hd
          try simp only [List.setIfInBounds_toArray, List.set_cons_zero, List.set_cons_succ]
          intro K hK
          rw [if_pos (by rfl)]
          go_simp
          exact hK.out _ _ ⟨b0, b1, b2, b3, true, b5, b6, b7, b8, b9, x17, x18, x19, x20, (.slice (some ⟨b', off', none⟩) n c'), x22, x23, x24, x25, x26, (by simp only [Act.put, List.setIfInBounds_toArray, List.set_cons_zero, List.set_cons_succ]), (by simp only [Act.put, List.setIfInBounds_toArray, List.set_cons_zero, List.set_cons_succ]), hb, cd0, cd1, cd2, cd3, (fun _ => rfl), cd5, cd6, cd7, cd8, cd9⟩
        · rintro L a w ⟨b0, b1, b2, b3, b4, b5, b6, b7, b8, b9, x17, x18, x19, x20, x21, x22, x23, x24, x25, x26, rfl, rfl, hb, cd0, cd1, cd2, cd3, cd4, cd5, cd6, cd7, cd8, cd9⟩ hf hd
          have hf' : b5 = false := hf
          subst hf'
          clear hf hd
          try simp only [List.setIfInBounds_toArray, List.set_cons_zero, List.set_cons_succ]
          intro K hK
          rw [if_pos (by rfl)]
          go_simp
          exact hK.out _ _ ⟨b0, b1, b2, b3, b4, true, b6, b7, b8, b9, x17, x18, x19, x20, x21, (.int .i64 (j : Nat)), x23, x24, x25, x26, (by simp only [Act.put, List.setIfInBounds_toArray, List.set_cons_zero, List.set_cons_succ]), (by simp only [Act.put, List.setIfInBounds_toArray, List.set_cons_zero, List.set_cons_succ]), hb, cd0, cd1, cd2, cd3, cd4, (fun _ => rfl), cd6, cd7, cd8, cd9⟩
        · rintro L a w ⟨b0, b1, b2, b3, b4, b5, b6, b7, b8, b9, x17, x18, x19, x20, x21, x22, x23, x24, x25, x26, rfl, rfl, hb, cd0, cd1, cd2, cd3, cd4, cd5, cd6, cd7, cd8, cd9⟩ hf hd
          have hf' : b6 = false := hf
          subst hf'
          have d4 : b4 = true := hd ⟨4, .data⟩ (by simp) rfl
          subst d4
          have d5 : b5 = true := hd ⟨5, .data⟩ (by simp) rfl
          subst d5
          obtain rfl := cd4.out rfl
          obtain rfl := cd5.out rfl
          clear hf hd
          try simp only [List.setIfInBounds_toArray, List.set_cons_zero, List.set_cons_succ]
          intro K hK
          rw [if_pos (by rfl)]
          go_simp
          exact hK.out _ _ ⟨b0, b1, b2, b3, true, true, true, b7, b8, b9, x17, x18, x19, x20, .slice (some ⟨b', off', none⟩) n c', .int .i64 (j : Nat), (.pointer (some ⟨b', off' + j, none⟩)), x24, x25, x26, (by simp only [Act.put, List.setIfInBounds_toArray, List.set_cons_zero, List.set_cons_succ]), (by simp only [Act.put, List.setIfInBounds_toArray, List.set_cons_zero, List.set_cons_succ]), hb, cd0, cd1, cd2, cd3, (fun _ => rfl), (fun _ => rfl), (fun _ => rfl), cd7, cd8, cd9⟩
        · rintro L a w ⟨b0, b1, b2, b3, b4, b5, b6, b7, b8, b9, x17, x18, x19, x20, x21, x22, x23, x24, x25, x26, rfl, rfl, hb, cd0, cd1, cd2, cd3, cd4, cd5, cd6, cd7, cd8, cd9⟩ hf hd
          have hf' : b7 = false := hf
          subst hf'
          have d6 : b6 = true := hd ⟨6, .data⟩ (by simp) rfl
          subst d6
          obtain rfl := cd6.out rfl
          clear hf hd
          try simp only [List.setIfInBounds_toArray, List.set_cons_zero, List.set_cons_succ]
          have z0 := (hb.cell hbB').trans hc2
          intro K hK
          rw [if_pos (by rfl)]
          go_simp
          exact hK.out _ _ ⟨b0, b1, b2, b3, b4, b5, true, true, b8, b9, x17, x18, x19, x20, x21, x22, .pointer (some ⟨b', off' + j, none⟩), (.slice ya yn yc), x25, x26, (by simp only [Act.put, List.setIfInBounds_toArray, List.set_cons_zero, List.set_cons_succ]), (by simp only [Act.put, List.setIfInBounds_toArray, List.set_cons_zero, List.set_cons_succ]), hb, cd0, cd1, cd2, cd3, cd4, cd5, (fun _ => rfl), (fun _ => rfl), cd8, cd9⟩
        · rintro L a w ⟨b0, b1, b2, b3, b4, b5, b6, b7, b8, b9, x17, x18, x19, x20, x21, x22, x23, x24, x25, x26, rfl, rfl, hb, cd0, cd1, cd2, cd3, cd4, cd5, cd6, cd7, cd8, cd9⟩ hf hd
          have hf' : b8 = false := hf
          subst hf'
          have d3 : b3 = true := hd ⟨3, .data⟩ (by simp) rfl
          subst d3
          have d7 : b7 = true := hd ⟨7, .data⟩ (by simp) rfl
          subst d7
          obtain rfl := cd3.out rfl
          obtain rfl := cd7.out rfl
          clear hf hd
          try simp only [List.setIfInBounds_toArray, List.set_cons_zero, List.set_cons_succ]
          intro K hK
          rw [if_pos (by rfl)]
          go_simp
          go_at_call 25
          refine (HS _ hb).mono ?_
          rintro e w' ⟨rfl, bx⟩
          exact hK.out _ _ ⟨b0, b1, b2, true, b4, b5, b6, true, true, b9, x17, x18, x19, .slice za zn zc, x21, x22, x23, .slice ya yn yc, (.bool true), x26, (by simp only [Act.put, List.setIfInBounds_toArray, List.set_cons_zero, List.set_cons_succ]), (by simp only [Act.put, List.setIfInBounds_toArray, List.set_cons_zero, List.set_cons_succ]), hb.trans (bx.mono (Nat.le_trans hB0 hb.size)), cd0, cd1, cd2, (fun _ => rfl), cd4, cd5, cd6, (fun _ => rfl), (fun _ => rfl), cd9⟩
        · rintro L a w ⟨b0, b1, b2, b3, b4, b5, b6, b7, b8, b9, x17, x18, x19, x20, x21, x22, x23, x24, x25, x26, rfl, rfl, hb, cd0, cd1, cd2, cd3, cd4, cd5, cd6, cd7, cd8, cd9⟩ hf hd
          have hf' : b9 = false := hf
          subst hf'
          have d8 : b8 = true := hd ⟨8, .data⟩ (by simp) rfl
          subst d8
          obtain rfl := cd8.out rfl
          clear hf hd
          try simp only [List.setIfInBounds_toArray, List.set_cons_zero, List.set_cons_succ]
          intro K hK
          rw [if_pos (by rfl)]
          go_simp
          exact hK.out _ _ ⟨b0, b1, b2, b3, b4, b5, b6, b7, true, true, x17, x18, x19, x20, x21, x22, x23, x24, .bool true, (.bool false), (by simp only [Act.put, List.setIfInBounds_toArray, List.set_cons_zero, List.set_cons_succ]), (by simp only [Act.put, List.setIfInBounds_toArray, List.set_cons_zero, List.set_cons_succ]), hb, cd0, cd1, cd2, cd3, cd4, cd5, cd6, cd7, (fun _ => rfl), (fun _ => rfl)⟩
      · rintro act V9 ⟨b0, b1, b2, b3, b4, b5, b6, b7, b8, b9, x17, x18, x19, x20, x21, x22, x23, x24, x25, x26, hL, rfl, hb, cd0, cd1, cd2, cd3, cd4, cd5, cd6, cd7, cd8, cd9⟩
        have hL' : [true, true, true, true, true, true, true, true, true, true] = [b0, b1, b2, b3, b4, b5, b6, b7, b8, b9] := congrArg Array.toList hL
        simp only [List.cons.injEq, and_true] at hL'
        obtain ⟨rfl, rfl, rfl, rfl, rfl, rfl, rfl, rfl, rfl, rfl⟩ := hL'
        obtain rfl := cd0.out rfl
        obtain rfl := cd1.out rfl
        obtain rfl := cd2.out rfl
        obtain rfl := cd3.out rfl
        obtain rfl := cd4.out rfl
        obtain rfl := cd5.out rfl
        obtain rfl := cd6.out rfl
        obtain rfl := cd7.out rfl
        obtain rfl := cd8.out rfl
        obtain rfl := cd9.out rfl
        clear hL cd0 cd1 cd2 cd3 cd4 cd5 cd6 cd7 cd8 cd9
        simp only [List.setIfInBounds_toArray, List.set_cons_zero, List.set_cons_succ]
        have BV : Below w.heap.size w V9 := hB.trans (((Below.refl _ _).drew.trans hb).mono hB.size)
        clear hb
        go_wp2_with fail
        go_roundw
        case rel => exact ⟨j + 1, by omega, by go_num, BV⟩
        case measure => simp [intOf]; omega
    · have hlti : ¬ ((j : Int) < (n : Int)) := by omega
      go_wp2_with fail
      go_ret
      exact ⟨rfl, hB⟩
end Go.Proofs.Ytllijeciodmckaa
