/-
  Tables, as they lie in memory.
-/
import Derived.Test.YtllijeciodmckaaOwn
import Derived.Test.YtllijeciodmckaaTabP
import Derived.Test.YtllijeciodmckaaFits
import Derived.Test.YtllijeciodmckaaInv
namespace Go.Proofs.Ytllijeciodmckaa
open Go.RowKit

/-- Block g holds the cells cs. -/
def Bk (w : World) (g : Nat) (cs : Array Value) (t : TypeId) : Prop := w.heap[g]? = some (.cells cs t (0, 0))
section
variable {w w' : World} {g : Nat} {cs : Array Value} {t : TypeId}
theorem Bk.lt (h : Bk w g cs t) : g < w.heap.size := (Array.getElem?_eq_some_iff.1 h).1
theorem Bk.past (h : Bk w g cs t) (b : Below w.heap.size w w') : Bk w' g cs t := (b.block g h.lt).trans h
theorem Bk.grown {r : Option Nat} (h : Bk w g cs t) (b : w.grownBy w' r) (hne : some g ≠ r) : Bk w' g cs t := (b.block g h.lt hne).trans h
theorem Bk.c (h : Bk w g cs t) {i : Nat} {v : Value} (hv : cs[i]? = some v) : w.cell? ⟨g, i, none⟩ = some v := cell_blk h hv
theorem Bk.new (w : World) (cs : Array Value) (t : TypeId) : Bk (w.alloc (.cells cs t)) w.heap.size cs t := heap_alloc_new w _
theorem Bk.alloc (h : Bk w g cs t) (o : Obj) : Bk (w.alloc o) g cs t := (Below.heap_alloc w o g h.lt).trans h
end
/-- A table, a spot in it. -/
def tbC (l : List UInt8) (co : Option Addr) (cn cc : Nat) (key : Int) (only : Bool) (ro : Option Addr) (rn rc : Nat) : Array Value := #[.string (bsOf l), .slice co cn cc, .int .i64 key, .bool only, .slice ro rn rc]
def tbV (l : List UInt8) (co : Option Addr) (cn cc : Nat) (key : Int) (only : Bool) (ro : Option Addr) (rn rc : Nat) : Value := .agg #[.string (bsOf l), .slice co cn cc, .int .i64 key, .bool only, .slice ro rn rc]
def spV (l : List UInt8) (co : Option Addr) (cn cc : Nat) (key : Int) (only : Bool) (ro : Option Addr) (rn rc : Nat) (at' : Int) (tk : Bool) : Value := .agg #[.string (bsOf l), .slice co cn cc, .int .i64 key, .bool only, .slice ro rn rc, .int .i64 at', .bool tk]
/-- What a table's headers lead to. -/
structure IsT (w : World) (B : Nat) (co : Option Addr) (cn cc : Nat) (cs : List Co) (ro : Option Addr) (rn rc : Nat) (rs : List (List V)) : Prop where
  cols : IsR encCo w co cn cc cs
  rows : IsRR EV w B ro rn rc rs
  frm : Frm B co
section
variable {w w' : World} {B : Nat} {co : Option Addr} {cn cc : Nat} {cs : List Co} {ro : Option Addr} {rn rc : Nat} {rs : List (List V)}
theorem IsT.past (h : IsT w B co cn cc cs ro rn rc rs) (b : Below w.heap.size w w') : IsT w' B co cn cc cs ro rn rc rs := ⟨h.cols.past b, h.rows.past b, h.frm⟩
theorem IsT.mono {B' : Nat} (h : IsT w B co cn cc cs ro rn rc rs) (hB : B' ≤ B) : IsT w B' co cn cc cs ro rn rc rs := ⟨h.cols, h.rows.mono hB, h.frm.mono hB⟩
theorem IsRR.grown {α : Type} {E : Enc α} {n c : Nat} {ls : List (List α)} {ao : Option Addr} (h : IsRR E w B ao n c ls) {r : Nat} (g : w.grownBy w' (some r)) (hr : r < B) : IsRR E w' B ao n c ls := by
  obtain ⟨hs, h1, h2, h3, h4⟩ := h
  refine ⟨hs, h1.grown g (fun a ha e => ?_), ⟨h2.1, fun j x l hx hl => (h2.2 j x l hx hl).grown g (fun a ha e => ?_)⟩, h3, h4⟩
  · have := h3 a ha
    have := Option.some.inj e
    omega
  · have := h4 x (List.mem_of_getElem? hx) a ha
    have := Option.some.inj e
    omega
end
theorem isR_front {α : Type} {E : Enc α} {w : World} {ao : Option Addr} {n cap : Nat} {l : List α} (h : IsR E w ao n cap l) (m : Nat) (hm : m ≤ n) : IsR E w ao m cap (l.take m) := by
  have h1 := h.len
  have h2 := h.le
  refine ⟨by rw [List.length_take]; omega, by omega, h.max, h.nil, fun a ha j u hu => h.cell a ha j u ?_⟩
  rw [← E.all_take, List.getElem?_take] at hu
  split at hu
  · exact hu
  · cases hu
theorem nilRR {α : Type} {E : Enc α} (w : World) (B : Nat) : IsRR E w B none 0 0 [] := IsRR.nil w B
set_option maxRecDepth 100000 in
theorem next_any (w : World) (l : List UInt8) (co : Option Addr) (cn cc : Nat) (key : Int) (only : Bool) (ro : Option Addr) (rn rc : Nat) (m : Nat) (hm : m ≤ 1000000) (tk : Bool) :
    Calls Try.prog 90 #[spV l co cn cc key only ro rn rc (m : Nat) tk] w fun e w' => e = .returned (.int .i64 (if tk then (m + 1 : Nat) else (m : Nat))) ∧ Below w.heap.size w w' := by
  have B : Below w.heap.size w (w.alloc (.cells #[.string (bsOf l), .slice co cn cc, .int .i64 key, .bool only, .slice ro rn rc, .int .i64 (m : Nat), .bool tk] 161)) := (Below.refl _ _).alloc (Nat.le_refl _) _
  unfold spV
  cases tk
  · go_enter Try.func90, Try.ntmps90
    go_wp2_with fail
    go_ret
    exact ⟨rfl, B⟩
  · go_enter Try.func90, Try.ntmps90
    go_wp2_with fail
    go_ret
    exact ⟨ret_int (by simp), B⟩
set_option maxRecDepth 100000 in
theorem ahead_any (w : World) (l : List UInt8) (co : Option Addr) (cn cc : Nat) (key : Int) (only : Bool) (ro : Option Addr) (rn rc : Nat) (hs : List HdR) (h : IsR EH w ro rn rc hs) (m : Nat) (hm : m ≤ rn) (tk : Bool) :
    Calls Try.prog 79 #[spV l co cn cc key only ro rn rc (m : Nat) tk] w fun e w' => ∃ ao c, e = .returned (.slice ao m c) ∧ IsR EH w' ao m c (hs.take m) ∧ Below w.heap.size w w' := by
  have B : Below w.heap.size w (w.alloc (.cells #[.string (bsOf l), .slice co cn cc, .int .i64 key, .bool only, .slice ro rn rc, .int .i64 (m : Nat), .bool tk] 161)) := (Below.refl _ _).alloc (Nat.le_refl _) _
  have hle := h.le
  have hmc : (m : Int) ≤ (rc : Int) := by omega
  have hp := isR_front h m hm
  unfold spV
  go_enter Try.func79, Try.ntmps79
  go_wp2_with fail
  go_ret
  exact ⟨_, _, rfl, hp.past B, B⟩
set_option maxRecDepth 100000 in
theorem row_any (w : World) (l : List UInt8) (co : Option Addr) (cn cc : Nat) (key : Int) (only : Bool) (ro : Option Addr) (rn rc : Nat) (B : Nat) (rs : List (List V)) (h : IsRR EV w B ro rn rc rs) (m : Nat) (r : List V) (hr : rs[m]? = some r) (h0 : 0 < r.length) (hl : r.length ≤ 1000) (tk : Bool) :
    Calls Try.prog 86 #[spV l co cn cc key only ro rn rc (m : Nat) tk] w fun e w' => ∃ g c, e = .returned (.slice (some ⟨g, 0, none⟩) r.length c) ∧ OwnR EV w' 55 g r.length c r ∧ Below w.heap.size w w' ∧ w.heap.size ≤ g := by
  have B1 : Below w.heap.size w (w.alloc (.cells #[.string (bsOf l), .slice co cn cc, .int .i64 key, .bool only, .slice ro rn rc, .int .i64 (m : Nat), .bool tk] 161)) := (Below.refl _ _).alloc (Nat.le_refl _) _
  have hm := (List.getElem?_eq_some_iff.1 hr).1
  have hln := h.len
  obtain ⟨b, off, x, rfl, hb, hc, hx⟩ := h.at hr
  rw [← B1.cell hb] at hc
  have hmi : (m : Int) < (rn : Int) := by omega
  obtain ⟨xa, xn, xc⟩ := x
  simp only at hc hx
  obtain rfl : r.length = xn := hx.len
  have HC := clone_v _ xa r.length xc r (hx.past B1) h0 (by omega)
  unfold spV
  go_enter Try.func86, Try.ntmps86
  go_wp2_with (go_at_call 139; refine HC.mono ?_; rintro e w1 ⟨g, c, rfl, o1, b1, q1⟩)
  go_ret
  exact ⟨g, c, rfl, o1, B1.trans (b1.mono B1.size), Nat.le_trans B1.size q1⟩
end Go.Proofs.Ytllijeciodmckaa
