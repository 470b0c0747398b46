/-
  The rows of locks on their way into a variable; the names of the tables.
-/
import Derived.Test.YtllijeciodmckaaLaw12
import Derived.Test.YtllijeciodmckaaHold
namespace Go.Proofs.Ytllijeciodmckaa
open Go.RowKit
theorem IsR.grown0 {α : Type} {E : Enc α} {w w' : World} {row : Option Nat} {ao : Option Addr} {n c : Nat} {l : List α} (h : IsR E w ao n c l) (hg : w.grownBy w' row) (hne : 0 < n → ∀ a, ao = some a → some a.block ≠ row) : IsR E w' ao n c l :=
  ⟨h.len, h.le, h.max, h.nil, fun a ha j u hu => by
    have hl := (List.getElem?_eq_some_iff.1 hu).1
    rw [E.all_length, h.len] at hl
    have hn : 0 < n := by
      rcases Nat.eq_zero_or_pos n with e | e
      · rw [e] at hl; omega
      · exact e
    exact hg.cell (h.cell a ha j u hu) (by rw [add_block]; exact hne hn a ha)⟩
theorem IsR.belowB {α : Type} {E : Enc α} {U w : World} {q : Nat} {ao : Option Addr} {n c : Nat} {l : List α} (h : IsR E U ao n c l) (hb : Below q U w) (hlt : 0 < n → ∀ a, ao = some a → a.block < q) : IsR E w ao n c l :=
  ⟨h.len, h.le, h.max, h.nil, fun a ha j u hu => by
    have hl := (List.getElem?_eq_some_iff.1 hu).1
    rw [E.all_length, h.len] at hl
    have hn : 0 < n := by
      rcases Nat.eq_zero_or_pos n with e | e
      · rw [e] at hl; omega
      · exact e
    have hc := h.cell a ha j u hu
    rw [hb.cell (p := a.add j) (by rw [add_block]; exact hlt hn a ha)]
    exact hc⟩
structure RdB (w : World) (B : Nat) (qo : Option Addr) (qn qc : Nat) (ro : Option Addr) (rn rc : Nat) (H W : List Hd) : Prop where
  h : IsR EHd w qo qn qc H
  w : IsR EHd w ro rn rc W
  gh : 0 < qn → ∀ a, qo = some a → B ≤ a.block
  gw : 0 < rn → ∀ a, ro = some a → B ≤ a.block
/-- None of the rows lies in block g. -/
def ApR (g : Nat) (qo : Option Addr) (qn : Nat) (ro : Option Addr) (rn : Nat) : Prop := (0 < qn → ∀ a, qo = some a → a.block ≠ g) ∧ (0 < rn → ∀ a, ro = some a → a.block ≠ g)
section
variable {w w' : World} {B : Nat} {qo : Option Addr} {qn qc : Nat} {ro : Option Addr} {rn rc : Nat} {H W : List Hd}
theorem RdB.past (h : RdB w B qo qn qc ro rn rc H W) (b : Below w.heap.size w w') : RdB w' B qo qn qc ro rn rc H W := ⟨h.h.past b, h.w.past b, h.gh, h.gw⟩
theorem RdB.mono (h : RdB w B qo qn qc ro rn rc H W) {B' : Nat} (hB : B' ≤ B) : RdB w B' qo qn qc ro rn rc H W := ⟨h.h, h.w, fun hn a ha => Nat.le_trans hB (h.gh hn a ha), fun hn a ha => Nat.le_trans hB (h.gw hn a ha)⟩
theorem RdB.far (h : RdB w B qo qn qc ro rn rc H W) {g : Nat} (hw : w.grownBy w' (some g)) (ha : ApR g qo qn ro rn) : RdB w' B qo qn qc ro rn rc H W :=
  ⟨h.h.grown0 hw fun hn a e q => ha.1 hn a e (Option.some.inj q), h.w.grown0 hw fun hn a e q => ha.2 hn a e (Option.some.inj q), h.gh, h.gw⟩
theorem RdB.ap (h : RdB w B qo qn qc ro rn rc H W) {g : Nat} (hg : g < B) : ApR g qo qn ro rn := ⟨fun hn a ha => by have := h.gh hn a ha; omega, fun hn a ha => by have := h.gw hn a ha; omega⟩
theorem IsR.ltB {α : Type} {E : Enc α} {w : World} {ao : Option Addr} {n c : Nat} {l : List α} (h : IsR E w ao n c l) (hz : 0 < E.sz) : 0 < n → ∀ a, ao = some a → a.block < w.heap.size := fun hn a ha => by
  obtain ⟨b, off, hb, hl, _⟩ := h.open hn hz
  rw [hb] at ha
  cases ha
  exact hl
theorem RdB.apNew (h : RdB w B qo qn qc ro rn rc H W) {g : Nat} (hg : w.heap.size ≤ g) : ApR g qo qn ro rn :=
  ⟨fun hn a ha => by have := h.h.ltB (by decide) hn a ha; omega, fun hn a ha => by have := h.w.ltB (by decide) hn a ha; omega⟩
theorem RdB.at (h : RdB w B qo qn qc ro rn rc H W) {p : Nat} (hb : LkB w p qo qn qc ro rn rc 96) (ha : ApR p qo qn ro rn) : LkAt w p H W := ⟨qo, qn, qc, ro, rn, rc, hb, h.h, h.w, ha.1, ha.2⟩
end
theorem LkAt.rd {w : World} {p : Nat} {H W : List Hd} (h : LkAt w p H W) : ∃ ho hn hc wo wn wc, LkB w p ho hn hc wo wn wc 96 ∧ RdB w 0 ho hn hc wo wn wc H W := by
  obtain ⟨a1, a2, a3, a4, a5, a6, h1, h2, h3, _⟩ := h
  exact ⟨a1, a2, a3, a4, a5, a6, h1, h2, h3, fun _ _ _ => Nat.zero_le _, fun _ _ _ => Nat.zero_le _⟩
theorem ask_rd (w : World) (ho : Option Addr) (hn hc : Nat) (wq : Option Addr) (wn wc : Nat) (H0 W0 H1 W1 : List Hd) (ab : Bool) (k : Hd) (h : RdB w 0 ho hn hc wq wn wc H0 W0) (e1 : askH H0 k = H1) (e2 : askW H0 W0 k = W1) (e3 : askB H0 k = ab) (l1 : H0.length ≤ 90000) (l2 : W0.length ≤ 90000) :
    Calls Try.prog 55 #[.agg #[.slice ho hn hc, .slice wq wn wc], .agg #[.int .i64 k.s, .string (bsOf k.t), .bool k.x]] w fun e w' => ∃ v', e = .returned (.tuple #[v', .bool ab]) ∧ LkF w' v' w.heap.size H1 W1 ∧ Below w.heap.size w w' := by
  subst e1 e2 e3
  exact ask_any w (lkV ho hn hc wq wn wc) H0 W0 ⟨_, _, _, _, _, _, rfl, h.h, h.w⟩ l1 l2 k
def nms7 : Array Value := #[.string ⟨#[97]⟩, .string ⟨#[98]⟩, .string ⟨#[99]⟩, .string ⟨#[100]⟩, .string ⟨#[101]⟩, .string ⟨#[102]⟩, .string ⟨#[103]⟩]
theorem nms7_get (i : Nat) (hi : i < 7) : nms7[i]? = some (.string (bsOf (nm i))) := by
  have h : i = 0 ∨ i = 1 ∨ i = 2 ∨ i = 3 ∨ i = 4 ∨ i = 5 ∨ i = 6 := by omega
  rcases h with rfl | rfl | rfl | rfl | rfl | rfl | rfl <;> rfl
def LtB (w : World) (g : Nat) : Prop := g < w.heap.size
theorem LtB.past {w w' : World} {g : Nat} (h : LtB w g) (b : Below w.heap.size w w') : LtB w' g := Nat.lt_of_lt_of_le h b.size
/-- The names' row lies in block g. -/
def NmsB (w : World) (g : Nat) : Prop := w.heap[g]? = some (.cells nms7 9 (0, 0))
theorem NmsB.lt {w : World} {g : Nat} (h : NmsB w g) : g < w.heap.size := (Array.getElem?_eq_some_iff.1 h).1
theorem NmsB.past {w w' : World} {g : Nat} (h : NmsB w g) (b : Below w.heap.size w w') : NmsB w' g := (b.block g h.lt).trans h
theorem neLk {w : World} {r g : Nat} {ho wo : Option Addr} {hn hc wn wc : Nat} {cs : Array Value} (h : LkB w r ho hn hc wo wn wc 96) (hg : w.heap[g]? = some (.cells cs 9 (0, 0))) : some g ≠ some r := fun e => by
  obtain rfl := Option.some.inj e
  unfold LkB at h
  rw [hg] at h
  injection h with h
  injection h with _ h2
  exact absurd h2 (by decide)
end Go.Proofs.Ytllijeciodmckaa
