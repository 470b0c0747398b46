/-
  Rows of whatever, of the call's own or nil; append to them in a region that draws its order.
-/
import Derived.Test.YtllijeciodmckaaRow
namespace Go.Proofs.Ytllijeciodmckaa
open Go.RowKit
/-- A ROW OF THE CALL's OWN, OR NIL. -/
structure TxtR {α : Type} (E : Enc α) (w : World) (e : TypeId) (B : Nat) (ao : Option Addr) (n c : Nat) (l : List α) : Prop where
  either : (ao = none ∧ n = 0 ∧ c = 0 ∧ l = []) ∨ ∃ g, ao = some ⟨g, 0, none⟩ ∧ OwnR E w e g n c l ∧ B ≤ g
/-- The block that a slice lies in. -/
def blk (ao : Option Addr) : Option Nat := ao.map (·.block)
section
variable {α : Type} {E : Enc α} {w w' : World} {e : TypeId} {B : Nat} {ao : Option Addr} {n c : Nat} {l : List α}
theorem TxtR.nil (w : World) (e : TypeId) (B : Nat) : TxtR E w e B none 0 0 [] := ⟨.inl ⟨rfl, rfl, rfl, rfl⟩⟩
theorem TxtR.isR (h : TxtR E w e B ao n c l) : IsR E w ao n c l := by
  rcases h.either with ⟨rfl, rfl, rfl, rfl⟩ | ⟨g, rfl, o, _⟩
  · exact IsR.nilR w
  · exact o.isR
theorem TxtR.len (h : TxtR E w e B ao n c l) : l.length = n := h.isR.len
theorem TxtR.past (h : TxtR E w e B ao n c l) (b : Below w.heap.size w w') : TxtR E w' e B ao n c l := by
  rcases h.either with h | ⟨g, rfl, o, hg⟩
  · exact ⟨.inl h⟩
  · exact ⟨.inr ⟨g, rfl, o.past b, hg⟩⟩
theorem TxtR.grown {row : Option Nat} (h : TxtR E w e B ao n c l) (b : w.grownBy w' row) (hne : ∀ z, blk ao = some z → row ≠ some z) : TxtR E w' e B ao n c l := by
  rcases h.either with h | ⟨g, rfl, o, hg⟩
  · exact ⟨.inl h⟩
  · exact ⟨.inr ⟨g, rfl, o.grown b (fun e => hne g rfl e.symm), hg⟩⟩
theorem TxtR.lt (h : TxtR E w e B ao n c l) : ∀ z, blk ao = some z → z < w.heap.size := by
  rcases h.either with ⟨rfl, _⟩ | ⟨g, rfl, o, _⟩
  · intro z hz; cases hz
  · intro z hz
    cases hz
    exact o.lt
theorem puts_grown' {g n : Nat} (h : Puts w w' g n) : w.grownBy w' (some g) := ⟨h.os, h.tape, h.output, h.size, fun k hk hne => h.block k hk (fun e => hne (by rw [e]))⟩
/-- append, in a region that draws: what has grown is the row's own block, or nothing that was there. -/
theorem wp_append_r {P : Program} {zero : α} {o : Oper} {a : Act} {K : Act → World → Prop} {Q : Exit → Act → World → Prop} (s x : Operand) (t tx : TypeId)
    (ho : o.op = .call { callee := .builtin .append, args := #[s, x], argTypes := #[t, tx] }) (hB : RowTy E P t e zero) (hsv : a.eval s = .slice ao n c) (h : TxtR E w e B ao n c l) (hBw : B ≤ w.heap.size)
    (X : Value) (hx : a.eval x = X) (m : Nat) (cs : List α) (hs : Src P E.sz tx X m (E.all cs) w) (hcl : cs.length = m) (hpos : 0 < m) (N : Nat) (hN : n + m = N) (L : List α) (hL : l ++ cs = L) (hmax : N ≤ 1000000)
    (hK : ∀ g' c' w', TxtR E w' e B (some ⟨g', 0, none⟩) N c' L → w.grownBy w' (blk ao) → (blk ao = some g' ∨ w.heap.size ≤ g') → Below B w w' → K (a.put o.dst (.slice (some ⟨g', 0, none⟩) N c')) w') : o.wp P a w K Q := by
  subst hN
  subst hL
  rcases h.either with ⟨rfl, rfl, rfl, rfl⟩ | ⟨g, rfl, ow, hg⟩
  · obtain ⟨cap', w', hr, h1, h2⟩ := run_append_nr (P := P) w t tx o.type e hB 0 rfl X m cs hs hcl hpos (by omega)
    unfold Oper.wp execOp
    simp only [ho, resolve, invoke, builtin, Sem.run_bind, Sem.run_pure, Result.andThen_ok, List.map_toArray, List.map_cons, List.map_nil, hsv, hx, hr]
    have e0 : 0 + m = m := Nat.zero_add m
    have hh := hK w.heap.size cap' w' ⟨.inr ⟨_, rfl, by rw [e0]; exact h1, hBw⟩⟩ ⟨h2.os, h2.tape, h2.output, h2.size, fun k hk _ => h2.block k hk⟩ (.inr (Nat.le_refl _)) (h2.mono hBw)
    rw [e0] at hh
    exact hh
  · obtain ⟨g', cap', w', hr, h1, h2, h3⟩ := run_append_or (P := P) w t tx o.type e hB g n c l ow X m cs hs hcl hmax
    unfold Oper.wp execOp
    simp only [ho, resolve, invoke, builtin, Sem.run_bind, Sem.run_pure, Result.andThen_ok, List.map_toArray, List.map_cons, List.map_nil, hsv, hx, hr]
    exact hK g' cap' w' ⟨.inr ⟨_, rfl, h1, by rcases h3 with rfl | h3; exact hg; exact Nat.le_trans hBw h3⟩⟩ (puts_grown' h2) (by rcases h3 with rfl | h3; exact .inl rfl; exact .inr h3) (h2.below hg hBw)
end
end Go.Proofs.Ytllijeciodmckaa
