/-
  Bytes of the call's own, or nil; append to them; the front of a slice of bytes.
-/
import Derived.Test.YtpfhggalbdjjmaaRow
import Derived.Test.YtpfhggalbdjjmaaCut
import Derived.Test.YtpfhggalbdjjmaaTy
import Derived.OwnWalk
namespace Go.Proofs.Ytpfhggalbdjjmaa
open Go.RowKit
set_option linter.unusedSimpArgs false

theorem elemT (w' : World) : (sizeOf (Try.prog.elem 31)).run Try.prog w' = .ok 1 w' := by kernel_rfl
theorem headB_run (b off n cap c : Nat) (w' : World) (hc : c ≤ n) (hn : n ≤ cap) : (Instr.slice 31 (.slice (some ⟨b, off, none⟩) n cap) none (some (.int .i64 c)) none).run Try.prog w' = .ok (.slice (some ⟨b, off, none⟩) c cap) w' := by
  rw [run_slice_h w' 31 (some ⟨b, off, none⟩) n cap (by kernel_rfl) .i64 (c : Int) (by omega) (by omega), elemT]
  by_cases h0 : cap = 0
  · simp [Result.andThen, sliced, h0]
  · simp [Result.andThen, sliced, h0, Addr.add]
/-- Bytes as elements. -/
def EB : Enc UInt8 := ⟨1, fun u => [bc u], fun _ => rfl, fun x u hu => by
  obtain rfl := List.mem_singleton.1 hu
  rfl⟩
theorem EB_all (l : List UInt8) : EB.all l = bcs l := by
  induction l with
  | nil => rfl
  | cons u l ih => rw [Enc.all_cons, ih]; rfl
theorem rowTyB : RowTy EB Try.prog 31 5 0 := by
  obtain ⟨i, h1, h2, h3, h4⟩ := (byteTy : ByteTy Try.prog 31 5).info
  exact ⟨byteTy.ht, i, .int .u8 0, h1, h2, h3, rfl, by omega⟩
theorem own_of_EB {w : World} {e : TypeId} {g n cap : Nat} {l : List UInt8} (h : OwnR EB w e g n cap l) : OwnB w e g n cap l := by
  obtain ⟨cur, h1, h2, h3⟩ := h.row
  have e1 : EB.sz = 1 := rfl
  rw [e1, Nat.mul_one] at h2 h3
  exact ⟨h.len, h.le, h.max, cur, h1, h2, by rw [h3, EB_all]⟩
/-- BYTES OF THE CALL's OWN, OR NIL. -/
structure Txt (w : World) (B : Nat) (ao : Option Addr) (n c : Nat) (l : List UInt8) : Prop where
  either : (ao = none ∧ n = 0 ∧ c = 0 ∧ l = []) ∨ ∃ g, ao = some ⟨g, 0, none⟩ ∧ OwnB w 5 g n c l ∧ B ≤ g
theorem Txt.nil (w : World) (B : Nat) : Txt w B none 0 0 [] := ⟨.inl ⟨rfl, rfl, rfl, rfl⟩⟩
theorem Txt.isB {w : World} {B : Nat} {ao : Option Addr} {n c : Nat} {l : List UInt8} (h : Txt w B ao n c l) : IsB w ao n c l := by
  rcases h.either with ⟨rfl, rfl, rfl, rfl⟩ | ⟨g, rfl, o, _⟩
  · exact IsB.nilB w
  · exact o.isB
theorem Txt.past {w w' : World} {B : Nat} {ao : Option Addr} {n c : Nat} {l : List UInt8} (h : Txt w B ao n c l) (b : Below w.heap.size w w') : Txt w' B ao n c l := by
  rcases h.either with h | ⟨g, rfl, o, hg⟩
  · exact ⟨.inl h⟩
  · exact ⟨.inr ⟨g, rfl, o.below b o.lt, hg⟩⟩
theorem wpList_append_txt {w : World} {ops : Array Oper} {rest : List Oper} {o : Oper} {a : Act} {Q : Exit → Act → World → Prop} (hgd : o.guard = none) (s x : Operand) (t tx : TypeId)
    (ho : o.op = .call { callee := .builtin .append, args := #[s, x], argTypes := #[t, tx] }) (htt : t = 31) (B : Nat) (ao : Option Addr) (n c : Nat) (l : List UInt8) (hsv : a.eval s = .slice ao n c) (h : Txt w B ao n c l) (hB : B ≤ w.heap.size)
    (X : Value) (hx : a.eval x = X) (m : Nat) (cs : List UInt8) (hs : Src Try.prog 1 tx X m (bcs cs) w) (hcl : cs.length = m) (hpos : 0 < m) (N : Nat) (hN : n + m = N) (L : List UInt8) (hL : l ++ cs = L) (hmax : N ≤ 1000000)
    (hK : ∀ g' c' w', OwnB w' 5 g' N c' L → Below B w w' → B ≤ g' → wpList Try.prog ops Q rest (a.put o.dst (.slice (some ⟨g', 0, none⟩) N c')) w') :
    wpList Try.prog ops Q (o :: rest) a w := by
  subst htt
  rcases h.either with ⟨rfl, rfl, rfl, rfl⟩ | ⟨g, rfl, ow, hg⟩
  · obtain rfl : m = N := by omega
    obtain rfl : cs = L := by simpa using hL
    exact wpList_append_nr hgd s x _ tx ho 5 rowTyB 0 rfl hsv X hx m cs (by rw [EB_all]; exact hs) hcl hpos hmax fun g' c' w' o' b' q' => hK g' c' w' (own_of_EB o') (b'.mono hB) (Nat.le_trans hB q')
  · exact wpList_append_ob hgd s x _ tx ho 5 byteTy g n c l hsv ow X hx m cs hs N hN L hL (by omega) fun g' c' w' o' p' q' => hK g' c' w' o' (p'.below hg hB) (by rcases q' with rfl | q'; exact hg; exact Nat.le_trans hB q')
end Go.Proofs.Ytpfhggalbdjjmaa
