/-
  What package row reads: several values.
-/
import Derived.Test.YtpphlmbhonaglaaRowP
namespace Go.Proofs.Ytpphlmbhonaglaa
open Go.RowKit

/-- What is left, and the error, behind so many values; the values. -/
def rLs : Nat → List UInt8 → Int → List UInt8
  | 0, l, _ => l
  | n + 1, l, e => rLs n (rL l e) (rE l e)
def rEs : Nat → List UInt8 → Int → Int
  | 0, _, e => e
  | n + 1, l, e => rEs n (rL l e) (rE l e)
def rVs : Nat → List UInt8 → Int → List V
  | 0, _, _ => []
  | n + 1, l, e => rV l e :: rVs n (rL l e) (rE l e)
theorem rLs_snoc : ∀ (n : Nat) (l : List UInt8) (e : Int), rLs (n + 1) l e = rL (rLs n l e) (rEs n l e)
  | 0, _, _ => rfl
  | n + 1, l, e => by rw [rLs, rLs_snoc n, rLs, rEs]
theorem rEs_snoc : ∀ (n : Nat) (l : List UInt8) (e : Int), rEs (n + 1) l e = rE (rLs n l e) (rEs n l e)
  | 0, _, _ => rfl
  | n + 1, l, e => by rw [rEs, rEs_snoc n, rLs, rEs]
theorem rVs_snoc : ∀ (n : Nat) (l : List UInt8) (e : Int), rVs (n + 1) l e = rVs n l e ++ [rV (rLs n l e) (rEs n l e)]
  | 0, _, _ => rfl
  | n + 1, l, e => by rw [rVs, rVs_snoc n, rVs, rLs, rEs]; rfl
theorem rVs_length : ∀ (n : Nat) (l : List UInt8) (e : Int), (rVs n l e).length = n
  | 0, _, _ => rfl
  | n + 1, l, e => by rw [rVs, List.length_cons, rVs_length n]
theorem set3 {α : Type} (L : List α) (a : Nat) (x y z : α) (h : a + 3 ≤ L.length) : ((L.set a x).set (a + 1) y).set (a + 2) z = L.take a ++ [x, y, z] ++ L.drop (a + 3) := by
  apply List.ext_getElem?
  intro i
  by_cases h1 : i < a
  · rw [List.getElem?_set_ne (by omega), List.getElem?_set_ne (by omega), List.getElem?_set_ne (by omega), List.getElem?_append_left (by simp; omega), List.getElem?_append_left (by simp; omega), List.getElem?_take_of_lt h1]
  · by_cases h2 : a + 3 ≤ i
    · rw [List.getElem?_set_ne (by omega), List.getElem?_set_ne (by omega), List.getElem?_set_ne (by omega), List.getElem?_append_right (by simp; omega), List.getElem?_drop]
      congr 1
      simp
      omega
    · rw [List.getElem?_append_left (by simp; omega), List.getElem?_append_right (by simp; omega), List.length_take, Nat.min_eq_left (by omega)]
      have h3 : i = a ∨ i = a + 1 ∨ i = a + 2 := by omega
      rcases h3 with rfl | rfl | rfl
      · rw [List.getElem?_set_ne (by omega), List.getElem?_set_ne (by omega), List.getElem?_set_self (by omega)]
        simp
      · rw [List.getElem?_set_ne (by omega), List.getElem?_set_self (by simp; omega)]
        simp
      · rw [List.getElem?_set_self (by simp; omega)]
        simp
/-- A value stored at place i of a row of the call's own. -/
theorem own_set_v {w : World} {t : TypeId} {g n cap : Nat} {l : List V} (h : OwnR EV w t g n cap l) (i : Nat) (hi : i < n) (v : V) :
    OwnR EV (((w.setCell ⟨g, i * 3, none⟩ (.int .i64 v.k)).setCell ⟨g, i * 3 + 1, none⟩ (.int .i64 v.n)).setCell ⟨g, i * 3 + 2, none⟩ (.string v.s)) t g n cap (l.set i v) := by
  obtain ⟨cur, hg, hs, ht⟩ := h.row
  have hle := h.le
  have hln := h.len
  have hz : EV.sz = 3 := rfl
  have h1 := heap_setCell_same (i := i * 3) (v := .int .i64 v.k) hg
  have h2 := heap_setCell_same (i := i * 3 + 1) (v := .int .i64 v.n) h1
  have h3 := heap_setCell_same (i := i * 3 + 2) (v := .string v.s) h2
  refine ⟨by rw [List.length_set, hln], hle, h.max, _, h3, by simpa using hs, ?_⟩
  have hcl : cur.toList.length = cap * 3 := by rw [Array.length_toList, hs]; rfl
  simp only [Array.toList_setIfInBounds]
  rw [set3 _ _ _ _ _ (by rw [hcl]; omega), EV.all_set l i v (by omega), ← ht, hz]
  have e1 : (i + 1) * 3 = i * 3 + 3 := by omega
  rw [e1, List.take_take, Nat.min_eq_left (by omega), List.append_assoc, List.append_assoc, List.take_append, List.take_take, Nat.min_eq_right (by omega)]
  congr 1
  rw [List.length_take, Nat.min_eq_left (by omega), List.take_append, List.drop_take]
  congr 1
  · exact List.take_of_length_le (by simp; omega)
/-- The three cells at place i of a row of the call's own: they are there and may be written. -/
theorem own_cells_v {w : World} {t : TypeId} {g n cap : Nat} {l : List V} (h : OwnR EV w t g n cap l) (i : Nat) (hi : i < n) :
    ∃ a b c, w.cell? ⟨g, i * 3, none⟩ = some a ∧ w.cell? ⟨g, i * 3 + 1, none⟩ = some b ∧ w.cell? ⟨g, i * 3 + 2, none⟩ = some c ∧ w.frozen? ⟨g, i * 3, none⟩ = false ∧ w.frozen? ⟨g, i * 3 + 1, none⟩ = false ∧ w.frozen? ⟨g, i * 3 + 2, none⟩ = false := by
  obtain ⟨cur, hg, hs, ht⟩ := h.row
  have hle := h.le
  have hz : EV.sz = 3 := rfl
  rw [hz] at hs
  exact ⟨cur[i * 3]'(by omega), cur[i * 3 + 1]'(by omega), cur[i * 3 + 2]'(by omega), cell_blk hg (Array.getElem?_eq_getElem _), cell_blk hg (Array.getElem?_eq_getElem _), cell_blk hg (Array.getElem?_eq_getElem _), free_blk hg, free_blk hg, free_blk hg⟩
theorem fill_step (l : List V) (v : V) (n j : Nat) (hl : l.length = j) (hj : j < n) : (l ++ List.replicate (n - j) V0).set j v = (l ++ [v]) ++ List.replicate (n - (j + 1)) V0 := by
  subst hl
  rw [List.set_append_right _ _ (Nat.le_refl _), Nat.sub_self, show n - l.length = n - (l.length + 1) + 1 by omega, List.replicate_succ, List.set_cons_zero, List.append_assoc]
  rfl
/-- A row of values is answered; reader g holds the bytes l and the error e; no other block that was there has changed. -/
def SaidR (w : World) (g : Nat) (D : Option Nat) (n : Nat) (vs : List V) (l : List UInt8) (e : Int) (en : Ending) (w' : World) : Prop :=
  ∃ g', en = .returned (.slice (some ⟨g', 0, none⟩) n n) ∧ OwnR EV w' 39 g' n n vs ∧ Rd w' g D l e ∧ w.grownBy w' (some g) ∧ w.heap.size ≤ g'
set_option maxRecDepth 100000 in
set_option maxHeartbeats 1000000 in
theorem several_any (g : Nat) (D : Option Nat) (n : Nat) (N : Int) (hN : N = (n : Int)) (hn : n ≤ 300) (l : List UInt8) (e : Int) (w : World) (h : Rd w g D l e) (hD : ∀ b, D = some b → b < w.heap.size) :
    Calls Try.prog 31 #[.int .i64 N, .func (.func 33) #[.agg #[.pointer (some ⟨g, 0, none⟩)]] #[]] w (SaidR w g D n (rVs n l e) (rLs n l e) (rEs n l e)) := by
  have hg := h.lt
  go_enter Try.func31, Try.ntmps31
  go_wp2_with (at_make; refine wpList_make_or rfl _ _ 22 rfl 39 rowTyV .i64 .i64 _ _ n rfl rfl hN hN (by omega) ?_; intro w1 o1 b1)
  go_loopw [11] (fun i wr => ∃ j : Nat, j ≤ n ∧ i = .int .i64 (j : Nat) ∧ OwnR EV wr 39 w.heap.size n n (rVs j l e ++ List.replicate (n - j) V0) ∧ Rd wr g D (rLs j l e) (rEs j l e) ∧ w.grownBy wr (some g)) (fun i _ => n - (intOf i).toNat)
  case atStart => exact ⟨0, by omega, rfl, o1, h.below b1, below_grown _ b1⟩
  case round =>
    obtain ⟨j, hj, rfl, ho, hr, hG⟩ := hrel
    clear o1 b1
    by_cases hlt : j < n
    · have HV := value_any g D _ _ wr hr (fun b hb => Nat.lt_of_lt_of_le (hD b hb) hG.size)
      have HL := Lib.hid (rLs_snoc j l e)
      have HE := Lib.hid (rEs_snoc j l e)
      have HS := Lib.hid (rVs_snoc j l e)
      have HN := rVs_length j l e
      generalize rV (rLs j l e) (rEs j l e) = v at HV HS
      generalize rL (rLs j l e) (rEs j l e) = l2 at HV HL
      generalize rE (rLs j l e) (rEs j l e) = e2 at HV HE
      have ne : some w.heap.size ≠ some g := fun q => by have := Option.some.inj q; omega
      obtain ⟨k, m, s⟩ := v
      have HV' := Lib.hid HV
      clear HV
      go_wp2_with (go_at_call 33; (with_reducible refine HV'.out.mono ?_); rintro en w2 ⟨he, R2, k2⟩; obtain rfl : en = .returned (vv k m s) := he; have o2 := ho.grown k2 ne; obtain ⟨a0, a1, a2, c0, c1, c2, f0, f1, f2⟩ := own_cells_v o2 j hlt)
      go_roundw
      case rel =>
        refine ⟨j + 1, by omega, by go_num, ?_, ?_, ?_⟩
        · rw [HS.out, ← fill_step _ _ n j HN hlt]
          exact own_set_v o2 j hlt ⟨k, m, s⟩
        · rw [HL.out, HE.out]
          exact R2.low hg hD ((((Below.refl _ _).setCell (p := ⟨w.heap.size, j * 3, none⟩) (Nat.le_refl _) _).setCell (p := ⟨w.heap.size, j * 3 + 1, none⟩) (Nat.le_refl _) _).setCell (p := ⟨w.heap.size, j * 3 + 2, none⟩) (Nat.le_refl _) _)
        · exact grown_low (grown_trans hG k2) ((((Below.refl _ _).setCell (p := ⟨w.heap.size, j * 3, none⟩) (Nat.le_refl _) _).setCell (p := ⟨w.heap.size, j * 3 + 1, none⟩) (Nat.le_refl _) _).setCell (p := ⟨w.heap.size, j * 3 + 2, none⟩) (Nat.le_refl _) _)
      case measure => simp [intOf]; omega
    · go_wp2_with fail
      go_ret
      obtain rfl : j = n := by omega
      rw [Nat.sub_self, List.replicate_zero, List.append_nil] at ho
      exact ⟨_, rfl, ho, hr, hG, Nat.le_refl _⟩
end Go.Proofs.Ytpphlmbhonaglaa
