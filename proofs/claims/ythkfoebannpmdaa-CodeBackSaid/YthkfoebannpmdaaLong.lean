/-
  CodeLong, walked.
-/
import Derived.Test.YthkfoebannpmdaaRead
namespace Go.Proofs.Ythkfoebannpmdaa
open Go.RowKit

/-- 'make([]byte, N)'. -/
theorem wpList_full_ob {P : Program} {w : World} {ops : Array Oper} {rest : List Oper} {o : Oper} {a : Act} {Q : Exit → Act → World → Prop} (hgd : o.guard = none) (l c : Operand) (t : TypeId)
    (ho : o.op = Op.makeSlice t l c) (e : TypeId) (hB : ByteTy P t e) (kl kc : IntKind) (L C : Int) (N : Nat) (hl : a.eval l = .int kl L) (hc : a.eval c = .int kc C) (hL : L = (N : Int)) (hC : C = (N : Int)) (hN : N ≤ 70368744177664)
    (hK : ∀ w', OwnB w' e w.heap.size N N (List.replicate N 0) → Below w.heap.size w w' → wpList P ops Q rest (a.put o.dst (.slice (some ⟨w.heap.size, 0, none⟩) N N)) w') :
    wpList P ops Q (o :: rest) a w := by
  obtain ⟨i, hi, hz, hsize, hby⟩ := hB.info
  refine wpList_make_full w hgd l c t ho w.heap.size e i (.int .u8 0) 1 hB.ht hi hz hsize kl kc L C N hl hc hL hC (by rw [hby]; omega) (by simp only [maxLen]; omega) (Nat.le_refl _) fun w' hown hgr => ?_
  refine hK w' ?_ ((Below.refl _ w).grown hgr (Nat.le_refl _) (fun k h => by cases h))
  rw [Nat.mul_one] at hown
  have hz2 : (madeCells (Value.int .u8 0).cells N).toList = bcs (List.replicate N 0) := by
    rw [show (Value.int IntKind.u8 0).cells = #[Value.int .u8 0] from rfl, toList_madeCells_one]
    simp [bcs, bc]
  rw [hz2] at hown
  rcases hown.2 with ⟨h, _⟩ | ⟨g, cap, cur, hv, _, hg, hnc, hcm, hcs, htake⟩
  · cases h
  · simp only [Value.slice.injEq, Option.some.injEq, Addr.mk.injEq, and_true] at hv
    obtain ⟨rfl, _, rfl⟩ := hv
    exact ⟨by simp, Nat.le_refl _, hcm, cur, hg, by rw [hcs, Nat.mul_one], by rw [← htake, Nat.mul_one]⟩

theorem bcs_set (l : List UInt8) (j : Nat) (u : UInt8) : bcs (l.set j u) = (bcs l).set j (bc u) := by simp [bcs, List.map_set]
/-- A store into a row of the call's own. -/
theorem own_stored {w : World} {e : TypeId} {g n cap : Nat} {l : List UInt8} (h : OwnB w e g n cap l) (j : Nat) (u : UInt8) : OwnB (w.setCell ⟨g, j, none⟩ (bc u)) e g n cap (l.set j u) := by
  obtain ⟨cur, hg, hs, ht⟩ := h.row
  refine ⟨by rw [List.length_set]; exact h.len, h.le, h.max, cur.setIfInBounds j (bc u), ?_, by simp [hs], ?_⟩
  · rw [setCell_eq_setRow w g j cur e (0, 0) _ hg]
    exact setRow_heap w g cur _ e _ hg
  · rw [bcs_set, ← ht, Array.toList_setIfInBounds, List.take_set]

theorem bc_hi (k : Nat) (h : k ≤ 65535) : bc (UInt8.ofNat (k / 256 % 256)) = Value.int .u8 ((k : Int) / 256) := by
  rw [← bc_mod]
  simp only [Value.int.injEq, true_and]
  omega
theorem str_at (T : List UInt8) (u : UInt8) (h : T[0]? = some u) : ∀ (hh : 0 < (⟨T.toArray⟩ : ByteArray).size), (⟨T.toArray⟩ : ByteArray)[0]'hh = u := by
  intro hh
  obtain ⟨h1, h2⟩ := List.getElem?_eq_some_iff.1 h
  show T.toArray[0]'_ = u
  simpa using h2
theorem free_cell {w : World} {e : TypeId} {g n cap : Nat} {l : List UInt8} (h : OwnB w e g n cap l) (hn : 0 < n) : (∃ v, w.cell? ⟨g, 0, none⟩ = some v) ∧ w.frozen? ⟨g, 0, none⟩ = false := by
  have hl := h.len
  obtain ⟨cur, hg, _⟩ := h.row
  have h0 : 0 < l.length := by omega
  exact ⟨⟨_, h.cell 0 l[0] (List.getElem?_eq_getElem h0)⟩, by simp [World.frozen?, hg]⟩
/-- The text of the bytes L, of which T are kept. -/
theorem text_kept (L T : List UInt8) (k : Nat) (hT : L.take 65535 = T) (hk : T.length = k) (w : World) :
    Calls Try.prog 16 #[.slice none 0 0, .string ⟨L.toArray⟩] w (Fresh w (2 + k) (le 2 k ++ T)) := by
  have h := text_nil ⟨L.toArray⟩ w
  have e : tx (⟨L.toArray⟩ : ByteArray).data.toList = le 2 k ++ T := by
    show tx L = _
    unfold tx
    rw [hT, hk]
  rw [e, List.length_append, le_length, hk] at h
  exact h

theorem num_le : ∀ k x, num (le k x) = x % 256 ^ k
  | 0, x => by simp [le, num]; omega
  | k + 1, x => by
    have e : 256 ^ (k + 1) = 256 * 256 ^ k := by rw [Nat.pow_succ, Nat.mul_comm]
    rw [le, num, num_le k (x / 256), UInt8.toNat_ofNat', e, Nat.mod_mul]
    omega

/-- A text that lies there whole. -/
theorem rText_whole (g : Nat) (D : Option Nat) (k : Nat) (T r : List UInt8) (hk : T.length = k) (hb : k < 65536) (w : World) (h : Rd w g D (le 2 k ++ (T ++ r)) 0) :
    Calls Try.prog 25 #[.pointer (some ⟨g, 0, none⟩)] w (SaidT w g D T r 0) := by
  have := rText_any g D _ 0 w h
  have hl := le_length 2 k
  have e1 : tk 2 (le 2 k ++ (T ++ r)) = le 2 k := by rw [tk, if_pos (by rw [List.length_append]; omega), List.take_append_of_le_length (by omega), List.take_of_length_le (by omega)]
  have e2 : dr 2 (le 2 k ++ (T ++ r)) = T ++ r := by rw [dr, if_pos (by rw [List.length_append]; omega)]; exact List.drop_left' hl
  have e3 : er 2 (le 2 k ++ (T ++ r)) 0 = 0 := by rw [er, if_pos (by rw [List.length_append]; omega)]
  have e4 : num (le 2 k) = k := by rw [num_le]; omega
  have hin : k ≤ (T ++ r).length := by rw [List.length_append]; omega
  have e5 : (T ++ r).take k = T := List.take_left' hk
  have e6 : (T ++ r).drop k = r := List.drop_left' hk
  rw [vT, dT, eT, if_pos rfl, if_pos rfl, if_pos rfl, e1, e2, e3, e4, tk, dr, er, if_pos hin, if_pos hin, if_pos hin, e5, e6] at this
  exact this

set_option maxHeartbeats 800000 in
theorem long_walk (x : Int) (u : UInt8) (w : World) :
    Calls Try.prog 8 #[.int .i64 x, .int .u8 (u.toNat : Int)] w (Told w true) := by
  obtain ⟨N, hN, hN1, hN2⟩ : ∃ N : Nat, Hid (65533 + x % 5 = (N : Int)) ∧ 65533 ≤ N ∧ N ≤ 65537 := by
    have e1 : 0 ≤ x % 5 := Int.emod_nonneg _ (by omega)
    have e2 : x % 5 < 5 := Int.emod_lt_of_pos _ (by omega)
    exact ⟨(65533 + x % 5).toNat, by unfold Hid; omega, by omega, by omega⟩
  obtain ⟨k, hk1, hk2, hk3, hkN⟩ : ∃ k : Nat, min (65533 + x % 5) 65535 = (k : Int) ∧ k ≤ 65535 ∧ 65533 ≤ k ∧ Hid (k = min 65535 N) := ⟨min 65535 N, by have := hN.out; omega, by omega, by omega, rfl⟩
  obtain ⟨L, hL⟩ : ∃ L, Hid (L = (List.replicate N (0 : UInt8)).set 0 u) := ⟨_, rfl⟩
  obtain ⟨T, hT⟩ : ∃ T, Hid (L.take 65535 = T) := ⟨_, rfl⟩
  have hTk : Hid (T.length = k) := by unfold Hid; rw [← hT.out, hL.out, List.length_take, List.length_set, List.length_replicate, hkN.out]
  have hT0 : Hid (T[0]? = some u) := by
    unfold Hid
    rw [← hT.out, List.getElem?_take_of_lt (by omega), hL.out, List.getElem?_set_self (by simp; omega)]
  clear hkN
  go_enter Try.func8, Try.ntmps8
  go_wp2_with (first
    | (go_at_call 11; refine (known_any _).mono ?_; rintro en wA ⟨rfl, hbA⟩)
    | (go_at_call 20; (with_reducible refine (within_any x 5 _ (by omega)).mono ?_); rintro en w' ⟨rfl, rfl⟩)
    | (at_make; refine wpList_full_ob rfl _ _ 22 rfl 5 byteTy .i64 .i64 _ _ N rfl rfl hN.out hN.out (by omega) ?_; intro w1 o1 b1; have B1 := below_on hbA b1; obtain ⟨⟨v0, hv0⟩, hf0⟩ := free_cell o1 (by omega); have cv : (convert 22 9 (.slice (some ⟨wA.heap.size, 0, none⟩) N N)).run Try.prog (w1.setCell ⟨wA.heap.size, 0, none⟩ (.int .u8 (u.toNat : Int))) = .ok (.string ⟨L.toArray⟩) (w1.setCell ⟨wA.heap.size, 0, none⟩ (.int .u8 (u.toNat : Int))) := (by rw [hL.out]; exact (own_stored o1 0 u).isB.conv byteTy Try.underlying9); have B2 := B1.setCell (p := ⟨wA.heap.size, 0, none⟩) hbA.size (.int .u8 (u.toNat : Int)))
    | (go_at_call 16; (with_reducible refine (text_kept L T k hT.out hTk.out _).mono ?_); rintro en w3 ⟨g3, c3, rfl, o3, b3, q3⟩; have B3 := below_on B2 b3)
    | (go_at_call 18; (with_reducible refine (new_any (some ⟨g3, 0, none⟩) (2 + k) c3 _ w3 o3.isB (by omega)).mono ?_); rintro en w4 ⟨g, D, rfl, R4, b4, G4, F4⟩; have B4 := below_on B3 b4; have o4 := o3.below b4 o3.lt; have GG := Nat.le_trans B3.size G4)
    | (go_at_call 25; (with_reducible refine (rText_whole g D k T [] hTk.out (by omega) w4 (by rw [List.append_nil]; exact R4)).mono ?_); rintro en w5 ⟨rfl, R5, k5⟩; have B5 := below_gr B4 k5 GG; have o5 := o4.kept (k5.block g3 o4.lt (fun hh => by have := Option.some.inj hh; have := o3.lt; omega)); have x0 := o5.cell 0 _ rfl; have x1 := o5.cell 1 _ rfl; rw [← bc_mod] at x0; rw [bc_hi k hk2] at x1; have hlen : T.length = k := hTk.out; have hidx := str_at T u hT0.out)
    | (go_at_call 29; (with_reducible refine (rEnd_any g D [] 0 w5 R5).mono ?_); rintro en w' ⟨rfl, rfl⟩))
  go_ret
  exact ⟨rfl, B5⟩
end Go.Proofs.Ythkfoebannpmdaa
