/-
  append of some sums, or of none, to an empty row with no room.
-/
import Derived.Test.YtpphlmbhonaglaaDoorHs
namespace Go.Proofs.YtpphlmbhonaglaaDoor
open Go.RowKit
theorem IsH.srcH {w : World} {ao : Option Addr} {n cap : Nat} {hs : List (List UInt8)} (h : IsH w ao n cap hs) : Src Tryd.prog 32 24 (.slice ao n cap) n (bcs hs.flatten) w := by
  have hfl := flat_length hs h.all
  have hnl := h.len
  cases ao with
  | none =>
    have hc := h.nil rfl
    have hle := h.le
    obtain rfl : n = 0 := by omega
    obtain rfl : hs = [] := List.eq_nil_of_length_eq_zero h.len
    exact Src.ofNil w Tryd.underlying24 cap
  | some a =>
    refine Src.ofSlice w Tryd.underlying24 a n cap (bcs hs.flatten) (by rw [bcs_length, hfl, hnl]) (fun j u hu => ?_) (bcs_one _)
    rw [bcs_get] at hu
    obtain ⟨x', hx', rfl⟩ := Option.map_eq_some_iff.1 hu
    have hj : j < hs.flatten.length := (List.getElem?_eq_some_iff.1 hx').1
    have h2 := flat_get hs (j / 32) (j % 32) h.all (by omega) (by omega)
    rw [show j / 32 * 32 + j % 32 = j by omega, hx'] at h2
    have := h.at_ a rfl (j / 32) (by omega) (j % 32) x' h2.symm
    rw [Addr.add_add, show j / 32 * 32 + j % 32 = j by omega] at this
    exact this
theorem run_append_h0 (w : World) (ty : TypeId) (base g : Nat) (hown : OwnH w base (.slice (some ⟨g, 0, none⟩) 0 0) 0 []) (hbase : base ≤ w.heap.size) (ao : Option Addr) (m c : Nat) (ns : List (List UInt8))
    (hN : IsH w ao m c ns) (hk : m ≤ 100000) : ∃ v' w', (Builtin.append_ #[24, 24] ty #[.slice (some ⟨g, 0, none⟩) 0 0, .slice ao m c]).run Tryd.prog w = .ok v' w' ∧ OwnH w' base v' m ns ∧ Below w.heap.size w w' := by
  obtain ⟨i0, hi, hz0, hz1, hz2⟩ := info_parts info_hash
  have hs := hN.srcH
  have ht := Tryd.underlying24
  by_cases h0 : m = 0
  · subst h0
    obtain rfl : ns = [] := List.eq_nil_of_length_eq_zero hN.len
    refine ⟨.slice (some ⟨g, 0, none⟩) 0 0, w, ?_, hown, Below.refl _ _⟩
    have ht' := run_underlying (P := Tryd.prog) ht
    have hs' : Src Tryd.prog i0.size 24 (.slice ao 0 c) 0 [] w := by rw [hz1]; exact hs
    simp [Builtin.append_, ht', sizeOf, typeInfo, hi, hs'.len, hs'.cells]
    rfl
  · have hs' : Src Tryd.prog i0.size 24 (.slice ao m c) m (bcs ns.flatten) w := by rw [hz1]; exact hs
    have hfl := flat_length ns hN.all
    have hnl := hN.len
    have hr := run_append_grow_src (P := Tryd.prog) w 24 24 ty 27 i0 _ ht hi hz0 (some ⟨g, 0, none⟩) 0 0 [] (run_firstCells_some w.drew i0.size 0 ⟨g, 0, none⟩ 0 0 [] (by simp) (fun j u hu => by simp at hu)) (.slice ao m c) m (bcs ns.flatten) hs' (by omega) (by omega)
      (growslice_fits (by omega) (Nat.le_trans (Nat.mul_le_mul (show 0 + m ≤ 100000 by omega) (Nat.le_of_eq hz2)) (by omega)))
    simp only [Nat.zero_add, List.nil_append] at hr
    have hge := grownCap_ge w m 0 27
    have hcm : grownCap w m 0 27 ≤ maxLen := grownCap_le_maxLen w m 0 27 (by simp only [maxLen]; omega)
    refine ⟨_, _, hr, ⟨⟨?_, .inr ⟨w.heap.size, grownCap w m 0 27, _, rfl, hbase, heap_alloc_new w.drew _, hge, hcm, ?_, ?_⟩⟩, hnl, hN.all⟩, (Below.refl _ _).drew.alloc (Nat.le_refl _) _⟩
    · rw [bcs_length, hfl, hnl]
    · simp only [Array.size_append, List.size_toArray, size_zeroCells, bcs_length, hfl, hnl, Value.cells, List.length_replicate]
      omega
    · simp only [Array.toList_append]
      have : m * 32 = (bcs ns.flatten).length := by rw [bcs_length, hfl, hnl]
      rw [this]
      exact List.take_left
theorem wp_append_h0 {w : World} {o : Oper} {a : Act} {K : Act → World → Prop} {Q : Exit → Act → World → Prop} (s x : Operand)
    (ho : o.op = .call { callee := .builtin .append, args := #[s, x], argTypes := #[24, 24] }) (base : Nat) (hbase : base ≤ w.heap.size)
    (g : Nat) (hsv : a.eval s = .slice (some ⟨g, 0, none⟩) 0 0) (hown : OwnH w base (.slice (some ⟨g, 0, none⟩) 0 0) 0 []) (ao : Option Addr) (m c : Nat) (ns : List (List UInt8)) (hx : a.eval x = .slice ao m c)
    (hN : IsH w ao m c ns) (hk : m ≤ 100000) (h : ∀ v' w', OwnH w' base v' m ns → Below w.heap.size w w' → K (a.put o.dst v') w') : o.wp Tryd.prog a w K Q := by
  obtain ⟨v', w', hr, h1, h2⟩ := run_append_h0 w o.type base g hown hbase ao m c ns hN hk
  unfold Oper.wp execOp
  simp only [ho, resolve, invoke, builtin, Sem.run_bind, Sem.run_pure, Result.andThen_ok, List.map_toArray, List.map_cons, List.map_nil, hsv, hx, hr]
  exact h _ _ h1 h2
theorem wpList_append_h0 {w : World} {ops : Array Oper} {rest : List Oper} {o : Oper} {a : Act} {Q : Exit → Act → World → Prop} (hgd : o.guard = none) (s x : Operand)
    (ho : o.op = .call { callee := .builtin .append, args := #[s, x], argTypes := #[24, 24] }) (base : Nat) (hbase : base ≤ w.heap.size)
    (g : Nat) (hsv : a.eval s = .slice (some ⟨g, 0, none⟩) 0 0) (hown : OwnH w base (.slice (some ⟨g, 0, none⟩) 0 0) 0 []) (ao : Option Addr) (m c : Nat) (ns : List (List UInt8)) (hx : a.eval x = .slice ao m c)
    (hN : IsH w ao m c ns) (hk : m ≤ 100000) (h : ∀ v' w', OwnH w' base v' m ns → Below w.heap.size w w' → wpList Tryd.prog ops Q rest (a.put o.dst v') w') : wpList Tryd.prog ops Q (o :: rest) a w :=
  wpList_plain hgd fun _ hK => wp_append_h0 s x ho base hbase g hsv hown ao m c ns hx hN hk fun v' w' h1 h2 => hK _ _ (h v' w' h1 h2)
end Go.Proofs.YtpphlmbhonaglaaDoor
