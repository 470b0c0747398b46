/-
  Pages: one is read, written, in whole or in part.
-/
import Derived.Test.YtpfhggalbdjjmaaDAsk
import Derived.Test.YtpfhggalbdjjmaaAt
namespace Go.Proofs.Ytpfhggalbdjjmaa
open Go.RowKit

theorem sizePg : (Try.prog.info? 74).map (·.size) = some 64 := by kernel_rfl
theorem sizeU8 : (Try.prog.info? 5).map (·.size) = some 1 := by kernel_rfl
/-- The page x with q from a on. -/
def mix (x : List UInt8) (a : Nat) (q : List UInt8) : List UInt8 := (pad x).take a ++ q ++ (pad x).drop (a + q.length)
theorem mix_length {x q : List UInt8} {a : Nat} (h : a + q.length ≤ 64) : (mix x a q).length = 64 := by
  have := pad_length x
  simp [mix]
  omega
theorem mix_all {x q : List UInt8} (h : q.length = 64) : mix x 0 q = q := by
  have := pad_length x
  simp [mix, h, List.drop_of_length_le (show (pad x).length ≤ 64 by omega)]
section
variable {w w' : World} {e : TypeId} {g n c : Nat} {l : List (List UInt8)}
theorem OwnR.all_of (h : OwnR encPg w e g n c l) : ∃ (cur : Array Value) (tail : List Value), w.heap[g]? = some (.cells cur e (0, 0)) ∧ cur.toList = encPg.all l ++ tail ∧ cur.size = c * 64 ∧ n * 64 ≤ cur.size := by
  obtain ⟨cur, hg, hs, ht⟩ := h.row
  have hle := h.le
  have hs' : cur.size = c * 64 := hs
  refine ⟨cur, cur.toList.drop (n * 64), hg, ?_, hs, by omega⟩
  rw [← ht]
  exact (List.take_append_drop _ _).symm
theorem OwnR.at_pg (h : OwnR encPg w e g n c l) (p : Nat) (hp : p < n) : AtA w ⟨g, p * 64, none⟩ (pad (l.getD p [])) := fun j u hu => by
  have hl := h.len
  have hj : j < 64 := by have := (List.getElem?_eq_some_iff.1 hu).1; rwa [pad_length] at this
  rw [Addr.add_lit]
  refine h.cell _ _ ?_
  have hx : l[p]? = some (l.getD p []) := by simp [List.getD, show p < l.length by omega]
  refine (Enc.all_get encPg l p j _ hx hj).trans ?_
  show (bcs (pad (l.getD p [])))[j]? = _
  rw [bcs_get, hu]
  rfl
theorem OwnR.isB_pg (h : OwnR encPg w e g n c l) (p a : Nat) (hp : p < n) (ha : a ≤ 64) : IsB w (some ⟨g, p * 64 + a, none⟩) (64 - a) (64 - a) ((pad (l.getD p [])).drop a) :=
  ⟨by rw [List.length_drop, pad_length], Nat.le_refl _, by unfold maxLen; omega, (fun h => by cases h), fun ad e j u hu => by
    obtain rfl := Option.some.inj e
    rw [List.getElem?_drop] at hu
    have := h.at_pg p hp (a + j) u hu
    rw [Addr.add_lit] at this
    rw [Addr.add_lit, Nat.add_assoc]
    exact this⟩
theorem OwnR.spliced (h : OwnR encPg w e g n c l) (p a k : Nat) (q : List UInt8) (cur : Array Value) (hp : p < n) (hq : q.length = k) (ha : a + k ≤ 64) (hg : w.heap[g]? = some (.cells cur e (0, 0)))
    (hw : w'.heap[g]? = some (.cells (cur.toList.take (p * 64 + a) ++ bcs q ++ cur.toList.drop (p * 64 + a + k)).toArray e (0, 0))) : OwnR encPg w' e g n c (l.set p (mix (l.getD p []) a q)) := by
  obtain ⟨cur', tail, hg', hc, hs, hn64⟩ := h.all_of
  rw [hg] at hg'
  obtain rfl : cur = cur' := by simpa using hg'
  have hl := h.len
  have hx : l[p]? = some (l.getD p []) := by simp [List.getD, show p < l.length by omega]
  have hcells : (cur.toList.take (p * 64 + a) ++ bcs q ++ cur.toList.drop (p * 64 + a + k)) = encPg.all (l.set p (mix (l.getD p []) a q)) ++ tail := by
    have hm : encPg.f (mix (l.getD p []) a q) = (encPg.f (l.getD p [])).take a ++ bcs q ++ (encPg.f (l.getD p [])).drop (a + k) := by
      show bcs (pad (mix _ a q)) = (bcs (pad _)).take a ++ bcs q ++ (bcs (pad _)).drop (a + k)
      rw [pad_of (mix_length (by omega)), mix, bcs_append, bcs_append, bcs_take, hq]
      simp [bcs]
    have hall : encPg.all l ++ tail = encPg.all (l.take p) ++ (encPg.f (l.getD p []) ++ (encPg.all (l.drop (p + 1)) ++ tail)) := by
      have h0 : encPg.all l = encPg.all (l.take p) ++ (encPg.f (l.getD p []) ++ encPg.all (l.drop (p + 1))) := by
        rw [← Enc.all_cons, ← Enc.all_append]
        congr 1
        have : l.drop p = l.getD p [] :: l.drop (p + 1) := by
          rw [List.drop_eq_getElem_cons (by omega)]
          simp [List.getD, show p < l.length by omega]
        rw [← this, List.take_append_drop]
      rw [h0]
      simp [List.append_assoc]
    have hset : encPg.all (l.set p (mix (l.getD p []) a q)) ++ tail = encPg.all (l.take p) ++ (encPg.f (mix (l.getD p []) a q) ++ (encPg.all (l.drop (p + 1)) ++ tail)) := by
      rw [List.set_eq_take_append_cons_drop, if_pos (by omega), Enc.all_append, Enc.all_cons]
      simp [List.append_assoc]
    have h1 : (encPg.all (l.take p)).length = p * 64 := by
      rw [Enc.all_length, List.length_take, Nat.min_eq_left (by omega)]
      rfl
    have h2 : (encPg.f (l.getD p [])).length = 64 := encPg.len _
    rw [hc, hset, hm, hall]
    generalize encPg.all (l.drop (p + 1)) ++ tail = R
    have e1 : (encPg.all (l.take p) ++ (encPg.f (l.getD p []) ++ R)).take (p * 64 + a) = encPg.all (l.take p) ++ (encPg.f (l.getD p [])).take a := by
      rw [← h1, List.take_length_add_append, List.take_append_of_le_length (by omega)]
    have e2 : (encPg.all (l.take p) ++ (encPg.f (l.getD p []) ++ R)).drop (p * 64 + a + k) = (encPg.f (l.getD p [])).drop (a + k) ++ R := by
      rw [Nat.add_assoc, ← h1, List.drop_length_add_append, List.drop_append_of_le_length (by omega)]
    rw [e1, e2]
    simp [List.append_assoc]
  have hal : (encPg.all (l.set p (mix (l.getD p []) a q))).length = n * 64 := by rw [Enc.all_length, List.length_set, hl]; rfl
  have htl : n * 64 + tail.length = cur.size := by
    have := congrArg List.length hc
    rw [List.length_append, Enc.all_length, hl, Array.length_toList] at this
    exact this.symm
  refine ⟨by simp [hl], h.le, h.max, _, hw, ?_, ?_⟩
  · rw [hcells, List.size_toArray, List.length_append, hal, htl, hs]
    rfl
  · rw [hcells]
    show List.take (n * 64) (encPg.all _ ++ tail) = _
    exact List.take_left' hal
/-- copy into a page. -/
theorem wp_copy_pg {o : Oper} {a : Act} {K : Act → World → Prop} {Q : Exit → Act → World → Prop} (d s : Operand) (ho : o.op = .call { callee := .builtin .copy, args := #[d, s], argTypes := #[31, 31] })
    (p i dn dc : Nat) (hO : OwnR encPg w e g n c l) (hd : a.eval d = .slice (some ⟨g, p * 64 + i, none⟩) dn dc) (hp : p < n) (ao : Option Addr) (m mc : Nat) (b : List UInt8) (hs : a.eval s = .slice ao m mc) (hb : IsB w ao m mc b)
    (k : Nat) (hk : k = min m dn) (hi : i + k ≤ 64) (h : ∀ w', OwnR encPg w' e g n c (l.set p (mix (l.getD p []) i (b.take k))) → w.grownBy w' (some g) → K (a.put o.dst (.int .i64 k)) w') : o.wp Try.prog a w K Q := by
  obtain ⟨cur, tail, hg, hc, hsz, hn64⟩ := hO.all_of
  have hbl := hb.len
  refine wp_copy_at d s _ _ ho 5 byteTy.ht sizeU8 g (p * 64 + i) dn dc hd cur e hg ao m mc b hs hb k hk (by omega) fun w' h1 h2 => h w' (hO.spliced p i k _ cur hp (by rw [List.length_take]; omega) hi hg h1) h2
theorem wpList_copy_pg {ops : Array Oper} {rest : List Oper} {o : Oper} {a : Act} {Q : Exit → Act → World → Prop} (hgd : o.guard = none) (d s : Operand) (ho : o.op = .call { callee := .builtin .copy, args := #[d, s], argTypes := #[31, 31] })
    (p i dn dc : Nat) (hO : OwnR encPg w e g n c l) (hd : a.eval d = .slice (some ⟨g, p * 64 + i, none⟩) dn dc) (hp : p < n) (ao : Option Addr) (m mc : Nat) (b : List UInt8) (hs : a.eval s = .slice ao m mc) (hb : IsB w ao m mc b)
    (k : Nat) (hk : k = min m dn) (hi : i + k ≤ 64) (h : ∀ w', OwnR encPg w' e g n c (l.set p (mix (l.getD p []) i (b.take k))) → w.grownBy w' (some g) → wpList Try.prog ops Q rest (a.put o.dst (.int .i64 k)) w') : wpList Try.prog ops Q (o :: rest) a w :=
  wpList_plain hgd fun _ hK => wp_copy_pg d s ho p i dn dc hO hd hp ao m mc b hs hb k hk hi fun w' h1 h2 => hK _ _ (h w' h1 h2)
/-- A whole page is stored. -/
theorem wp_store_pg {o : Oper} {a : Act} {K : Act → World → Prop} {Q : Exit → Act → World → Prop} (x y : Operand) (ho : o.op = .store 73 x y ∨ o.op = .store 74 x y)
    (p : Nat) (hO : OwnR encPg w e g n c l) (hx : a.eval x = .pointer (some ⟨g, p * 64, none⟩)) (hp : p < n) (b : List UInt8) (hy : a.eval y = .agg (bcs b).toArray) (hb : b.length = 64)
    (h : ∀ w', OwnR encPg w' e g n c (l.set p b) → w.grownBy w' (some g) → K (a.put o.dst undef) w') : o.wp Try.prog a w K Q := by
  obtain ⟨cur, tail, hg, hc, hsz, hn64⟩ := hO.all_of
  have fin : ∀ w', w'.heap[g]? = some (.cells (cur.toList.take (p * 64) ++ bcs b ++ cur.toList.drop (p * 64 + 64)).toArray e (0, 0)) → w.grownBy w' (some g) → K (a.put o.dst undef) w' := fun w' h1 h2 => by
    have := hO.spliced p 0 64 b cur hp hb (by omega) hg h1
    rw [mix_all hb] at this
    exact h w' this h2
  have e64 : (Try.prog.info? 73).map (·.size) = some 64 := by kernel_rfl
  rcases ho with ho | ho
  · exact wp_store_in _ x y ho g (p * 64) (bcs b) cur.toList e hx hy (by simpa using hg) 64 e64 (by rw [bcs_length, hb]) (by rw [Array.length_toList, hsz]; omega) (by simpa using bcs_one b) fin
  · exact wp_store_in _ x y ho g (p * 64) (bcs b) cur.toList e hx hy (by simpa using hg) 64 sizePg (by rw [bcs_length, hb]) (by rw [Array.length_toList, hsz]; omega) (by simpa using bcs_one b) fin
theorem wpList_store_pg {ops : Array Oper} {rest : List Oper} {o : Oper} {a : Act} {Q : Exit → Act → World → Prop} (hgd : o.guard = none) (x y : Operand) (ho : o.op = .store 73 x y ∨ o.op = .store 74 x y)
    (p : Nat) (hO : OwnR encPg w e g n c l) (hx : a.eval x = .pointer (some ⟨g, p * 64, none⟩)) (hp : p < n) (b : List UInt8) (hy : a.eval y = .agg (bcs b).toArray) (hb : b.length = 64)
    (h : ∀ w', OwnR encPg w' e g n c (l.set p b) → w.grownBy w' (some g) → wpList Try.prog ops Q rest (a.put o.dst undef) w') : wpList Try.prog ops Q (o :: rest) a w :=
  wpList_plain hgd fun _ hK => wp_store_pg x y ho p hO hx hp b hy hb fun w' h1 h2 => hK _ _ (h w' h1 h2)
end
end Go.Proofs.Ytpfhggalbdjjmaa
