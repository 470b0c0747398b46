/-
  (*wal.reading).split: the records that lie whole at the front of bytes (by gen_wsplit.py).
-/
import Derived.Test.YtpfhggalbdjjmaaWCut
import Derived.Deep.RegionHeld3
import Derived.Deep.CutRange
namespace Go.Proofs.Ytpfhggalbdjjmaa
open Go.RowKit

theorem cutB_lt (l : List UInt8) (h : cutOK l) : (cutB l).length < l.length := by
  unfold cutB
  have := h.1
  rw [List.length_drop, List.length_drop]
  omega
/-- The records that lie whole at the front, by so many steps; and whether they are all of it. -/
def splitF : Nat → List UInt8 → List (List UInt8) × Bool
  | 0, _ => ([], true)
  | f + 1, l => if l = [] then ([], true) else if cutOK l then (cutA l :: (splitF f (cutB l)).1, (splitF f (cutB l)).2) else ([], false)
def splitB (l : List UInt8) : List (List UInt8) × Bool := splitF l.length l
theorem splitF_more : ∀ (f : Nat) (l : List UInt8), l.length ≤ f → splitF f l = splitB l
  | 0, l, h => by
    obtain rfl : l = [] := List.eq_nil_of_length_eq_zero (by omega)
    rfl
  | f + 1, l, h => by
    unfold splitB
    by_cases h0 : l = []
    · subst h0; rfl
    · obtain ⟨k, hk⟩ : ∃ k, l.length = k + 1 := ⟨l.length - 1, by have := List.length_pos_iff.2 h0; omega⟩
      rw [hk, splitF, splitF, if_neg h0, if_neg h0]
      by_cases hc : cutOK l
      · have hlt := cutB_lt l hc
        rw [if_pos hc, if_pos hc, splitF_more f _ (by omega), splitF_more k _ (by omega)]
      · rw [if_neg hc, if_neg hc]
theorem splitB_nil : splitB [] = ([], true) := rfl
theorem splitB_no (l : List UInt8) (h0 : l ≠ []) (hc : ¬ cutOK l) : splitB l = ([], false) := by
  obtain ⟨k, hk⟩ : ∃ k, l.length = k + 1 := ⟨l.length - 1, by have := List.length_pos_iff.2 h0; omega⟩
  unfold splitB
  rw [hk, splitF, if_neg h0, if_neg hc]
theorem splitB_yes (l : List UInt8) (hc : cutOK l) : splitB l = (cutA l :: (splitB (cutB l)).1, (splitB (cutB l)).2) := by
  have h0 : l ≠ [] := by
    rintro rfl
    have := hc.1
    simp at this
  obtain ⟨k, hk⟩ : ∃ k, l.length = k + 1 := ⟨l.length - 1, by have := List.length_pos_iff.2 h0; omega⟩
  have hlt := cutB_lt l hc
  conv => lhs; unfold splitB
  rw [hk, splitF, if_neg h0, if_pos hc, splitF_more k _ (by omega)]
theorem next_plain (u y x : List (List UInt8) × Bool) (a : List UInt8) (ps : List (List UInt8)) (e : y = (a :: x.1, x.2)) (h : u.1 = ps ++ y.1 ∧ u.2 = y.2) : u.1 = (ps ++ [a]) ++ x.1 ∧ u.2 = x.2 := by
  subst e
  obtain ⟨s1, s2⟩ := h
  exact ⟨by rw [s1, List.append_assoc]; rfl, s2⟩
theorem last_plain (u y : List (List UInt8) × Bool) (ps : List (List UInt8)) (e : y = ([], false)) (h : u.1 = ps ++ y.1 ∧ u.2 = y.2) : u.1 = ps ∧ u.2 = false := by
  subst e
  obtain ⟨s1, s2⟩ := h
  exact ⟨by rw [s1, List.append_nil], s2⟩
theorem splitB_next (b l : List UInt8) (ps : List (List UInt8)) (hc : cutOK l) (h : (splitB b).1 = ps ++ (splitB l).1 ∧ (splitB b).2 = (splitB l).2) :
    (splitB b).1 = (ps ++ [cutA l]) ++ (splitB (cutB l)).1 ∧ (splitB b).2 = (splitB (cutB l)).2 := next_plain _ _ _ _ _ (splitB_yes l hc) h
theorem splitB_last (b l : List UInt8) (ps : List (List UInt8)) (h0 : l ≠ []) (hc : ¬ cutOK l) (h : (splitB b).1 = ps ++ (splitB l).1 ∧ (splitB b).2 = (splitB l).2) : (splitB b).1 = ps ∧ (splitB b).2 = false := last_plain _ _ _ (splitB_no l h0 hc) h
theorem cut_len (l : List UInt8) (hc : cutOK l) : (cutA l).length + (cutB l).length + 8 = l.length := by
  obtain ⟨h1, h2⟩ := hc
  obtain ⟨m, hm⟩ : ∃ m, cutM l = m := ⟨_, rfl⟩
  unfold cutA cutB
  rw [hm] at h2 ⊢
  simp only [List.length_take, List.length_drop]
  omega
theorem sl_inf : ∃ i z, Try.prog.info? 31 = some i ∧ i.zero = some z ∧ i.size = 1 := by
  obtain ⟨i, h1, h2, h3, _⟩ := info_parts sl_info
  exact ⟨i, _, h1, h2, h3⟩
theorem grown_past {w a b : World} {r : Nat} (h : w.grownBy a (some r)) (k : Below w.heap.size a b) : w.grownBy b (some r) :=
  ⟨k.os.trans h.os, k.tape.trans h.tape, k.output.trans h.output, Nat.le_trans h.size k.size, fun q hq hn => (k.block q hq).trans (h.block q hq hn)⟩
/-- A literal of one element in one cell. -/
theorem wp_buildSlice_cell {P : Program} {o : Oper} {a : Act} {w : World} {K : Act → World → Prop} {Q : Exit → Act → World → Prop} (t e : TypeId) (x : Operand) (ho : o.op = .buildSlice t 1 #[(0, x)]) (v : Value) (hx : a.eval x = v) (hC : v.cells = #[v])
    (hu : P.underlying t = some (.slice e)) (hi : ∃ i z, P.info? e = some i ∧ i.zero = some z ∧ i.size = 1)
    (hK : ∀ w', w'.heap[w.heap.size]? = some (.cells #[v] e (0, 0)) → Below w.heap.size w w' → w.heap.size < w'.heap.size → K (a.put o.dst (.slice (some ⟨w.heap.size, 0, none⟩) 1 1)) w') : o.wp P a w K Q := by
  obtain ⟨i, z, h1, h2, h3⟩ := hi
  have e0 : (#[(0, x)].map fun (i, x) => (i, a.eval x)).toList = ([v].zipIdx 0).map fun x => (x.2, x.1) := by
    simp [hx]
  refine wp_buildSlice t e 1 _ ho #[v] i z hu h1 h2 (by rw [h3]; omega) (by rw [h3]; omega) ?_ (hK _ (heap_alloc_new w _) ((Below.refl _ _).alloc (Nat.le_refl _) _) (by simp))
  rw [e0, h3, Great.fill_whole (by omega) _ _ (fun u hu => by
    obtain rfl := List.mem_singleton.1 hu
    simp [hC]) (by simp)]
  simp [hC]
/-- One record more is told. -/
def Mid (w wx : World) (r : Nat) (e z k : Int) (rn : Nat) (ps : List (List UInt8)) (ao : Option Addr) (n c : Nat) (l : List UInt8) : Prop :=
  ∃ ro rc, Rg wx r e z k ro rn rc ∧ Recs wx w.heap.size ro rn rc ps ∧ w.grownBy wx (some r) ∧ IsB wx ao n c l
/-- The records are told; no other block that was there has changed but the reading's. -/
def SplitIs (w : World) (r : Nat) (e z k : Int) (ps : List (List UInt8)) (en : Ending) (w' : World) : Prop :=
  ∃ ro rn rc, en = .returned (.tuple #[]) ∧ Rg w' r e z k ro rn rc ∧ Recs w' w.heap.size ro rn rc ps ∧ w.grownBy w' (some r)
/-- How long a slice is. -/
def lenOf : Value → Nat
  | .slice _ n _ => n
  | _ => 0
section
variable {w : World}
set_option linter.unusedSimpArgs false
set_option maxRecDepth 100000 in
set_option maxHeartbeats 2000000 in
theorem split_any (r : Nat) (e z k : Int) (ao : Option Addr) (n c : Nat) (b : List UInt8) (R : Rg w r e z k none 0 0) (h : IsB w ao n c b) (hn : n ≤ 1000000) (hao : ∀ a : Addr, ao = some a → a.block ≠ r ∧ a.block < w.heap.size) :
    Calls Try.prog 51 #[.pointer (some ⟨r, 0, none⟩), .slice ao n c] w (SplitIs w r (if (splitB b).2 then e else err1 e 10) z k (splitB b).1) := by
  have hrl := R.lt
  obtain ⟨E, hE⟩ : ∃ E, (if (splitB b).2 then e else err1 e 10) = E := ⟨_, rfl⟩
  rw [hE]
  have HE := Lib.hid hE
  clear hE
  obtain ⟨PS, hPS⟩ : ∃ PS, (splitB b).1 = PS := ⟨_, rfl⟩
  rw [hPS]
  have HPS := Lib.hid hPS
  clear hPS
  go_enter Try.func51, Try.ntmps51
  go_wp2_with fail
  go_loopw [1] (fun v wr => ∃ (so : Option Addr) (m sc : Nat) (l : List UInt8) (ps : List (List UInt8)) (ro : Option Addr) (rn rc : Nat), v = .slice so m sc ∧ IsB wr so m sc l ∧ (∀ a : Addr, so = some a → a.block ≠ r ∧ a.block < w.heap.size) ∧ Rg wr r e z k ro rn rc ∧ Recs wr w.heap.size ro rn rc ps ∧ Hid ((splitB b).1 = ps ++ (splitB l).1 ∧ (splitB b).2 = (splitB l).2) ∧ w.grownBy wr (some r) ∧ 8 * rn + m ≤ n) (fun v _ => lenOf v)
  case atStart => exact ⟨ao, n, c, b, [], none, 0, 0, rfl, h, hao, R, Recs.nil _ _, ⟨by simp, rfl⟩, World.grownBy.refl _ _, by omega⟩
  case round =>
    obtain ⟨so, m, sc, l, ps, ro, rn, rc, rfl, hB, hso, hR, hP, hS, hG, hm⟩ := hrel
    have hl := hB.len
    by_cases h0 : m = 0
    · subst h0
      obtain rfl : l = [] := List.eq_nil_of_length_eq_zero hl
      go_wp2_with fail
      go_end0
      obtain ⟨s1, s2⟩ := hS.out
      rw [splitB_nil] at s1 s2
      refine ⟨ro, rn, rc, rfl, ?_, ?_, hG⟩
      · rw [← HE.out, s2]; exact hR
      · rw [← HPS.out, s1]; simpa using hP
    · have hm0 : (0 : Int) < (m : Int) := by omega
      by_cases hc : cutOK l
      · have HS := Lib.hid (splitB_next b l ps hc hS.out)
        have hlt := cutB_lt l hc
        have hlA := cut_len l hc
        rw [hl] at hlA
        go_wp2_with (go_at_call 68; refine (cut_yes so m sc l _ hB (by omega) hc).mono ?_; rintro en w1 ⟨ao1, n1, c1, ao2, n2, c2, rfl, i1, i2, b1, e2⟩)
        have hR1 := hR.past b1
        have hP1 := hP.past b1
        have hG1 : w.grownBy w1 (some r) := grown_trans hG (below_grown _ b1)
        have hso2 : ∀ a : Addr, ao2 = some a → a.block ≠ r ∧ a.block < w.heap.size := fun a ha => by
          obtain ⟨a0, h1, h2⟩ := e2 a ha
          rw [h2]
          exact hso a0 h1
        have l1 := i1.len
        have l2 := i2.len
        clear hS hB hR hP hl h R hao b1 e2 hG
        have HL := Lib.hid (show 8 * (rn + 1) + n2 ≤ n ∧ n1 ≤ 1000000 ∧ n2 < m ∧ rn + 1 ≤ 1000000 by omega)
        clear l1 l2 hlA hlt hm hc
        go_upto_region 4 with fail
        go_cut [31] from 7 to 34 (fun v wx => Mid w wx r e z k (rn + 1) (ps ++ [cutA l]) ao2 n2 c2 (cutB l))
        case first =>
          refine wp_region_held_drew (S := fun _ => True) (by kernel_rfl) trivial (fun hHeld => ?_)
          refine wpAnyH_take (i := 0) (v := ?_) rfl (by kernel_rfl) (by kernel_rfl) (by kernel_rfl) (fun _ _ _ h => h) (Or.inl ⟨by rfl, ?_⟩) hHeld ?_
          rotate_left 1
          focus (intro wq hSw; go_simp; try with_reducible rfl)
          try (simp only [Act.put, List.getElem_toArray, List.getElem_cons_succ, List.getElem_cons_zero, List.setIfInBounds_toArray, List.set_cons_zero, List.set_cons_succ])
          refine wpAnyH_take (i := 1) (v := ?_) rfl (by kernel_rfl) (by kernel_rfl) (by kernel_rfl) (fun _ _ _ h => h) (Or.inl ⟨by rfl, ?_⟩) hHeld ?_
          rotate_left 1
          focus (intro wq hSw; go_simp; try with_reducible rfl)
          try (simp only [Act.put, List.getElem_toArray, List.getElem_cons_succ, List.getElem_cons_zero, List.setIfInBounds_toArray, List.set_cons_zero, List.set_cons_succ])
          refine wpAnyH_take (i := 2) (v := ?_) rfl (by kernel_rfl) (by kernel_rfl) (by kernel_rfl) (fun _ _ _ h => h) (Or.inl ⟨by rfl, ?_⟩) hHeld ?_
          rotate_left 1
          focus (intro wq hSw; go_simp; try with_reducible rfl)
          try (simp only [Act.put, List.getElem_toArray, List.getElem_cons_succ, List.getElem_cons_zero, List.setIfInBounds_toArray, List.set_cons_zero, List.set_cons_succ])
          refine wpAnyH_take (i := 3) (v := ?_) rfl (by kernel_rfl) (by kernel_rfl) (by kernel_rfl) (fun _ _ _ h => h) (Or.inl ⟨by rfl, ?_⟩) hHeld ?_
          rotate_left 1
          focus (intro wq hSw; go_simp; try with_reducible rfl)
          try (simp only [Act.put, List.getElem_toArray, List.getElem_cons_succ, List.getElem_cons_zero, List.setIfInBounds_toArray, List.set_cons_zero, List.set_cons_succ])
          refine wpAnyH_take (i := 5) (v := ?_) rfl (by kernel_rfl) (by kernel_rfl) (by kernel_rfl) (fun _ _ _ h => h) (Or.inl ⟨by rfl, ?_⟩) hHeld ?_
          rotate_left 1
          focus (intro wq hSw; go_simp; try with_reducible rfl)
          try (simp only [Act.put, List.getElem_toArray, List.getElem_cons_succ, List.getElem_cons_zero, List.setIfInBounds_toArray, List.set_cons_zero, List.set_cons_succ])
          have hR1d := hR1.drew
          have c6d := hR1d.c6
          refine wpAnyH_ready (rs := [4, 6]) (by kernel_rfl) (by simp) ?_
          refine AllReadyH.cons rfl (fun K hK => ?_) (AllReadyH.cons rfl (fun K hK => ?_) AllReadyH.nil)
          · have c6 := hR1d.c6
            go_simp
            refine hK.out _ _ trivial (fun hHeld => ?_)
            clear hK K c6
            try (simp only [Act.put, List.getElem_toArray, List.getElem_cons_succ, List.getElem_cons_zero, List.setIfInBounds_toArray, List.set_cons_zero, List.set_cons_succ])
            refine wpAnyH_ready (rs := [6]) (by kernel_rfl) (by simp) ?_
            refine AllReadyH.cons rfl (fun K hK => ?_) AllReadyH.nil
            go_simp
            go_at_call 69
            (with_reducible refine (clone_any ao1 n1 c1 _ _ (i1.drew) HL.out.2.1).mono ?_)
            rintro en w4 ⟨bo, bc', rfl, i4, b4, f4⟩
            have hR4 := hR1.drew.past b4
            refine hK.out _ _ trivial (fun hHeld => ?_)
            clear hK K
            try (simp only [Act.put, List.getElem_toArray, List.getElem_cons_succ, List.getElem_cons_zero, List.setIfInBounds_toArray, List.set_cons_zero, List.set_cons_succ])
            refine wpAnyH_ready (rs := [7]) (by kernel_rfl) (by simp) ?_
            refine AllReadyH.cons rfl (fun K hK => ?_) AllReadyH.nil
            rw [if_pos (by rfl)]
            refine wp_buildSlice_cell 22 31 _ rfl (.slice bo n1 bc') (by rfl) rfl Try.underlying22 sl_inf fun w5 hB5 b5 s5 => ?_
            have hR5 := hR4.past b5
            refine hK.out _ _ trivial (fun hHeld => ?_)
            clear hK K
            try (simp only [Act.put, List.getElem_toArray, List.getElem_cons_succ, List.getElem_cons_zero, List.setIfInBounds_toArray, List.set_cons_zero, List.set_cons_succ])
            refine wpAnyH_ready (rs := [8]) (by kernel_rfl) (by simp) ?_
            refine AllReadyH.cons rfl (fun K hK => ?_) AllReadyH.nil
            rw [if_pos (by rfl)]
            have hP5 := (hP1.past (Below.refl _ _).drew)
            have hlt1 : ∀ z, blk ro = some z → z < w1.heap.size := by
              obtain ⟨_, t, _⟩ := hP1
              exact t.lt
            obtain ⟨hs, t5, l5, p5⟩ := (hP5.past b4).past b5
            have src5 : Src Try.prog encSl.sz 22 (.slice (some ⟨w4.heap.size, 0, none⟩) 1 1) 1 (encSl.all [(bo, n1, bc')]) w5 := (OwnR.ofBlk (E := encSl) (l := [((bo, n1, bc') : Hd)]) (n := 1) hB5 (by simp [Enc.all, encSl]) rfl (by omega)).isR.src Try.underlying22
            have hsw := hG1.size
            have hs4 := b4.size
            have hs5 := b5.size
            refine wp_append_r (.tmp 27) (.tmp 30) 22 22 rfl sl_ty rfl t5 (by simp at hs4; omega) _ rfl 1 [((bo, n1, bc') : Hd)] src5 rfl (by omega) (rn + 1) rfl _ rfl HL.out.2.2.2 fun g6 c6 w6 hT6 gr6 or6 b6 => ?_
            have hbl : blk ro ≠ some r := fun q => by
              rcases t5.either with ⟨rfl, _⟩ | ⟨g0, rfl, _, hB0⟩
              · cases q
              · have e0 : g0 = r := Option.some.inj q
                omega
            have hR6 := hR5.kept gr6 (fun q => hbl q.symm)
            have hP6 := Recs.snoc hs l5 p5 bo n1 bc' _ (i4.past b5) (fun a ha => by
              obtain ⟨f1, f2⟩ := f4 a ha
              refine ⟨by simp at f1; omega, by omega, fun q => ?_⟩
              have q2 := hlt1 _ q
              simp at f1
              omega) g6 c6 (rn + 1) hT6 gr6 or6
            refine hK.out _ _ trivial (fun hHeld => ?_)
            clear hK K
            try (simp only [Act.put, List.getElem_toArray, List.getElem_cons_succ, List.getElem_cons_zero, List.setIfInBounds_toArray, List.set_cons_zero, List.set_cons_succ])
            refine wpAnyH_take (i := 9) (v := ?_) rfl (by kernel_rfl) (by kernel_rfl) (by kernel_rfl) (fun _ _ _ h => h) (Or.inl ⟨by rfl, ?_⟩) hHeld ?_
            rotate_left 1
            focus (intro wq hSw; go_simp; try with_reducible rfl)
            try (simp only [Act.put, List.getElem_toArray, List.getElem_cons_succ, List.getElem_cons_zero, List.setIfInBounds_toArray, List.set_cons_zero, List.set_cons_succ])
            refine wpAnyH_take (i := 10) (v := ?_) rfl (by kernel_rfl) (by kernel_rfl) (by kernel_rfl) (fun _ _ _ h => h) (Or.inl ⟨by rfl, ?_⟩) hHeld ?_
            rotate_left 1
            focus (intro wq hSw; go_simp; try with_reducible rfl)
            try (simp only [Act.put, List.getElem_toArray, List.getElem_cons_succ, List.getElem_cons_zero, List.setIfInBounds_toArray, List.set_cons_zero, List.set_cons_succ])
            have c66 := hR6.c6
            have f66 := hR6.free 6
            refine wpAnyH_ready (rs := [11]) (by kernel_rfl) (by simp) ?_
            refine AllReadyH.cons rfl (fun K hK => ?_) AllReadyH.nil
            go_simp
            refine hK.out _ _ trivial (fun hHeld => ?_)
            clear hK K
            try (simp only [Act.put, List.getElem_toArray, List.getElem_cons_succ, List.getElem_cons_zero, List.setIfInBounds_toArray, List.set_cons_zero, List.set_cons_succ])
            refine wpAnyH_done (by kernel_rfl) ?_ _
            have b15 : Below w1.heap.size w1 w5 := (Below.refl _ _).drew.trans ((b4.mono (by simp)).trans (b5.mono (by simp at hs4; omega)))
            have G6 : w.grownBy w6 (some r) := grown_past (grown_trans hG1 (below_grown _ b15)) b6
            have I6 := (i2.past b15).below b6 (fun a ha => (hso2 a ha).2)
            have H7 := hR6.recs (some ⟨g6, 0, none⟩) (rn + 1) c6
            have P7 := hP6.kept (gset w6 r 6 (.slice (some ⟨g6, 0, none⟩) (rn + 1) c6)) hrl
            have G7 : w.grownBy (w6.setCell ⟨r, 6, none⟩ (.slice (some ⟨g6, 0, none⟩) (rn + 1) c6)) (some r) := grown_trans G6 (gset _ _ _ _)
            have I7 : IsB (w6.setCell ⟨r, 6, none⟩ (.slice (some ⟨g6, 0, none⟩) (rn + 1) c6)) ao2 n2 c2 (cutB l) := I6.grown (gset _ _ _ _) (fun a ha q => (hso2 a ha).1 (Option.some.inj q))
            clear c66 f66 src5 hT6 gr6 or6 b6 hR6 hP6
            go_wp2_with fail
            go_meet
            exact ⟨_, _, H7, P7, G7, I7⟩
          · go_simp
            go_at_call 69
            (with_reducible refine (clone_any ao1 n1 c1 _ _ (i1.drew) HL.out.2.1).mono ?_)
            rintro en w4 ⟨bo, bc', rfl, i4, b4, f4⟩
            have hR4 := hR1.drew.past b4
            refine hK.out _ _ trivial (fun hHeld => ?_)
            clear hK K
            try (simp only [Act.put, List.getElem_toArray, List.getElem_cons_succ, List.getElem_cons_zero, List.setIfInBounds_toArray, List.set_cons_zero, List.set_cons_succ])
            refine wpAnyH_ready (rs := [4, 7]) (by kernel_rfl) (by simp) ?_
            refine AllReadyH.cons rfl (fun K hK => ?_) (AllReadyH.cons rfl (fun K hK => ?_) AllReadyH.nil)
            · have c6 := hR4.c6
              go_simp
              refine hK.out _ _ trivial (fun hHeld => ?_)
              clear hK K c6
              try (simp only [Act.put, List.getElem_toArray, List.getElem_cons_succ, List.getElem_cons_zero, List.setIfInBounds_toArray, List.set_cons_zero, List.set_cons_succ])
              refine wpAnyH_ready (rs := [7]) (by kernel_rfl) (by simp) ?_
              refine AllReadyH.cons rfl (fun K hK => ?_) AllReadyH.nil
              rw [if_pos (by rfl)]
              refine wp_buildSlice_cell 22 31 _ rfl (.slice bo n1 bc') (by rfl) rfl Try.underlying22 sl_inf fun w5 hB5 b5 s5 => ?_
              have hR5 := hR4.past b5
              refine hK.out _ _ trivial (fun hHeld => ?_)
              clear hK K
              try (simp only [Act.put, List.getElem_toArray, List.getElem_cons_succ, List.getElem_cons_zero, List.setIfInBounds_toArray, List.set_cons_zero, List.set_cons_succ])
              refine wpAnyH_ready (rs := [8]) (by kernel_rfl) (by simp) ?_
              refine AllReadyH.cons rfl (fun K hK => ?_) AllReadyH.nil
              rw [if_pos (by rfl)]
              have hP5 := (hP1.past (Below.refl _ _).drew)
              have hlt1 : ∀ z, blk ro = some z → z < w1.heap.size := by
                obtain ⟨_, t, _⟩ := hP1
                exact t.lt
              obtain ⟨hs, t5, l5, p5⟩ := (hP5.past b4).past b5
              have src5 : Src Try.prog encSl.sz 22 (.slice (some ⟨w4.heap.size, 0, none⟩) 1 1) 1 (encSl.all [(bo, n1, bc')]) w5 := (OwnR.ofBlk (E := encSl) (l := [((bo, n1, bc') : Hd)]) (n := 1) hB5 (by simp [Enc.all, encSl]) rfl (by omega)).isR.src Try.underlying22
              have hsw := hG1.size
              have hs4 := b4.size
              have hs5 := b5.size
              refine wp_append_r (.tmp 27) (.tmp 30) 22 22 rfl sl_ty rfl t5 (by simp at hs4; omega) _ rfl 1 [((bo, n1, bc') : Hd)] src5 rfl (by omega) (rn + 1) rfl _ rfl HL.out.2.2.2 fun g6 c6 w6 hT6 gr6 or6 b6 => ?_
              have hbl : blk ro ≠ some r := fun q => by
                rcases t5.either with ⟨rfl, _⟩ | ⟨g0, rfl, _, hB0⟩
                · cases q
                · have e0 : g0 = r := Option.some.inj q
                  omega
              have hR6 := hR5.kept gr6 (fun q => hbl q.symm)
              have hP6 := Recs.snoc hs l5 p5 bo n1 bc' _ (i4.past b5) (fun a ha => by
                obtain ⟨f1, f2⟩ := f4 a ha
                refine ⟨by simp at f1; omega, by omega, fun q => ?_⟩
                have q2 := hlt1 _ q
                simp at f1
                omega) g6 c6 (rn + 1) hT6 gr6 or6
              refine hK.out _ _ trivial (fun hHeld => ?_)
              clear hK K
              try (simp only [Act.put, List.getElem_toArray, List.getElem_cons_succ, List.getElem_cons_zero, List.setIfInBounds_toArray, List.set_cons_zero, List.set_cons_succ])
              refine wpAnyH_take (i := 9) (v := ?_) rfl (by kernel_rfl) (by kernel_rfl) (by kernel_rfl) (fun _ _ _ h => h) (Or.inl ⟨by rfl, ?_⟩) hHeld ?_
              rotate_left 1
              focus (intro wq hSw; go_simp; try with_reducible rfl)
              try (simp only [Act.put, List.getElem_toArray, List.getElem_cons_succ, List.getElem_cons_zero, List.setIfInBounds_toArray, List.set_cons_zero, List.set_cons_succ])
              refine wpAnyH_take (i := 10) (v := ?_) rfl (by kernel_rfl) (by kernel_rfl) (by kernel_rfl) (fun _ _ _ h => h) (Or.inl ⟨by rfl, ?_⟩) hHeld ?_
              rotate_left 1
              focus (intro wq hSw; go_simp; try with_reducible rfl)
              try (simp only [Act.put, List.getElem_toArray, List.getElem_cons_succ, List.getElem_cons_zero, List.setIfInBounds_toArray, List.set_cons_zero, List.set_cons_succ])
              have c66 := hR6.c6
              have f66 := hR6.free 6
              refine wpAnyH_ready (rs := [11]) (by kernel_rfl) (by simp) ?_
              refine AllReadyH.cons rfl (fun K hK => ?_) AllReadyH.nil
              go_simp
              refine hK.out _ _ trivial (fun hHeld => ?_)
              clear hK K
              try (simp only [Act.put, List.getElem_toArray, List.getElem_cons_succ, List.getElem_cons_zero, List.setIfInBounds_toArray, List.set_cons_zero, List.set_cons_succ])
              refine wpAnyH_done (by kernel_rfl) ?_ _
              have b15 : Below w1.heap.size w1 w5 := (Below.refl _ _).drew.trans ((b4.mono (by simp)).trans (b5.mono (by simp at hs4; omega)))
              have G6 : w.grownBy w6 (some r) := grown_past (grown_trans hG1 (below_grown _ b15)) b6
              have I6 := (i2.past b15).below b6 (fun a ha => (hso2 a ha).2)
              have H7 := hR6.recs (some ⟨g6, 0, none⟩) (rn + 1) c6
              have P7 := hP6.kept (gset w6 r 6 (.slice (some ⟨g6, 0, none⟩) (rn + 1) c6)) hrl
              have G7 : w.grownBy (w6.setCell ⟨r, 6, none⟩ (.slice (some ⟨g6, 0, none⟩) (rn + 1) c6)) (some r) := grown_trans G6 (gset _ _ _ _)
              have I7 : IsB (w6.setCell ⟨r, 6, none⟩ (.slice (some ⟨g6, 0, none⟩) (rn + 1) c6)) ao2 n2 c2 (cutB l) := I6.grown (gset _ _ _ _) (fun a ha q => (hso2 a ha).1 (Option.some.inj q))
              clear c66 f66 src5 hT6 gr6 or6 b6 hR6 hP6
              go_wp2_with fail
              go_meet
              exact ⟨_, _, H7, P7, G7, I7⟩
            · rw [if_pos (by rfl)]
              refine wp_buildSlice_cell 22 31 _ rfl (.slice bo n1 bc') (by rfl) rfl Try.underlying22 sl_inf fun w5 hB5 b5 s5 => ?_
              have hR5 := hR4.past b5
              refine hK.out _ _ trivial (fun hHeld => ?_)
              clear hK K
              try (simp only [Act.put, List.getElem_toArray, List.getElem_cons_succ, List.getElem_cons_zero, List.setIfInBounds_toArray, List.set_cons_zero, List.set_cons_succ])
              refine wpAnyH_ready (rs := [4]) (by kernel_rfl) (by simp) ?_
              refine AllReadyH.cons rfl (fun K hK => ?_) AllReadyH.nil
              have c6 := hR5.c6
              go_simp
              refine hK.out _ _ trivial (fun hHeld => ?_)
              clear hK K c6
              try (simp only [Act.put, List.getElem_toArray, List.getElem_cons_succ, List.getElem_cons_zero, List.setIfInBounds_toArray, List.set_cons_zero, List.set_cons_succ])
              refine wpAnyH_ready (rs := [8]) (by kernel_rfl) (by simp) ?_
              refine AllReadyH.cons rfl (fun K hK => ?_) AllReadyH.nil
              rw [if_pos (by rfl)]
              have hP5 := (hP1.past (Below.refl _ _).drew)
              have hlt1 : ∀ z, blk ro = some z → z < w1.heap.size := by
                obtain ⟨_, t, _⟩ := hP1
                exact t.lt
              obtain ⟨hs, t5, l5, p5⟩ := (hP5.past b4).past b5
              have src5 : Src Try.prog encSl.sz 22 (.slice (some ⟨w4.heap.size, 0, none⟩) 1 1) 1 (encSl.all [(bo, n1, bc')]) w5 := (OwnR.ofBlk (E := encSl) (l := [((bo, n1, bc') : Hd)]) (n := 1) hB5 (by simp [Enc.all, encSl]) rfl (by omega)).isR.src Try.underlying22
              have hsw := hG1.size
              have hs4 := b4.size
              have hs5 := b5.size
              refine wp_append_r (.tmp 27) (.tmp 30) 22 22 rfl sl_ty rfl t5 (by simp at hs4; omega) _ rfl 1 [((bo, n1, bc') : Hd)] src5 rfl (by omega) (rn + 1) rfl _ rfl HL.out.2.2.2 fun g6 c6 w6 hT6 gr6 or6 b6 => ?_
              have hbl : blk ro ≠ some r := fun q => by
                rcases t5.either with ⟨rfl, _⟩ | ⟨g0, rfl, _, hB0⟩
                · cases q
                · have e0 : g0 = r := Option.some.inj q
                  omega
              have hR6 := hR5.kept gr6 (fun q => hbl q.symm)
              have hP6 := Recs.snoc hs l5 p5 bo n1 bc' _ (i4.past b5) (fun a ha => by
                obtain ⟨f1, f2⟩ := f4 a ha
                refine ⟨by simp at f1; omega, by omega, fun q => ?_⟩
                have q2 := hlt1 _ q
                simp at f1
                omega) g6 c6 (rn + 1) hT6 gr6 or6
              refine hK.out _ _ trivial (fun hHeld => ?_)
              clear hK K
              try (simp only [Act.put, List.getElem_toArray, List.getElem_cons_succ, List.getElem_cons_zero, List.setIfInBounds_toArray, List.set_cons_zero, List.set_cons_succ])
              refine wpAnyH_take (i := 9) (v := ?_) rfl (by kernel_rfl) (by kernel_rfl) (by kernel_rfl) (fun _ _ _ h => h) (Or.inl ⟨by rfl, ?_⟩) hHeld ?_
              rotate_left 1
              focus (intro wq hSw; go_simp; try with_reducible rfl)
              try (simp only [Act.put, List.getElem_toArray, List.getElem_cons_succ, List.getElem_cons_zero, List.setIfInBounds_toArray, List.set_cons_zero, List.set_cons_succ])
              refine wpAnyH_take (i := 10) (v := ?_) rfl (by kernel_rfl) (by kernel_rfl) (by kernel_rfl) (fun _ _ _ h => h) (Or.inl ⟨by rfl, ?_⟩) hHeld ?_
              rotate_left 1
              focus (intro wq hSw; go_simp; try with_reducible rfl)
              try (simp only [Act.put, List.getElem_toArray, List.getElem_cons_succ, List.getElem_cons_zero, List.setIfInBounds_toArray, List.set_cons_zero, List.set_cons_succ])
              have c66 := hR6.c6
              have f66 := hR6.free 6
              refine wpAnyH_ready (rs := [11]) (by kernel_rfl) (by simp) ?_
              refine AllReadyH.cons rfl (fun K hK => ?_) AllReadyH.nil
              go_simp
              refine hK.out _ _ trivial (fun hHeld => ?_)
              clear hK K
              try (simp only [Act.put, List.getElem_toArray, List.getElem_cons_succ, List.getElem_cons_zero, List.setIfInBounds_toArray, List.set_cons_zero, List.set_cons_succ])
              refine wpAnyH_done (by kernel_rfl) ?_ _
              have b15 : Below w1.heap.size w1 w5 := (Below.refl _ _).drew.trans ((b4.mono (by simp)).trans (b5.mono (by simp at hs4; omega)))
              have G6 : w.grownBy w6 (some r) := grown_past (grown_trans hG1 (below_grown _ b15)) b6
              have I6 := (i2.past b15).below b6 (fun a ha => (hso2 a ha).2)
              have H7 := hR6.recs (some ⟨g6, 0, none⟩) (rn + 1) c6
              have P7 := hP6.kept (gset w6 r 6 (.slice (some ⟨g6, 0, none⟩) (rn + 1) c6)) hrl
              have G7 : w.grownBy (w6.setCell ⟨r, 6, none⟩ (.slice (some ⟨g6, 0, none⟩) (rn + 1) c6)) (some r) := grown_trans G6 (gset _ _ _ _)
              have I7 : IsB (w6.setCell ⟨r, 6, none⟩ (.slice (some ⟨g6, 0, none⟩) (rn + 1) c6)) ao2 n2 c2 (cutB l) := I6.grown (gset _ _ _ _) (fun a ha q => (hso2 a ha).1 (Option.some.inj q))
              clear c66 f66 src5 hT6 gr6 or6 b6 hR6 hP6
              go_wp2_with fail
              go_meet
              exact ⟨_, _, H7, P7, G7, I7⟩
        case rest =>
          obtain ⟨ro7, rc7, H7, P7, G7, I7⟩ := hcut
          go_wp2_with fail
          go_roundw
          case rel => exact ⟨ao2, n2, c2, cutB l, ps ++ [cutA l], _, rn + 1, _, rfl, I7, hso2, H7, P7, HS, G7, HL.out.1⟩
          case measure => simp [lenOf]; exact HL.out.2.2.1
      · have HS := splitB_last b l ps (by rintro rfl; simp at hl; omega) hc hS.out
        obtain ⟨s1, s2⟩ := HS
        have HE2 : Hid (err1 e 10 = E) := by have := HE.out; rw [s2] at this; exact this
        have HP2 : Hid (ps = PS) := by have := HPS.out; rw [s1] at this; exact this
        clear s1 s2 hS
        go_wp2_with (first
          | (go_at_call 68; refine (cut_no so m sc l _ hB (by omega) hc).mono ?_; rintro en w1 ⟨rfl, b1⟩)
          | (go_at_call 53; refine (tell_any r e z k ro rn rc 10 _ (hR.past b1)).mono ?_; rintro en w2 ⟨rfl, R2, g2⟩))
        go_end0
        rw [HE2.out] at R2
        rw [HP2.out] at hP
        exact ⟨ro, rn, rc, rfl, R2, (hP.past b1).kept g2 hrl, grown_trans (grown_trans hG (below_grown _ b1)) g2⟩
end
end Go.Proofs.Ytpfhggalbdjjmaa
