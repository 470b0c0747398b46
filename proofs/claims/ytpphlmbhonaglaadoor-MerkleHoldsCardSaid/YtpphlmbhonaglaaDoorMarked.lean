/-
  merkle's sums of marked bytes: marked, Leaf, pair; the reference's Leaf and Two.
-/
import Derived.Test.YtpphlmbhonaglaaDoorHs
import Derived.Test.YtpphlmbhonaglaaDoorMk
import Derived.StillTailTactics
namespace Go.Proofs.YtpphlmbhonaglaaDoor
open Go.RowKit

def two (a b : List UInt8) : List UInt8 := sha (1 :: (a ++ b))
def leafS (b : List UInt8) : List UInt8 := sha (0 :: b)
theorem two_length (a b : List UInt8) : (two a b).length = 32 := sha_length _
theorem leafS_length (b : List UInt8) : (leafS b).length = 32 := sha_length _

theorem OwnP.lit {w0 w : World} {base g : Nat} {bo : Option Addr} {bn bc' : Nat} {l : List UInt8} (hg : base ≤ g) (hb : w.heap[g]? = some (.cells #[.slice bo bn bc'] 36 (0, 0))) (hl : IsB w0 bo bn bc' l) : OwnP w0 w base (.slice (some ⟨g, 0, none⟩) 1 1) 1 [l] :=
  ⟨[.slice bo bn bc'], ⟨rfl, .inr ⟨g, 1, _, rfl, hg, hb, Nat.le_refl _, by unfold maxLen; omega, rfl, rfl⟩⟩, rfl, fun j hj => by
    obtain rfl : j = 0 := by omega
    exact ⟨bo, bn, bc', rfl, hl⟩⟩
/-- append of some pieces. -/
theorem wpList_append_pieces {w0 w : World} {ops : Array Oper} {rest : List Oper} {o : Oper} {a : Act} {Q : Exit → Act → World → Prop} (hgd : o.guard = none) (s x : Operand)
    (ho : o.op = .call { callee := .builtin .append, args := #[s, x], argTypes := #[51, 51] }) (base : Nat) (hbase : base ≤ w.heap.size)
    (v : Value) (k : Nat) (ps : List (List UInt8)) (hs : a.eval s = v) (hown : OwnP w0 w base v k ps) (ad : Addr) (m c : Nat) (ns : List (List UInt8)) (hx : a.eval x = .slice (some ad) m c)
    (hN : IsP w0 (some ad) m ns) (hcell : ∀ j v, w0.cell? (ad.add j) = some v → w.cell? (ad.add j) = some v) (hk : k + m ≤ 1000000)
    (h : ∀ v' w', OwnP w0 w' base v' (k + m) (ps ++ ns) → w.grownBy w' v.ownBlock → wpList Tryd.prog ops Q rest (a.put o.dst v') w') : wpList Tryd.prog ops Q (o :: rest) a w := by
  obtain ⟨xs, ho2, hp, hxs⟩ := hown
  obtain ⟨i0, hi, hz0, hz1, hz2⟩ := info_parts info_row
  have each : ∀ j, j < m → ∃ y : Value × Option Addr × Nat × Nat, w0.cell? (ad.add j) = some y.1 ∧ y.1 = .slice y.2.1 y.2.2.1 y.2.2.2 ∧ IsB w0 y.2.1 y.2.2.1 y.2.2.2 (ns.getD j []) := fun j hj => by
    obtain ⟨bo, bn, bc', h1, h2⟩ := hN.cell ad rfl j hj
    exact ⟨(_, bo, bn, bc'), h1, rfl, h2⟩
  obtain ⟨f, hf⟩ := Deep.choose_lt each
  have hnl := hN.len
  refine wpList_append_own w hgd s x 51 ho base 36 i0 (.slice none 0 0) 1 24 Tryd.underlying51 hi hz0 hz1 hz2 rfl (by decide) v k xs hs ho2 ad m c ((List.range m).map fun j => (f j).1) hx (by simp) ?_ ?_ (by unfold maxLen; omega) (by omega) hbase fun v' w' h1 h2 _ => h v' w' ⟨_, h1, by simp [hp, hnl], fun j hj => ?_⟩ h2
  · intro j u hu
    have hj : j < m := by have := (List.getElem?_eq_some_iff.1 hu).1; simpa using this
    simp [hj] at hu
    rw [← hu]
    exact hcell j _ (hf j hj).1
  · intro u hu
    obtain ⟨j, hj, rfl⟩ := List.mem_map.1 hu
    obtain ⟨_, h2, _⟩ := hf j (List.mem_range.1 hj)
    rw [h2]
    rfl
  · have hxl : xs.length = k := by have := ho2.1; omega
    by_cases hjk : j < k
    · obtain ⟨b1, b2, b3, h3, h4⟩ := hxs j hjk
      refine ⟨b1, b2, b3, ?_, ?_⟩
      · rw [List.getElem?_append_left (by omega)]
        exact h3
      · have e : (ps ++ ns).getD j [] = ps.getD j [] := by simp only [List.getD]; rw [List.getElem?_append_left (by omega)]
        rw [e]
        exact h4
    · obtain ⟨h5, h6, h7⟩ := hf (j - k) (by omega)
      refine ⟨(f (j - k)).2.1, (f (j - k)).2.2.1, (f (j - k)).2.2.2, ?_, ?_⟩
      · rw [List.getElem?_append_right (by omega), hxl]
        simp only [List.getElem?_map, List.getElem?_range (show j - k < m by omega), Option.map_some]
        rw [h6]
      · have e : (ps ++ ns).getD j [] = ns.getD (j - k) [] := by simp only [List.getD]; rw [List.getElem?_append_right (by omega), hp]
        rw [e]
        exact h7

def wMark (w1 : World) (x : UInt8) : World := (w1.alloc (.cells #[.int .u8 (ub x)] 5)).alloc (.cells #[.slice (some ⟨w1.heap.size, 0, none⟩) 1 1] 36)
def wMk (w1 : World) (x : UInt8) : World := w1.alloc (.cells #[.int .u8 (ub x)] 5)
theorem mark_own (w1 : World) (x : UInt8) (base : Nat) (hb : base ≤ w1.heap.size) : OwnP (wMk w1 x) (wMark w1 x) base (.slice (some ⟨w1.heap.size + 1, 0, none⟩) 1 1) 1 [[x]] := by
  have h1 := heap_alloc_new (w1.alloc (.cells #[.int .u8 (ub x)] 5)) (.cells #[.slice (some ⟨w1.heap.size, 0, none⟩) 1 1] 36)
  rw [World.size_alloc] at h1
  exact OwnP.lit (by omega) h1 (isB_one w1 (.int .u8 (ub x)) x 5 rfl)
theorem mk_below (w1 : World) (x : UInt8) : Below w1.heap.size w1 (wMk w1 x) := (Below.refl _ _).alloc (Nat.le_refl _) _
theorem mk_mark (w1 : World) (x : UInt8) : Below (wMk w1 x).heap.size (wMk w1 x) (wMark w1 x) := (Below.refl _ _).alloc (Nat.le_refl _) _
theorem mk_size (w1 : World) (x : UInt8) : (wMk w1 x).heap.size = w1.heap.size + 1 := by simp [wMk]
theorem mark_below (w1 : World) (x : UInt8) : Below w1.heap.size w1 (wMark w1 x) := ((Below.refl _ _).alloc (Nat.le_refl _) _).alloc (by simp) _
theorem mark_size (w1 : World) (x : UInt8) : w1.heap.size ≤ (wMark w1 x).heap.size := (mark_below w1 x).size
set_option maxRecDepth 100000 in
set_option maxHeartbeats 1000000 in
theorem marked_any (x : UInt8) (ad : Addr) (n c : Nat) (ps : List (List UInt8)) (w : World) (hC : RC w) (h : IsP w (some ad) n ps) (hn : n ≤ 10) (hm : ps.flatten.length ≤ 900000) :
    Calls Tryd.prog 19 #[.int .u8 (ub x), .slice (some ad) n c] w fun e w' => e = .returned (.agg (bcs (sha (x :: ps.flatten))).toArray) ∧ Below w.heap.size w w' := by
  go_enter Tryd.func19, Tryd.ntmps19
  go_wp2_with (first
    | (with_reducible refine wpList_alloc_blk (o := ⟨some 4, _, _, _, _, _⟩) rfl 27 rfl _ zeroHash ?_; intro w1 gr h1 b1 q1; have ow := mark_own w1 x w.heap.size b1.size; have k0 : Below w.heap.size w (wMk w1 x) := b1.trans ((mk_below w1 x).mono b1.size); have hP := h.past k0; have km := mark_size w1 x)
    | (at_builtin; refine wpList_append_pieces (w0 := wMk w1 x) (w := wMark w1 x) rfl (.tmp 7) (.tmp 8) rfl w.heap.size (Nat.le_trans b1.size km) _ 1 [[x]] rfl ow ad n c ps rfl hP (fun j v hv => by rw [(mk_mark w1 x).cell (World.block_lt_of_cell? _ _ hv)]; exact hv) (by omega) ?_; intro v2 w3 hO3 g3))
  have g3' : (wMark w1 x).grownBy w3 (some (w1.heap.size + 1)) := g3
  have bA : Below (wMk w1 x).heap.size (wMk w1 x) w3 := (mk_mark w1 x).grown g3' (mk_mark w1 x).size (fun k hk => by cases hk; rw [mk_size]; omega)
  have B3 : Below w.heap.size w w3 := k0.trans (bA.mono (by rw [mk_size]; have := b1.size; omega))
  have R3 : Hid (w3.heap[gr]? = some (.cells (bcs (List.replicate 32 0)).toArray 27 (0, 0))) := by
    have hl : gr < w1.heap.size := (Array.getElem?_eq_some_iff.1 h1.out).1
    unfold Hid
    rw [bA.block gr (by rw [mk_size]; omega), (mk_below w1 x).block gr hl]
    exact h1.out
  obtain ⟨ao, cap, rfl, hP3⟩ := hO3.isP bA
  have hR3 : RC w3 := hC.past B3
  have hfl : ([[x]] ++ ps).flatten = x :: ps.flatten := by simp
  have HFL := Lib.hid hfl
  clear g3 g3' bA hO3 ow k0 hP km h1 b1 hfl
  refine (sum_any ao (1 + n) cap _ _ hR3 hP3 (by omega) (by rw [HFL.out, List.length_cons]; omega)).mono ?_
  rintro e w4 ⟨rfl, b4⟩
  rw [HFL.out]
  have R4 : Hid (w4.heap[gr]? = some (.cells (bcs (List.replicate 32 0)).toArray 27 (0, 0))) := (b4.block gr (Array.getElem?_eq_some_iff.1 R3.out).1).trans R3.out
  have B4 := B3.trans (b4.mono B3.size)
  clear R3 B3 hR3 hP3 b4
  go_wp2_with ((with_reducible refine wpList_store_blk rfl 27 _ _ rfl gr _ (bcs (sha (x :: ps.flatten))).toArray ?_ ?_ _ R4 32 sizeHash (by simp [bcs_length]) (by simp [bcs_length, sha_length]) (bcs_all _) ?_); (rfl); (rfl); (intro w8 h8 b8))
  refine bodyPost_ret (v := .agg (bcs (sha (x :: ps.flatten))).toArray) (results_cell_row rfl _ _ gr _ _ (0, 0) _ rfl h8.out Tryd.underlying27 rfl (by rw [sizeHash]; simp [bcs_length, sha_length])) rfl ⟨rfl, ?_⟩
  exact B4.grown b8 B4.size (fun k hk => by cases hk; omega)

set_option maxRecDepth 100000 in
set_option maxHeartbeats 1000000 in
theorem leaf_any (a0 : Option Addr) (n0 c0 : Nat) (l : List UInt8) (w : World) (hC : RC w) (h : IsB w a0 n0 c0 l) (hn : n0 ≤ 900000) :
    Calls Tryd.prog 11 #[.slice a0 n0 c0] w fun e w' => e = .returned (.agg (bcs (leafS l)).toArray) ∧ Below w.heap.size w w' := by
  have hl := h.len
  have HL := Lib.hid hl
  clear hl
  go_enter Tryd.func11, Tryd.ntmps11
  go_wp2_with (first
    | (with_reducible refine wpList_alloc_blk (o := ⟨some 2, _, _, _, _, _⟩) rfl 27 rfl _ zeroHash ?_; intro w1 gr h1 b1 q1))
  have hR1 : RC w1 := hC.past b1
  have hm := marked_any 0 ⟨w1.heap.size, 0, none⟩ 1 1 [l] _ (hR1.alloc (.cells #[.slice a0 n0 c0] 36)) (isP_one w1 36 _ _ _ l (h.past b1)) (by omega) (by rw [one_flat, HL.out]; exact hn)
  rw [one_flat] at hm
  refine hm.mono ?_
  rintro e w4 ⟨rfl, b4⟩
  have hl1 : gr < w1.heap.size := (Array.getElem?_eq_some_iff.1 h1.out).1
  have R4 : Hid (w4.heap[gr]? = some (.cells (bcs (List.replicate 32 0)).toArray 27 (0, 0))) := by
    unfold Hid
    rw [b4.block gr (by simp; omega), Below.heap_alloc _ _ _ hl1]
    exact h1.out
  have B4 : Below w.heap.size w w4 := (b1.alloc b1.size _).trans (b4.mono (by have := b1.size; simp; omega))
  clear hm hR1 h1 b1 b4
  go_wp2_with ((with_reducible refine wpList_store_blk rfl 27 _ _ rfl gr _ (bcs (leafS l)).toArray ?_ ?_ _ R4 32 sizeHash (by simp [bcs_length]) (by simp [bcs_length, leafS_length]) (bcs_all _) ?_); (rfl); (rfl); (intro w8 h8 b8))
  refine bodyPost_ret (v := .agg (bcs (leafS l)).toArray) (results_cell_row rfl _ _ gr _ _ (0, 0) _ rfl h8.out Tryd.underlying27 rfl (by rw [sizeHash]; simp [bcs_length, leafS_length])) rfl ⟨rfl, ?_⟩
  exact B4.grown b8 B4.size (fun k hk => by cases hk; omega)
end Go.Proofs.YtpphlmbhonaglaaDoor
