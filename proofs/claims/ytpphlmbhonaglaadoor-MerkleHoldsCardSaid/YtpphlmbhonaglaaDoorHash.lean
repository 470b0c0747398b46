/-
  The contract of hash: the state as bytes.
-/
import Derived.Test.YtpphlmbhonaglaaDoorSm
import Derived.Test.YtpphlmbhonaglaaDoorReg
import Derived.Test.YtpphlmbhonaglaaDoorSchedP
import Derived.Outline
namespace Go.Proofs.YtpphlmbhonaglaaDoor
open Go.RowKit

/-- The first k bytes of the state, and zeros. -/
def filled (st : List UInt32) : Nat → List UInt8
  | 0 => List.replicate 32 0
  | k + 1 => (filled st k).set k (byt (st.getD (k / 4) 0) (3 - k % 4))
theorem filled_length (st : List UInt32) : ∀ k, (filled st k).length = 32
  | 0 => rfl
  | k + 1 => by rw [filled, List.length_set, filled_length st k]
theorem filled_snoc (st : List UInt32) (k q r : Nat) (hr : r < 4) (hk : k = 4 * q + r) (_h : k < 32) : filled st (k + 1) = (filled st k).set k (byt (st.getD q 0) (3 - r)) := by
  rw [filled, show k / 4 = q by omega, show k % 4 = r by omega]
theorem filled_all (S : St) : filled S.l 32 = (S.l.map fun x => be 4 x.toNat).flatten := by kernel_rfl
theorem zeroHash : (Tryd.prog.info? 27).map (fun i => i.zero) = some (some (.agg (bcs (List.replicate 32 0)).toArray)) := by kernel_rfl
theorem sizeHash : (Tryd.prog.info? 27).map (·.size) = some 32 := by kernel_rfl
set_option maxRecDepth 100000 in
set_option maxHeartbeats 4000000 in
theorem hash_any (g : Nat) (st : List UInt32) (blk : List UInt8) (used : Nat) (len : Int) (last : List UInt8) (mid : List Value) (sch : List UInt32) (w : World) (h : Sm w g st blk used len last mid sch) :
    Calls Tryd.prog 25 #[.pointer (some ⟨g, 0, none⟩)] w fun e w' => e = .returned (.agg (bcs (filled st 32)).toArray) ∧ Below w.heap.size w w' := by
  go_enter Tryd.func25, Tryd.ntmps25
  go_wp2_with (first | (with_reducible refine wpList_alloc_blk (o := ⟨some 3, _, _, _, _, _⟩) rfl 27 rfl _ zeroHash ?_; intro w2 go h2 b2 q2) | (with_reducible refine wpList_alloc_blk (o := ⟨some 2, _, _, _, _, _⟩) rfl 27 rfl _ zeroHash ?_; intro w1 gr h1 b1 q1))
  have hg := h.lt
  have hgr : gr < w1.heap.size := (Array.getElem?_eq_some_iff.1 h1.out).1
  have S2 := (h.kept (b1.block g hg)).kept (b2.block g (by omega))
  have B2 := below_on b1 b2
  have R2 : Hid (w2.heap[gr]? = some (.cells (bcs (List.replicate 32 0)).toArray 27 (0, 0))) := (b2.block gr hgr).trans h1.out
  have A2 : Ab w2 27 go (filled st 0) := h2.out
  have hgo : g < go := by omega
  have hro : gr < go := by omega
  have hwr : w.heap.size ≤ gr := q1
  have hl := Lib.hid h.l1
  clear h1 b1 q1 h2 b2 q2 hg hgr
  go_loopw [5] (fun i wq => ∃ k : Nat, k ≤ 32 ∧ i = .int .i64 k ∧ Ab wq 27 go (filled st k) ∧ Below go w2 wq) (fun i _ => 32 - (intOf i).toNat)
  case atStart => exact ⟨0, Nat.zero_le _, rfl, A2, Below.refl _ _⟩
  case round =>
    clear A2
    obtain ⟨k, hk, rfl, hA, bA⟩ := hrel
    by_cases hk32 : k < 32
    · obtain ⟨q, r, hr, hkr⟩ : ∃ q r : Nat, r < 4 ∧ k = 4 * q + r := ⟨k / 4, k % 4, by omega, by omega⟩
      have hq : q < 8 := by omega
      have za := (S2.kept (bA.block g hgo)).st_cell q hq
      have HF : Hid (filled st (k + 1) = (filled st k).set k (byt (st.getD q 0) (3 - r))) := filled_snoc st k q r hr hkr hk32
      generalize st.getD q 0 = x at za HF
      have lo := u_lo x
      have hi := u_hi x
      have k32 : (k : Int) < 32 := by omega
      have e1 : (k : Int) / 4 = q := by omega
      have e2 : (k : Int) % 4 = r := by omega
      have q8 : (q : Int) < 8 := by omega
      have tw := hA.cell k (by rw [filled_length]; exact hk32)
      have tf := hA.free k
      have s0 := u_byte0
      have s1 := u_byte1
      have s2 := u_byte2
      have s3 := u_byte3
      have s4 := ub_mod
      have HK := Lib.hid hkr
      clear hkr
      obtain rfl | rfl | rfl | rfl : r = 0 ∨ r = 1 ∨ r = 2 ∨ r = 3 := by omega
      all_goals
        go_wp2_with fail
        go_roundw
        case rel => exact ⟨k + 1, by omega, by go_num, by rw [HF.out]; exact hA.set k _, bA.setCell (Nat.le_refl _) _⟩
        case measure => simp [intOf]; omega
    · obtain rfl : k = 32 := by omega
      have hAH : Hid (wr.heap[go]? = some (.cells (bcs (filled st 32)).toArray 27 (0, 0))) := hA
      have hRH : Hid (wr.heap[gr]? = some (.cells (bcs (List.replicate 32 0)).toArray 27 (0, 0))) := (bA.block gr hro).trans R2.out
      have SZ : Hid ((bcs (filled st 32)).toArray.size = 32) := by unfold Hid; simp [bcs_length, filled_length]
      clear hA hk hk32
      go_wp2_with (first
        | ((with_reducible refine wpList_load_blk rfl 27 _ rfl go _ ?_ _ hAH _ _ Tryd.underlying27 32 sizeHash SZ.out ?_); (rfl))
        | ((with_reducible refine wpList_store_blk rfl 27 _ _ rfl gr _ (bcs (filled st 32)).toArray ?_ ?_ _ hRH 32 sizeHash List.size_toArray SZ.out ?_ ?_); (rfl); (rfl); (exact bcs_all _); (intro wz hz bz)))
      have Bz := B2.trans (bA.mono (by omega))
      refine bodyPost_ret (v := .agg (bcs (filled st 32)).toArray) (results_cell_row rfl _ _ gr _ _ (0, 0) _ rfl hz.out Tryd.underlying27 rfl (sizeHash.trans (by rw [SZ.out]))) rfl ⟨rfl, ?_⟩
      exact Bz.grown bz Bz.size (fun k h => by cases h; exact hwr)
end Go.Proofs.YtpphlmbhonaglaaDoor
