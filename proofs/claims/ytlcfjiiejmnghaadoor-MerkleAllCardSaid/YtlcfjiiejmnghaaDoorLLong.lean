/-
  ShaLong, walked.
-/
import Derived.Test.YtlcfjiiejmnghaaDoorLaw2
namespace Go.Proofs.YtlcfjiiejmnghaaDoor
open Go.RowKit

/-- 'make([]byte, N)': a block of zeros. -/
theorem wpList_make_ab {P : Program} {w : World} {ops : Array Oper} {rest : List Oper} {o : Oper} {a : Act} {Q : Exit → Act → World → Prop} (hgd : o.guard = none) (l c : Operand) (t : TypeId)
    (ho : o.op = Op.makeSlice t l c) (e : TypeId) (hB : ByteTy P t e) (kl kc : IntKind) (L C : Int) (N : Nat) (hl : a.eval l = .int kl L) (hc : a.eval c = .int kc C) (hL : L = (N : Int)) (hC : C = (N : Int)) (hN : N ≤ 1000000)
    (hK : ∀ w' g, Ab w' e g (List.replicate N 0) → Below w.heap.size w w' → w.heap.size ≤ g → wpList P ops Q rest (a.put o.dst (.slice (some ⟨g, 0, none⟩) N N)) w') :
    wpList P ops Q (o :: rest) a w := by
  obtain ⟨i, hi, hz, hsize, hby⟩ := hB.info
  refine wpList_make_full w hgd l c t ho w.heap.size e i (.int .u8 0) 1 hB.ht hi hz hsize kl kc L C N hl hc hL hC (by rw [hby]; omega) (by unfold maxLen; omega) (Nat.le_refl _) fun w' hown hgr => ?_
  refine hK w' _ ?_ ((Below.refl _ w).grown hgr (Nat.le_refl _) (fun k h => by cases h)) (Nat.le_refl _)
  rcases hown.2 with ⟨h, _⟩ | ⟨g, cap, cur, hv, _, hg, hnc, hcm, hcs, htake⟩
  · cases h
  · simp only [Value.slice.injEq, Option.some.injEq, Addr.mk.injEq, and_true] at hv
    obtain ⟨rfl, _, rfl⟩ := hv
    rw [Nat.mul_one] at htake hcs
    have e1 : cur.toList = (List.replicate N (0 : UInt8)).map fun x => Value.int .u8 (ub x) := by
      rw [← List.take_of_length_le (l := cur.toList) (i := N) (by simp; omega), htake]
      show (madeCells #[Value.int .u8 0] N).toList = _
      rw [toList_madeCells_one]
      simp [ub]
    have e2 : cur = ((List.replicate N (0 : UInt8)).map fun x => Value.int .u8 (ub x)).toArray := by
      apply Array.toList_inj.1
      rw [e1]
    unfold Ab
    rw [← e2]
    exact hg
theorem is_ub (z : Int) (h0 : 0 ≤ z) (h1 : z < 256) : ∃ y : UInt8, z = ub y := ⟨UInt8.ofNat z.toNat, by unfold ub; rw [UInt8.toNat_ofNat']; omega⟩
theorem equal_hash (a b : List UInt8) (ha : a.length = 32) (hb : b.length = 32) (w : World) : (Op.equalIn 10000 24 (.agg (bcs a).toArray) (.agg (bcs b).toArray)).run Tryd.prog w = .ok (a == b) w :=
  run_equalIn_bytes w 9998 24 5 32 Tryd.underlying24 Tryd.underlying5 (fun w' => by kernel_rfl) a b ha hb
theorem equal_sha (m : List UInt8) (w : World) : (Op.equalIn 10000 24 (.agg (bcs (sha m)).toArray) (.agg (bcs (sha m)).toArray)).run Tryd.prog w = .ok true w := by
  rw [equal_hash _ _ (sha_length m) (sha_length m)]
  simp
theorem wth_nat (a : Int) (n : Nat) (h : 0 < n) : ∃ k : Nat, wth a n = k ∧ k < n := by
  have h1 := wth_lo a n (by omega)
  have h2 := wth_hi a n (by omega)
  exact ⟨(wth a n).toNat, by omega, by omega⟩
theorem Ab.set_any {w : World} {t : TypeId} {g : Nat} {l : List UInt8} (h : Ab w t g l) (j : Nat) (z : Int) (h0 : 0 ≤ z) (h1 : z < 256) : ∃ l' : List UInt8, l'.length = l.length ∧ Ab (w.setCell ⟨g, j, none⟩ (.int .u8 z)) t g l' := by
  obtain ⟨y, rfl⟩ := is_ub z h0 h1
  exact ⟨l.set j y, by simp, h.set j y⟩
theorem one_flat (l : List UInt8) : [l].flatten = l := by simp

set_option maxRecDepth 100000 in
set_option maxHeartbeats 4000000 in
theorem shaLong_walk (a0 a1 a2 a3 : Int) (w : World) (hC : RC w) (_w0 : (Lit.int .i64 a0).wf = true) (w1 : (Lit.int .u8 a1).wf = true) (_w2 : (Lit.int .i64 a2).wf = true) (w3 : (Lit.int .u8 a3).wf = true) :
    Calls Tryd.prog 4 #[.int .i64 a0, .int .u8 a1, .int .i64 a2, .int .u8 a3] w fun e w' => e = .returned (.bool true) ∧ Below w.heap.size w w' := by
  have hb1 := bounds_u8 w1
  have hb3 := bounds_u8 w3
  clear w1 w3
  obtain ⟨N, hN, hN3⟩ := wth_nat a0 300 (by omega)
  have HN := Lib.hid hN
  clear hN
  go_enter Tryd.func4, Tryd.ntmps4
  go_wp2_with fail
  refine (known2 _ hC).mono ?_
  rintro e w1 ⟨rfl, b1⟩
  go_wp2_with fail
  refine (within2_any a0 300 _ (by omega) (by omega)).mono ?_
  rintro e w' ⟨rfl, rfl⟩
  rw [show wth a0 300 = (N : Int) from HN.out]
  go_wp2_with (at_make; refine wpList_make_ab rfl _ _ 26 rfl 5 byteTy .i64 .i64 _ _ N rfl rfl rfl rfl (by omega) ?_; intro w2 g hA b2 q2)
  have B2 : Below w.heap.size w w2 := b1.trans (b2.mono b1.size)
  have hg : w.heap.size ≤ g := Nat.le_trans b1.size q2
  have C2 : RC w2 := hC.past B2
  clear b1 b2 q2
  go_loopw [10] (fun i wq => ∃ (j : Nat) (l : List UInt8), j ≤ N ∧ i = .int .i64 j ∧ Hid (l.length = N) ∧ Ab wq 5 g l ∧ Below g w2 wq) (fun i _ => N - (intOf i).toNat)
  case atStart => exact ⟨0, List.replicate N 0, Nat.zero_le _, rfl, List.length_replicate, hA, Below.refl _ _⟩
  case round =>
    have hgl := hA.lt
    clear hA
    obtain ⟨j, l, hj, rfl, HL, hA, bA⟩ := hrel
    by_cases hjN : j < N
    · have tw := hA.cell j (by rw [HL.out]; exact hjN)
      have tf := hA.free j
      have hj' : (j : Int) < N := by omega
      go_wp2_with fail
      go_roundw
      case rel =>
        obtain ⟨l', h1, h2⟩ := hA.set_any j ((a1 + (j : Int)) % 256) (by omega) (by omega)
        exact ⟨j + 1, l', by omega, by go_num, h1.trans HL.out, h2, bA.setCell (Nat.le_refl _) _⟩
      case measure => simp [intOf]; omega
    · obtain rfl : j = N := by omega
      have hB : Below w.heap.size w wr := B2.trans (bA.mono hg)
      have hR : RC wr := hC.past hB
      have hI := hA.isB j HL.out (by omega)
      have heq := equal_sha
      clear bA B2 C2 hj hjN
      have hlen : l.length = j := HL.out
      have rest : ∀ (l2 : List UInt8) (wq : World) (sz : Nat), sz = wq.heap.size → l2.length = j → IsB wq (some ⟨g, 0, none⟩) j j l2 → RC wq → Calls Tryd.prog 18 #[.slice (some ⟨sz, 0, none⟩) 1 1] (wq.alloc (.cells #[.slice (some ⟨g, 0, none⟩) j j] 26)) fun e w' => e = .returned (.agg (bcs (sha l2)).toArray) ∧ Below (wq.heap.size + 1) (wq.alloc (.cells #[.slice (some ⟨g, 0, none⟩) j j] 26)) w' := by
        intro l2 wq sz hsz h2 hI2 hR2
        subst hsz
        have := sum_any (some ⟨wq.heap.size, 0, none⟩) 1 1 [l2] _ (hR2.alloc _) (isP_one wq 26 _ _ _ l2 hI2) (by omega) (by rw [one_flat]; omega)
        rw [one_flat] at this
        exact this.mono fun e w' ⟨h3, h4⟩ => ⟨h3, by simpa using h4⟩
      have HR := Lib.hid rest
      clear rest hlen
      by_cases h0 : 0 < j
      · obtain ⟨m, hm, hmj⟩ := wth_nat a2 j h0
        have HM := Lib.hid hm
        clear hm
        go_wp2_with fail
        refine (HR.out l _ _ (by simp) HL.out hI hR).mono ?_
        rintro e w3 ⟨rfl, b3⟩
        have b3' : Below wr.heap.size wr w3 := ((Below.refl _ _).alloc (Nat.le_refl _) _).trans (b3.mono (by omega))
        have I3 := hI.past b3'
        have A3 : Ab w3 5 g l := hA.kept (b3'.block g hA.lt)
        have B3 : Below w.heap.size w w3 := hB.trans (b3'.mono hB.size)
        clear b3 b3' hA hI hR hB
        go_wp2_with fail
        refine (rsum_any _ j j l _ I3 (by omega)).mono ?_
        rintro e w4 ⟨rfl, b4⟩
        have A4 : Ab w4 5 g l := A3.kept (b4.block g A3.lt)
        have B4 : Below w.heap.size w w4 := B3.trans (b4.mono B3.size)
        clear b4 A3 I3 B3
        have tw := A4.cell m (by rw [HL.out]; exact hmj)
        have tf := A4.free m
        have lo := ub_lo (l.getD m 0)
        have hi := ub_hi (l.getD m 0)
        generalize l.getD m 0 = x at tw lo hi
        go_wp2_with fail
        refine (within2_any a2 j _ (by omega) (by omega)).mono ?_
        rintro e w' ⟨rfl, rfl⟩
        rw [show wth a2 (j : Int) = (m : Int) from HM.out]
        have l5 : 0 ≤ (ub x + a3) % 256 ∧ (ub x + a3) % 256 < 256 := by omega
        obtain ⟨l2, hl2, A5⟩ := A4.set_any m ((ub x + a3) % 256) l5.1 l5.2
        have B5 : Below w.heap.size w (w4.setCell ⟨g, m, none⟩ (.int .u8 ((ub x + a3) % 256))) := B4.setCell hg _
        have HL2 : Hid (l2.length = j) := hl2.trans HL.out
        have FIN : Hid (Ab (w4.setCell ⟨g, m, none⟩ (.int .u8 ((ub x + a3) % 256))) 5 g l2) := A5
        clear hl2 A5 l5
        go_wp2_with fail
        have I5 := Ab.isB FIN.out j HL2.out (by omega)
        refine (HR.out l2 _ _ (by simp) HL2.out I5 (hC.past B5)).mono ?_
        rintro e w6 ⟨rfl, b6⟩
        have b6' := ((Below.refl _ _).alloc (Nat.le_refl _) _).trans (b6.mono (by omega))
        have I6 := I5.past b6'
        have B6 := B5.trans (b6'.mono B5.size)
        clear b6 b6' I5 B5 FIN A4 B4 tw tf
        go_wp2_with fail
        refine (rsum_any _ j j l2 _ I6 (by omega)).mono ?_
        rintro e w7 ⟨rfl, b7⟩
        have B7 := B6.trans (b7.mono B6.size)
        clear b7 B6 I6
        go_wp2_with fail
        go_ret
        exact ⟨rfl, B7⟩
      · obtain rfl : j = 0 := by omega
        go_wp2_with fail
        refine (HR.out l _ _ (by simp) HL.out hI hR).mono ?_
        rintro e w3 ⟨rfl, b3⟩
        have b3' : Below wr.heap.size wr w3 := ((Below.refl _ _).alloc (Nat.le_refl _) _).trans (b3.mono (by omega))
        have I3 := hI.past b3'
        have B3 : Below w.heap.size w w3 := hB.trans (b3'.mono hB.size)
        have R3 : RC w3 := hC.past B3
        clear b3 b3' hA hI hR hB
        go_wp2_with fail
        refine (rsum_any _ 0 0 l _ I3 (by omega)).mono ?_
        rintro e w4 ⟨rfl, b4⟩
        have I4 := I3.past b4
        have B4 : Below w.heap.size w w4 := B3.trans (b4.mono B3.size)
        clear b4 I3 B3 R3
        go_wp2_with fail
        refine (HR.out l _ _ (by simp) HL.out I4 (hC.past B4)).mono ?_
        rintro e w6 ⟨rfl, b6⟩
        have b6' := ((Below.refl _ _).alloc (Nat.le_refl _) _).trans (b6.mono (by omega))
        have I6 := I4.past b6'
        have B6 := B4.trans (b6'.mono B4.size)
        clear b6 b6' I4 B4
        go_wp2_with fail
        refine (rsum_any _ 0 0 l _ I6 (by omega)).mono ?_
        rintro e w7 ⟨rfl, b7⟩
        have B7 := B6.trans (b7.mono B6.size)
        clear b7 B6 I6
        go_wp2_with fail
        go_ret
        exact ⟨rfl, B7⟩
end Go.Proofs.YtlcfjiiejmnghaaDoor
