/-
  The contract of pad, given mix's.
-/
import Derived.Test.YtpphlmbhonaglaaDoorTakeIn
import Derived.Test.YtpphlmbhonaglaaDoorStep
import Derived.Outline
namespace Go.Proofs.YtpphlmbhonaglaaDoor
open Go.RowKit

/-- 'make([]byte, N)'. -/
theorem wpList_make_zeros {P : Program} {w : World} {ops : Array Oper} {rest : List Oper} {o : Oper} {a : Act} {Q : Exit → Act → World → Prop} (hgd : o.guard = none) (l c : Operand) (t : TypeId)
    (ho : o.op = Op.makeSlice t l c) (e : TypeId) (hB : ByteTy P t e) (kl kc : IntKind) (L C : Int) (N : Nat) (hl : a.eval l = .int kl L) (hc : a.eval c = .int kc C) (hL : L = (N : Int)) (hC : C = (N : Int)) (hN : N ≤ 1000000)
    (hK : ∀ w' g, IsB w' (some ⟨g, 0, none⟩) N N (List.replicate N 0) → Below w.heap.size w w' → w.heap.size ≤ g → wpList P ops Q rest (a.put o.dst (.slice (some ⟨g, 0, none⟩) N N)) w') :
    wpList P ops Q (o :: rest) a w := by
  obtain ⟨i, hi, hz, hsize, hby⟩ := hB.info
  refine wpList_make_full w hgd l c t ho w.heap.size e i (.int .u8 0) 1 hB.ht hi hz hsize kl kc L C N hl hc hL hC (by rw [hby]; omega) (by unfold maxLen; omega) (Nat.le_refl _) fun w' hown hgr => ?_
  refine hK w' _ ?_ ((Below.refl _ w).grown hgr (Nat.le_refl _) (fun k h => by cases h)) (Nat.le_refl _)
  rcases hown.2 with ⟨h, _⟩ | ⟨g, cap, cur, hv, _, hg, hnc, hcm, hcs, htake⟩
  · cases h
  · simp only [Value.slice.injEq, Option.some.injEq, Addr.mk.injEq, and_true] at hv
    obtain ⟨rfl, _, rfl⟩ := hv
    rw [Nat.mul_one] at htake hcs
    refine OwnB.isB (e := e) ⟨by simp, Nat.le_refl _, hcm, cur, hg, hcs, ?_⟩
    rw [htake]
    show (madeCells #[Value.int .u8 0] N).toList = _
    rw [toList_madeCells_one]
    simp [bcs, bc]

/-- The eight bytes that say how long, the first k of them. -/
def fill8 (x : Nat) : Nat → List UInt8
  | 0 => List.replicate 8 0
  | k + 1 => (fill8 x k).set k (UInt8.ofNat (x / 256 ^ (7 - k)))
theorem fill8_length (x : Nat) : ∀ k, (fill8 x k).length = 8
  | 0 => rfl
  | k + 1 => by rw [fill8, List.length_set, fill8_length x k]
theorem fill8_all (x : Nat) : fill8 x 8 = be 8 x := by kernel_rfl
theorem zeroLen : (Tryd.prog.info? 74).map (fun i => i.zero) = some (some (.agg (bcs (List.replicate 8 0)).toArray)) := by kernel_rfl
theorem isB_one (w : World) (v : Value) (b : UInt8) (e : TypeId) (hv : v = bc b) : IsB (w.alloc (.cells #[v] e)) (some ⟨w.heap.size, 0, none⟩) 1 1 [b] := isB_lit w #[v] e [b] 1 (by rw [hv]; rfl) rfl (by omega)
theorem grown_alloc {w a : World} {r : Option Nat} {o : Obj} (h : w.grownBy a r) : w.grownBy (a.alloc o) r :=
  ⟨h.os, h.tape, h.output, by have := h.size; simp; omega, fun k hk hne => by
    have := h.size
    rw [Below.heap_alloc _ _ _ (by omega), h.block k hk hne]⟩
theorem below_gr {w a : World} {r : Option Nat} (h : Below w.heap.size w a) : w.grownBy a r := ⟨h.os, h.tape, h.output, h.size, fun k hk _ => h.block k hk⟩
theorem pad_byte (n r : Nat) : 8 * (n : Int) / 2 ^ (8 * r) % 256 = ub (UInt8.ofNat (8 * n / 256 ^ r)) := by
  have e : (2 : Int) ^ (8 * r) = ((256 ^ r : Nat) : Int) := by rw [Int.pow_mul]; simp
  have e2 : 8 * (n : Int) = ((8 * n : Nat) : Int) := by omega
  unfold ub
  rw [e, e2, ← Int.natCast_ediv, UInt8.toNat_ofNat']
  omega
theorem Ab.isB {w : World} {t : TypeId} {g : Nat} {l : List UInt8} (h : Ab w t g l) (n : Nat) (hn : l.length = n) (hn2 : n ≤ 1000000) : IsB w (some ⟨g, 0, none⟩) n n l :=
  ⟨hn, Nat.le_refl _, by unfold maxLen; omega, (fun h => by cases h), fun a ha j x hx => by
    obtain rfl := Option.some.inj ha
    have hj : j < l.length := (List.getElem?_eq_some_iff.1 hx).1
    rw [Addr.add_lit, Nat.zero_add, h.cell j hj]
    simp [bc, ub, List.getD, hx]⟩
theorem Way.kept {w w' : World} {g : Nat} {m : List UInt8} {L : Int} (h : Way w g m L) (k : w'.heap[g]? = w.heap[g]?) : Way w' g m L := by
  obtain ⟨S, blk, used, hT, last, d, sch, hS, hd⟩ := h
  exact ⟨S, blk, used, hT, last, d, sch, hS.kept k, hd⟩
theorem Way.lt {w : World} {g : Nat} {m : List UInt8} {L : Int} (h : Way w g m L) : g < w.heap.size := by
  obtain ⟨S, blk, used, hT, last, d, sch, hS, hd⟩ := h
  exact hS.lt

set_option maxRecDepth 100000 in
set_option maxHeartbeats 4000000 in
theorem pad_in (C : World → Prop) (hmix : MixC C) (g : Nat) (hC : ∀ a b : World, C a → Below g a b → C b) (m : List UInt8) (n : Nat) (w : World)
    (hc : C w) (h : Way w g m n) (hn : m.length = n) (hn2 : n ≤ 1000000) :
    Calls Tryd.prog 24 #[.pointer (some ⟨g, 0, none⟩)] w fun e w' => e = .returned (.tuple #[]) ∧ (∃ L, Way w' g (padded m) L) ∧ Below g w w' := by
  have HN := Lib.hid hn
  clear hn
  have hgw := h.lt
  obtain ⟨S, blk, used, hT, last, d, sch, hS, hd⟩ := id h
  clear hd
  have y0 := hS.len_cell
  go_enter Tryd.func24, Tryd.ntmps24
  go_wp2_with fail
  refine (take_in C hmix g hC m n _ 1 1 [128] _ (hC _ _ hc ((Below.refl g _).alloc (Nat.le_of_lt hgw) _)) (h.kept (Below.heap_alloc _ _ _ hgw)) (isB_one w _ 128 5 rfl) (fun _ a ha => by cases ha; exact fun e => absurd e (by simp; omega)) (by omega) (by omega)).mono ?_
  rintro e w1 ⟨rfl, W1, c1, g1⟩
  have gA : Below g w w1 := ((Below.refl g _).alloc (Nat.le_of_lt hgw) _).trans (gbelow g1 (by simp; omega))
  have hg1 := W1.lt
  obtain ⟨S1, blk1, used1, hT1, last1, d1, sch1, hS1, hd1⟩ := id W1
  clear hd1
  have hu1 : used1 = (n + 1) % 64 := by have := hT1.hused; rw [List.length_append, HN.out] at this; exact this
  obtain ⟨Z, hZ⟩ : ∃ Z, Z = (119 - n % 64) % 64 := ⟨_, rfl⟩
  have eZ : (120 - (used1 : Int)) % 64 = (Z : Int) := by omega
  have hu2 : used1 ≤ 63 := by omega
  have hZ63 : Z ≤ 63 := by omega
  have HZ := Lib.hid hZ
  have y1 := hS1.used_cell
  clear hZ hu1 y0 hS hT hc h g1
  go_wp2_with (at_make; refine wpList_make_zeros rfl _ _ 36 rfl 5 byteTy .i64 .i64 _ _ Z rfl rfl eZ eZ (by omega) ?_; intro w2 gz hz b2 q2)
  refine (take_in C hmix g hC (m ++ [128]) (n + 1) _ Z Z (List.replicate Z 0) _ (hC _ _ c1 (b2.mono (Nat.le_of_lt hg1))) (W1.kept (b2.block g hg1)) hz (fun _ a ha e => by cases ha; simp at e; omega) (by omega) (by omega)).mono ?_
  rintro e w3 ⟨rfl, W3, c3, g3⟩
  have gB : Below g w w3 := (gA.trans (b2.mono (Nat.le_of_lt hg1))).trans (gbelow g3 (Nat.le_trans (Nat.le_of_lt hg1) b2.size))
  have hg3 := W3.lt
  clear y1 hS1 hT1 W1 c1 gA hz b2 q2 g3 eZ
  go_wp2_with (with_reducible refine wpList_alloc_blk rfl 74 rfl _ zeroLen ?_; intro w4 gl h4 b4 q4)
  have hgl : g < gl := Nat.lt_of_lt_of_le hg3 q4
  have W4 := W3.kept (b4.block g hg3)
  have gC : Below g w w4 := gB.trans (b4.mono (Nat.le_of_lt hg3))
  have c4 := hC _ _ c3 (b4.mono (Nat.le_of_lt hg3))
  have A4 : Ab w4 74 gl (fill8 (8 * n) 0) := h4.out
  clear h4 b4 q4 gB c3 W3
  go_loopw [22] (fun i wq => ∃ k : Nat, k ≤ 8 ∧ i = .int .i64 k ∧ Ab wq 74 gl (fill8 (8 * n) k) ∧ Below gl w4 wq) (fun i _ => 8 - (intOf i).toNat)
  case atStart => exact ⟨0, Nat.zero_le _, rfl, A4, Below.refl _ _⟩
  case round =>
    clear A4
    obtain ⟨k, hk, rfl, hA, bA⟩ := hrel
    by_cases hk8 : k < 8
    · obtain ⟨r, hr⟩ : ∃ r : Nat, k + r = 7 := ⟨7 - k, by omega⟩
      have er : 56 - 8 * (k : Int) = 8 * (r : Int) := by omega
      have HF : Hid (fill8 (8 * n) (k + 1) = (fill8 (8 * n) k).set k (UInt8.ofNat (8 * n / 256 ^ r))) := by
        unfold Hid
        rw [fill8, show 7 - k = r by omega]
      have hr7 : r ≤ 7 := by omega
      have k8 : (k : Int) < 8 := by omega
      have tw := hA.cell k (by rw [fill8_length]; exact hk8)
      have tf := hA.free k
      clear hr
      go_wp2_with fail
      go_roundw
      case rel =>
        refine ⟨k + 1, by omega, by go_num, ?_, bA.setCell (Nat.le_refl _) _⟩
        rw [HF.out, pad_byte]
        exact hA.set k _
      case measure => simp [intOf]; omega
    · obtain rfl : k = 8 := by omega
      have hlast : IsB wr (some ⟨gl, 0, none⟩) 8 8 (be 8 (8 * n)) := by
        rw [← fill8_all]
        exact hA.isB 8 (fill8_length _ 8) (by omega)
      have W5 := W4.kept (bA.block g hgl)
      have gD : Below g w wr := gC.trans (bA.mono (Nat.le_of_lt hgl))
      have c5 := hC _ _ c4 (bA.mono (Nat.le_of_lt hgl))
      go_wp2_with fail
      refine (take_in C hmix g hC (m ++ [128] ++ List.replicate Z 0) (n + 1 + Z) _ 8 8 (be 8 (8 * n)) _ c5 W5 hlast (fun _ a ha e => by cases ha; simp at e; omega) (by omega) (by omega)).mono ?_
      rintro e w6 ⟨rfl, W6, c6, g6⟩
      go_wp2_with fail
      go_end0
      refine ⟨rfl, ⟨((n + 1 + Z + 8 : Nat) : Int), ?_⟩, gD.trans (gbelow g6 (Nat.le_of_lt W5.lt))⟩
      have e : m ++ [128] ++ List.replicate Z 0 ++ be 8 (8 * n) = padded m := by
        unfold padded padding
        rw [HN.out, ← HZ.out]
        simp
      rw [← e]
      exact W6
end Go.Proofs.YtpphlmbhonaglaaDoor
