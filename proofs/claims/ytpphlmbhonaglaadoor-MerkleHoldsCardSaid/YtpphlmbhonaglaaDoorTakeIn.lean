/-
  The contract of take, given mix's.
-/
import Derived.Test.YtpphlmbhonaglaaDoorTakeS
import Derived.Test.YtpphlmbhonaglaaDoorAbsorb
import Derived.Test.YtpphlmbhonaglaaDoorCut
import Derived.Test.YtpphlmbhonaglaaDoorReg
import Derived.Test.YtpphlmbhonaglaaDoorSchedP
import Derived.Outline
namespace Go.Proofs.YtpphlmbhonaglaaDoor
open Go.RowKit

/-- The once of a schedule: done or not. -/
def onceV (d : Bool) : List Value := [.int .u32 (if d then 1 else 0), .int .i32 0, .int .u32 0]
/-- A SUM'S BLOCK, its schedule that of its last block, where it was spread. -/
def Smo (w : World) (g : Nat) (st : List UInt32) (blk : List UInt8) (used : Nat) (len : Int) : Prop :=
  ∃ last d sch, Sm w g st blk used len last (onceV d) sch ∧ (d = true → sch = sched (words last 16) 48)
/-- What mix does, where C holds of the world. -/
def MixC (C : World → Prop) : Prop := ∀ (g : Nat) (S : St) (blk : List UInt8) (used : Nat) (len : Int) (w : World), C w → Smo w g S.l blk used len →
  Calls Tryd.prog 30 #[.pointer (some ⟨g, 0, none⟩)] w fun e w' => e = .returned (.tuple #[]) ∧ Smo w' g (S.mix blk).l blk used len ∧ w.grownBy w' (some g)
/-- A SUM ON ITS WAY LIES IN BLOCK g: the bytes m have been taken in; L is the length that it has written down. -/
def Way (w : World) (g : Nat) (m : List UInt8) (L : Int) : Prop :=
  ∃ S blk used, Taken m S blk used ∧ Smo w g S.l blk used L

theorem slice_tail (g o n : Nat) (hn : n < 64) (w : World) :
    (Instr.sliceAt 53 (.pointer (some ⟨g, o, none⟩)) (some (.int .i64 (n : Int))) none none).run Tryd.prog w = .ok (.slice (some ⟨g, o + n, none⟩) (64 - n) (64 - n)) w := by
  have hz : ∀ w', (sizeOf (Tryd.prog.elem 53)).run Tryd.prog w' = .ok 1 w' := fun w' => by kernel_rfl
  have hl : Tryd.prog.arrayLen 53 = 64 := by kernel_rfl
  rw [run_sliceAt_array_l w 53 ⟨g, o, none⟩ (by kernel_rfl) .i64 _ (by omega) (by rw [hl]; omega), hz, hl]
  simp only [Result.andThen_ok, slicedAt]
  rw [Int.toNat_natCast, if_neg (by omega), Addr.add_lit, Nat.mul_one]
theorem IsB.grown_some {w w' : World} {row : Option Nat} {ao : Option Addr} {n cap : Nat} {l : List UInt8} (h : IsB w ao n cap l) (hg : w.grownBy w' row) (hne : 0 < n → ∀ a, ao = some a → some a.block ≠ row) : IsB w' ao n cap l :=
  ⟨h.len, h.le, h.max, h.nil, fun a ha j u hu => hg.cell (h.cell a ha j u hu) (by
    have e : (a.add j).block = a.block := by unfold Addr.add; split <;> rfl
    rw [e]
    exact hne (by have := h.len; have := (List.getElem?_eq_some_iff.1 hu).1; omega) a ha)⟩
theorem sizeByte : (Tryd.prog.info? 5).map (·.size) = some 1 := by kernel_rfl

set_option maxRecDepth 100000 in
set_option maxHeartbeats 4000000 in
theorem take_in (C : World → Prop) (hmix : MixC C) (g : Nat) (hC : ∀ a b : World, C a → Below g a b → C b) (m : List UInt8) (L : Nat) (ao : Option Addr) (pn pc : Nat) (p : List UInt8) (w : World)
    (hc : C w) (h : Way w g m L) (hp : IsB w ao pn pc p) (hne : 0 < pn → ∀ a, ao = some a → a.block ≠ g) (hL : L ≤ 1000000000) (hpn : pn ≤ 1000000000) :
    Calls Tryd.prog 23 #[.pointer (some ⟨g, 0, none⟩), .slice ao pn pc] w fun e w' => e = .returned (.tuple #[]) ∧ Way w' g (m ++ p) ((L + pn : Nat) : Int) ∧ C w' ∧ w.grownBy w' (some g) := by
  obtain ⟨S, blk, used, hT, last, d, sch, hS, hd⟩ := h
  have HD := Lib.hid hd
  clear hd
  have y0 := hS.len_cell
  have tf := hS.free 73
  go_enter Tryd.func23, Tryd.ntmps23
  go_wp2_with fail
  have hS1 := hS.set_len ((L : Int) + (pn : Int))
  have g1 : w.grownBy (w.setCell ⟨g, 73, none⟩ (.int .u64 ((L : Int) + (pn : Int)))) (some g) := grown_set (World.grownBy.refl _ _)
  have hgw := hS.lt
  have c1 := hC _ _ hc (gbelow g1 (Nat.le_of_lt hgw))
  have p1 : IsB (w.setCell ⟨g, 73, none⟩ (.int .u64 ((L : Int) + (pn : Int)))) ao pn pc p := hp.grown_some g1 (fun h0 a ha => by simp; exact hne h0 a ha)
  have W1 : Way (w.setCell ⟨g, 73, none⟩ (.int .u64 ((L : Int) + (pn : Int)))) g (m ++ []) ((L : Int) + (pn : Int)) := ⟨S, blk, used, by rw [List.append_nil]; exact hT, last, d, sch, hS1, HD.out⟩
  clear y0 tf hS hS1 hT hp hc HD
  go_loopw [1] (fun v wq => ∃ (q r : List UInt8) (ao' : Option Addr) (rn rc : Nat), Hid (p = q ++ r) ∧ v = .slice ao' rn rc ∧ IsB wq ao' rn rc r ∧ (0 < rn → ∀ a, ao' = some a → a.block ≠ g) ∧ Way wq g (m ++ q) ((L : Int) + (pn : Int)) ∧ C wq ∧ w.grownBy wq (some g)) (fun v _ => match v with | .slice _ n _ => n | _ => 0)
  case atStart => exact ⟨[], p, ao, pn, pc, rfl, rfl, p1, hne, W1, c1, g1⟩
  case round =>
    clear p1 W1 c1 g1
    obtain ⟨q, r, ao', rn, rc, HP, rfl, hr, hne', hW, hc, hg⟩ := hrel
    by_cases hrn : 0 < rn
    · obtain ⟨S, blk, used, hT, last, d, sch, hS, hd⟩ := hW
      have HD := Lib.hid hd
      clear hd
      have hu : used < 64 := by have := hT.hused; omega
      have hrl := hr.len
      obtain ⟨c, hcc⟩ : ∃ c, c = min rn (64 - used) := ⟨_, rfl⟩
      obtain ⟨ao2, hcut, hr2, hblk⟩ := IsB_cut (P := Tryd.prog) (t := 36) hr (by kernel_rfl) (fun w' => by kernel_rfl) c (by omega)
      obtain ⟨uc, huc⟩ : ∃ uc, uc = used + c := ⟨_, rfl⟩
      have hadd : (used : Int) + (c : Int) = (uc : Int) := by omega
      have HC := Lib.hid hcc
      have HUC := Lib.hid huc
      have HRL := Lib.hid hrl
      have hc1 : 1 ≤ c ∧ c ≤ rn ∧ uc ≤ 64 := by omega
      clear hcc huc hrl
      have y72 := hS.used_cell
      have hsl := slice_tail g 8 used hu
      go_wp2_with fail
      go_region_held3 (fun w' => w'.cell? ⟨g, 72, none⟩ = some (.int .i64 used)) (first | go_keep | exact y72 | exact hS2.used_cell) ((refine step_copy_sm rfl (.tmp 25) (.tmp 26) 36 36 (by rfl) 5 byteTy.ht sizeByte g S.l blk used _ last _ _ (hS.kept (w' := wr.drew) rfl) used hu (by rfl) ao' rn rc r (by rfl) hr.drew hrn c HC.out ?_; intro w2 hS2 hg2))
      have hg3 : w.grownBy w2 (some g) := grown_both hg hg2
      have hr3 : IsB w2 ao2 (rn - c) (rc - c) (r.drop c) := hr2.grown_some (row := some g) ⟨hg2.os, hg2.tape, hg2.output, hg2.size, hg2.block⟩ (fun _ a2 h2 e => by
        obtain ⟨a1, h1, e1⟩ := hblk a2 h2
        exact hne' hrn a1 h1 (by rw [← e1]; exact Option.some.inj e))
      have hne3 : ∀ a2, ao2 = some a2 → a2.block ≠ g := fun a2 h2 => by obtain ⟨a1, h1, e1⟩ := hblk a2 h2; rw [e1]; exact hne' hrn a1 h1
      have hgr : g ≤ wr.heap.size := Nat.le_trans (Nat.le_of_lt hgw) hg.size
      have c2 := hC _ _ hc (gbelow (show wr.grownBy w2 (some g) from ⟨hg2.os, hg2.tape, hg2.output, hg2.size, hg2.block⟩) hgr)
      have hg2s : g ≤ w2.heap.size := Nat.le_trans hgr hg2.size
      have HP2 : Hid (p = (q ++ r.take c) ++ r.drop c) := by unfold Hid; rw [HP.out, List.append_assoc, List.take_append_drop]
      have htl : (r.take c).length = c := by rw [List.length_take, HRL.out]; omega
      have HTL := Lib.hid htl
      clear htl y72 hsl hr hblk hne' hr2 hg2
      have y72 := hS2.used_cell
      have tf72 := hS2.free 72
      have hS3 := hS2.set_used uc
      have gg : w2.grownBy (w2.setCell ⟨g, 72, none⟩ (.int .i64 (uc : Int))) (some g) := grown_set (World.grownBy.refl _ _)
      have c3 := hC _ _ c2 (gbelow gg hg2s)
      by_cases hf : uc = 64
      · have hfb : ((uc : Int) == 64) = true := by simp [hf]
        have hT2 := hT.full (r.take c) (by rw [HTL.out, ← HUC.out]; exact hf)
        have HBL : Hid (blk.take used ++ r.take c ++ blk.drop (used + c) = blk.take used ++ r.take c) := by
          unfold Hid
          rw [List.drop_of_length_le (by rw [← HUC.out, hf, hS.l2]; exact Nat.le_refl _), List.append_nil]
        rw [HBL.out] at hS3
        clear hS hS2 hf
        go_wp2_with (go_at_call 30; refine (hmix g S _ uc _ _ c3 ⟨last, d, sch, hS3, HD.out⟩).mono ?_; rintro e w4 ⟨rfl, ⟨last4, d4, sch4, hS4, hd4⟩, hg4⟩; have HD4 := Lib.hid hd4; clear hd4; have y4 := hS4.used_cell; have tf4 := hS4.free 72; have hS5 := hS4.set_used 0)
        go_roundw
        case rel =>
          have G := grown_then gg (grown_set (i := 72) (v := .int .i64 0) hg4)
          refine ⟨q ++ r.take c, r.drop c, ao2, rn - c, rc - c, HP2, rfl, hr3.grown G (fun a2 h2 e => hne3 a2 h2 (Option.some.inj e)), fun _ => hne3, ⟨S.mix (blk.take used ++ r.take c), _, 0, ?_, _, _, _, hS5, HD4.out⟩, hC _ _ c2 (gbelow G hg2s), grown_then hg3 G⟩
          rw [← List.append_assoc]
          exact hT2 _
        case measure => simp; omega
      · have hfb : ((uc : Int) == 64) = false := by simp; omega
        have hT2 := hT.more (r.take c) hS.l2 (by rw [HTL.out, ← HUC.out]; omega)
        rw [HTL.out, ← HUC.out] at hT2
        rw [← HUC.out] at hS3
        go_wp2_with fail
        go_roundw
        case rel =>
          refine ⟨q ++ r.take c, r.drop c, ao2, rn - c, rc - c, HP2, rfl, hr3.grown gg (fun a2 h2 e => hne3 a2 h2 (Option.some.inj e)), fun _ => hne3, ⟨S, _, uc, ?_, _, _, _, hS3, HD.out⟩, c3, grown_then hg3 gg⟩
          rw [← List.append_assoc]
          exact hT2
        case measure => simp; omega
    · obtain rfl : rn = 0 := by omega
      have hr0 : r = [] := List.eq_nil_of_length_eq_zero hr.len
      have HQ : p = q := by rw [HP.out, hr0, List.append_nil]
      rw [← HQ] at hW
      clear HP HQ
      go_wp2_with fail
      go_end0
      exact ⟨rfl, hW, hc, hg⟩
end Go.Proofs.YtpphlmbhonaglaaDoor
