/-
  The contract of take, given mix's.
  sync.Once of a schedule: spread, once.
  The contract of hash: the state as bytes.
  The contract of mix.
  Rows of slices of bytes (of no program).
  append to a row of the call's own, at a step of a region that draws its order.
  The contract of pad, given mix's.
-/
import Derived.Test.YtdmnjjknkcnkgaaDoorMg3
import Derived.Outline
import Derived.Test.YtdmnjjknkcnkgaaDoorMg2
import Derived.Laws.NewBlocks
import Derived.Stop.BytesEq
import Derived.Deep.MidRow
import Derived.Test.YtdmnjjknkcnkgaaDoorMg0
import Derived.Deep.RegionHeld3
import Derived.Deep.RegionLaw
namespace Go.Proofs.YtdmnjjknkcnkgaaDoor
open Go.RowKit

/-- The once of a schedule: done or not. -/
def onceV (d : Bool) : List Value := [.int .u32 (if d then 1 else 0), .int .i32 0, .int .u32 0]
/-- A SUM'S BLOCK, its schedule that of its last block, where it was spread. -/
def Smo (w : World) (g : Nat) (st : List UInt32) (blk : List UInt8) (used : Nat) (len : Int) : Prop :=
  ∃ last d sch, Sm w g st blk used len last (onceV d) sch ∧ (d = true → sch = sched (words last 16) 48)
/-- What mix does, where C holds of the world. -/
def MixC (C : World → Prop) : Prop := ∀ (g : Nat) (S : St) (blk : List UInt8) (used : Nat) (len : Int) (w : World), C w → Smo w g S.l blk used len →
  Calls Tryd.prog 66 #[.pointer (some ⟨g, 0, none⟩)] w fun e w' => e = .returned (.tuple #[]) ∧ Smo w' g (S.mix blk).l blk used len ∧ w.grownBy w' (some g)
/-- A SUM ON ITS WAY LIES IN BLOCK g: the bytes m have been taken in; L is the length that it has written down. -/
def Way (w : World) (g : Nat) (m : List UInt8) (L : Int) : Prop :=
  ∃ S blk used, Taken m S blk used ∧ Smo w g S.l blk used L

theorem slice_tail (g o n : Nat) (hn : n < 64) (w : World) :
    (Instr.sliceAt 106 (.pointer (some ⟨g, o, none⟩)) (some (.int .i64 (n : Int))) none none).run Tryd.prog w = .ok (.slice (some ⟨g, o + n, none⟩) (64 - n) (64 - n)) w := by
  have hz : ∀ w', (sizeOf (Tryd.prog.elem 106)).run Tryd.prog w' = .ok 1 w' := fun w' => by kernel_rfl
  have hl : Tryd.prog.arrayLen 106 = 64 := by kernel_rfl
  rw [run_sliceAt_array_l w 106 ⟨g, o, none⟩ (by kernel_rfl) .i64 _ (by omega) (by rw [hl]; omega), hz, hl]
  simp only [Result.andThen_ok, slicedAt]
  rw [Int.toNat_natCast, if_neg (by omega), Addr.add_lit, Nat.mul_one]
theorem IsB.grown_some {w w' : World} {row : Option Nat} {ao : Option Addr} {n cap : Nat} {l : List UInt8} (h : IsB w ao n cap l) (hg : w.grownBy w' row) (hne : 0 < n → ∀ a, ao = some a → some a.block ≠ row) : IsB w' ao n cap l :=
  ⟨h.len, h.le, h.max, h.nil, fun a ha j u hu => hg.cell (h.cell a ha j u hu) (by
    have e : (a.add j).block = a.block := by unfold Addr.add; split <;> rfl
    rw [e]
    exact hne (by have := h.len; have := (List.getElem?_eq_some_iff.1 hu).1; omega) a ha)⟩
theorem sizeByte : (Tryd.prog.info? 5).map (·.size) = some 1 := by kernel_rfl

set_option maxRecDepth 100000 in
set_option maxHeartbeats 4000000 in
theorem take_in (C : World → Prop) (hmix : MixC C) (g : Nat) (hC : ∀ a b : World, C a → Below g a b → C b) (m : List UInt8) (L : Nat) (ao : Option Addr) (pn pc : Nat) (p : List UInt8) (w : World)
    (hc : C w) (h : Way w g m L) (hp : IsB w ao pn pc p) (hne : 0 < pn → ∀ a, ao = some a → a.block ≠ g) (hL : L ≤ 1000000000) (hpn : pn ≤ 1000000000) :
    Calls Tryd.prog 53 #[.pointer (some ⟨g, 0, none⟩), .slice ao pn pc] w fun e w' => e = .returned (.tuple #[]) ∧ Way w' g (m ++ p) ((L + pn : Nat) : Int) ∧ C w' ∧ w.grownBy w' (some g) := by
  obtain ⟨S, blk, used, hT, last, d, sch, hS, hd⟩ := h
  have HD := Lib.hid hd
  clear hd
  have y0 := hS.len_cell
  have tf := hS.free 73
  go_enter Tryd.func53, Tryd.ntmps53
  go_wp2_with fail
  have hS1 := hS.set_len ((L : Int) + (pn : Int))
  have g1 : w.grownBy (w.setCell ⟨g, 73, none⟩ (.int .u64 ((L : Int) + (pn : Int)))) (some g) := grown_set (World.grownBy.refl _ _)
  have hgw := hS.lt
  have c1 := hC _ _ hc (gbelow g1 (Nat.le_of_lt hgw))
  have p1 : IsB (w.setCell ⟨g, 73, none⟩ (.int .u64 ((L : Int) + (pn : Int)))) ao pn pc p := hp.grown_some g1 (fun h0 a ha => by simp; exact hne h0 a ha)
  have W1 : Way (w.setCell ⟨g, 73, none⟩ (.int .u64 ((L : Int) + (pn : Int)))) g (m ++ []) ((L : Int) + (pn : Int)) := ⟨S, blk, used, by rw [List.append_nil]; exact hT, last, d, sch, hS1, HD.out⟩
  clear y0 tf hS hS1 hT hp hc HD
  go_loopw [1] (fun v wq => ∃ (q r : List UInt8) (ao' : Option Addr) (rn rc : Nat), Hid (p = q ++ r) ∧ v = .slice ao' rn rc ∧ IsB wq ao' rn rc r ∧ (0 < rn → ∀ a, ao' = some a → a.block ≠ g) ∧ Way wq g (m ++ q) ((L : Int) + (pn : Int)) ∧ C wq ∧ w.grownBy wq (some g)) (fun v _ => match v with | .slice _ n _ => n | _ => 0)
  case atStart => exact ⟨[], p, ao, pn, pc, rfl, rfl, p1, hne, W1, c1, g1⟩
  case round =>
    clear p1 W1 c1 g1
    obtain ⟨q, r, ao', rn, rc, HP, rfl, hr, hne', hW, hc, hg⟩ := hrel
    by_cases hrn : 0 < rn
    · obtain ⟨S, blk, used, hT, last, d, sch, hS, hd⟩ := hW
      have HD := Lib.hid hd
      clear hd
      have hu : used < 64 := by have := hT.hused; omega
      have hrl := hr.len
      obtain ⟨c, hcc⟩ : ∃ c, c = min rn (64 - used) := ⟨_, rfl⟩
      obtain ⟨ao2, hcut, hr2, hblk⟩ := IsB_cut (P := Tryd.prog) (t := 44) hr (by kernel_rfl) (fun w' => by kernel_rfl) c (by omega)
      obtain ⟨uc, huc⟩ : ∃ uc, uc = used + c := ⟨_, rfl⟩
      have hadd : (used : Int) + (c : Int) = (uc : Int) := by omega
      have HC := Lib.hid hcc
      have HUC := Lib.hid huc
      have HRL := Lib.hid hrl
      have hc1 : 1 ≤ c ∧ c ≤ rn ∧ uc ≤ 64 := by omega
      clear hcc huc hrl
      have y72 := hS.used_cell
      have hsl := slice_tail g 8 used hu
      go_wp2_with fail
      go_region_held3 (fun w' => w'.cell? ⟨g, 72, none⟩ = some (.int .i64 used)) (first | go_keep | exact y72 | exact hS2.used_cell) ((refine step_copy_sm rfl (.tmp 25) (.tmp 26) 44 44 (by rfl) 5 byteTy.ht sizeByte g S.l blk used _ last _ _ (hS.kept (w' := wr.drew) rfl) used hu (by rfl) ao' rn rc r (by rfl) hr.drew hrn c HC.out ?_; intro w2 hS2 hg2))
      have hg3 : w.grownBy w2 (some g) := grown_both hg hg2
      have hr3 : IsB w2 ao2 (rn - c) (rc - c) (r.drop c) := hr2.grown_some (row := some g) ⟨hg2.os, hg2.tape, hg2.output, hg2.size, hg2.block⟩ (fun _ a2 h2 e => by
        obtain ⟨a1, h1, e1⟩ := hblk a2 h2
        exact hne' hrn a1 h1 (by rw [← e1]; exact Option.some.inj e))
      have hne3 : ∀ a2, ao2 = some a2 → a2.block ≠ g := fun a2 h2 => by obtain ⟨a1, h1, e1⟩ := hblk a2 h2; rw [e1]; exact hne' hrn a1 h1
      have hgr : g ≤ wr.heap.size := Nat.le_trans (Nat.le_of_lt hgw) hg.size
      have c2 := hC _ _ hc (gbelow (show wr.grownBy w2 (some g) from ⟨hg2.os, hg2.tape, hg2.output, hg2.size, hg2.block⟩) hgr)
      have hg2s : g ≤ w2.heap.size := Nat.le_trans hgr hg2.size
      have HP2 : Hid (p = (q ++ r.take c) ++ r.drop c) := by unfold Hid; rw [HP.out, List.append_assoc, List.take_append_drop]
      have htl : (r.take c).length = c := by rw [List.length_take, HRL.out]; omega
      have HTL := Lib.hid htl
      clear htl y72 hsl hr hblk hne' hr2 hg2
      have y72 := hS2.used_cell
      have tf72 := hS2.free 72
      have hS3 := hS2.set_used uc
      have gg : w2.grownBy (w2.setCell ⟨g, 72, none⟩ (.int .i64 (uc : Int))) (some g) := grown_set (World.grownBy.refl _ _)
      have c3 := hC _ _ c2 (gbelow gg hg2s)
      by_cases hf : uc = 64
      · have hfb : ((uc : Int) == 64) = true := by simp [hf]
        have hT2 := hT.full (r.take c) (by rw [HTL.out, ← HUC.out]; exact hf)
        have HBL : Hid (blk.take used ++ r.take c ++ blk.drop (used + c) = blk.take used ++ r.take c) := by
          unfold Hid
          rw [List.drop_of_length_le (by rw [← HUC.out, hf, hS.l2]; exact Nat.le_refl _), List.append_nil]
        rw [HBL.out] at hS3
        clear hS hS2 hf
        go_wp2_with (go_at_call 66; refine (hmix g S _ uc _ _ c3 ⟨last, d, sch, hS3, HD.out⟩).mono ?_; rintro e w4 ⟨rfl, ⟨last4, d4, sch4, hS4, hd4⟩, hg4⟩; have HD4 := Lib.hid hd4; clear hd4; have y4 := hS4.used_cell; have tf4 := hS4.free 72; have hS5 := hS4.set_used 0)
        go_roundw
        case rel =>
          have G := grown_then gg (grown_set (i := 72) (v := .int .i64 0) hg4)
          refine ⟨q ++ r.take c, r.drop c, ao2, rn - c, rc - c, HP2, rfl, hr3.grown G (fun a2 h2 e => hne3 a2 h2 (Option.some.inj e)), fun _ => hne3, ⟨S.mix (blk.take used ++ r.take c), _, 0, ?_, _, _, _, hS5, HD4.out⟩, hC _ _ c2 (gbelow G hg2s), grown_then hg3 G⟩
          rw [← List.append_assoc]
          exact hT2 _
        case measure => simp; omega
      · have hfb : ((uc : Int) == 64) = false := by simp; omega
        have hT2 := hT.more (r.take c) hS.l2 (by rw [HTL.out, ← HUC.out]; omega)
        rw [HTL.out, ← HUC.out] at hT2
        rw [← HUC.out] at hS3
        go_wp2_with fail
        go_roundw
        case rel =>
          refine ⟨q ++ r.take c, r.drop c, ao2, rn - c, rc - c, HP2, rfl, hr3.grown gg (fun a2 h2 e => hne3 a2 h2 (Option.some.inj e)), fun _ => hne3, ⟨S, _, uc, ?_, _, _, _, hS3, HD.out⟩, c3, grown_then hg3 gg⟩
          rw [← List.append_assoc]
          exact hT2
        case measure => simp; omega
    · obtain rfl : rn = 0 := by omega
      have hr0 : r = [] := List.eq_nil_of_length_eq_zero hr.len
      have HQ : p = q := by rw [HP.out, hr0, List.append_nil]
      rw [← HQ] at hW
      clear HP HQ
      go_wp2_with fail
      go_end0
      exact ⟨rfl, hW, hc, hg⟩
end Go.Proofs.YtdmnjjknkcnkgaaDoor
namespace Go.Proofs.YtdmnjjknkcnkgaaDoor
open Go.RowKit

def lockV : List Value := [.int .u32 0, .int .i32 1, .int .u32 0]
def halfV : List Value := [.int .u32 1, .int .i32 1, .int .u32 0]

set_option maxRecDepth 100000 in
set_option maxHeartbeats 1600000 in
theorem slow_sha (g : Nat) (st : List UInt32) (blk : List UInt8) (used : Nat) (len : Int) (last : List UInt8) (sch : List UInt32) (w : World) (h : Sm w g st blk used len last (onceV false) sch) :
    Calls Tryd.prog 42 #[.pointer (some ⟨g, 138, none⟩), .func (.func 73) #[.pointer (some ⟨g, 74, none⟩)] #[]] w fun en w' => en = .returned (.tuple #[]) ∧
      Sm w' g st blk used len last (onceV true) (sched (words last 16) 48) ∧ w.grownBy w' (some g) := by
  have c0 : w.cell? ⟨g, 138, none⟩ = some (.int .u32 0) := h.mid_cell 0 _ rfl
  have c1 : w.cell? ⟨g, 139, none⟩ = some (.int .i32 0) := h.mid_cell 1 _ rfl
  have f1 := h.free 139
  have hL : Sm (w.setCell ⟨g, 139, none⟩ (.int .i32 1)) g st blk used len last lockV sch := h.set_mid 1 (.int .i32 1) (by omega)
  have k0 : (w.setCell ⟨g, 139, none⟩ (.int .i32 1)).cell? ⟨g, 138, none⟩ = some (.int .u32 0) := hL.mid_cell 0 _ rfl
  have gL : w.grownBy (w.setCell ⟨g, 139, none⟩ (.int .i32 1)) (some g) := grown_set (World.grownBy.refl _ _)
  have hnot : ∀ (x : Bool) (w : World), (Op.unary .not (.bool x)).run Tryd.prog w = .ok (.bool (!x)) w := fun _ _ => rfl
  go_enter_defers Tryd.func42, Tryd.ntmps42
  go_wp2_with (first | (go_at_call 59; refine (lock_free ⟨g, 139, none⟩ _ (by go_simp) (by go_simp)).mono ?_; rintro e w' ⟨rfl, rfl⟩) | (go_at_call 41; refine (load_any ⟨g, 138, none⟩ 0 false rfl _ k0).mono ?_; rintro e w' ⟨rfl, rfl⟩) | (go_at_call 73; refine (spread_any g st blk used len last lockV sch _ hL).mono ?_; rintro e w2 ⟨rfl, hS, hg⟩))
  have d0 : w2.cell? ⟨g, 138, none⟩ = some (.int .u32 0) := hS.mid_cell 0 _ rfl
  have e0 := hS.free 138
  have hS2 : Sm (w2.drew.setCell ⟨g, 138, none⟩ (.int .u32 1)) g st blk used len last halfV (sched (words last 16) 48) := (hS.kept (w' := w2.drew) rfl).set_mid 0 (.int .u32 1) (by omega)
  have d1 : (w2.drew.setCell ⟨g, 138, none⟩ (.int .u32 1)).cell? ⟨g, 139, none⟩ = some (.int .i32 1) := hS2.mid_cell 1 _ rfl
  have e1 := hS2.free 139
  have g2 : w.grownBy w2 (some g) := grown_then gL hg
  have hS3 : Sm ((w2.drew.setCell ⟨g, 138, none⟩ (.int .u32 1)).setCell ⟨g, 139, none⟩ (.int .i32 0)) g st blk used len last (onceV true) (sched (words last 16) 48) := hS2.set_mid 1 (.int .i32 0) (by omega)
  go_wp2
  refine leaves_cons (f := 61) (args := #[.pointer (some ⟨g, 138, none⟩), .bool true]) (by simp) (by simp [go_sem]) ?_
  refine (store_deferred ⟨g, 138, none⟩ (.int .u32 0) .returning _ d0 e0).mono ?_
  rintro e u' w'' ⟨rfl, rfl, rfl⟩
  refine leaves_cons (f := 60) (args := #[.pointer (some ⟨g, 139, none⟩)]) (by simp [settle]) (by simp [go_sem]) ?_
  refine (unlock_deferred ⟨g, 139, none⟩ _ _ d1 e1).mono ?_
  rintro e u' w'' ⟨rfl, rfl, rfl⟩
  have hfin := And.intro hS3 (grown_set (i := 139) (v := .int .i32 0) (grown_set (i := 138) (v := .int .u32 1) (grown_drewN (n := 1) g2)))
  have HF := Lib.hid hfin
  clear hfin hS3 hS2 hS hL
  simp [Leaves, settle, results, Tryd.results42]
  exact HF.out

set_option maxRecDepth 100000 in
set_option maxHeartbeats 1600000 in
/-- '(*sync.Once).Do', not yet done. -/
theorem do_sha (g : Nat) (st : List UInt32) (blk : List UInt8) (used : Nat) (len : Int) (last : List UInt8) (sch : List UInt32) (w : World) (h : Sm w g st blk used len last (onceV false) sch) :
    Calls Tryd.prog 29 #[.pointer (some ⟨g, 138, none⟩), .func (.func 73) #[.pointer (some ⟨g, 74, none⟩)] #[]] w fun en w' => en = .returned (.tuple #[]) ∧
      Sm w' g st blk used len last (onceV true) (sched (words last 16) 48) ∧ w.grownBy w' (some g) := by
  have hnot : ∀ (x : Bool) (w : World), (Op.unary .not (.bool x)).run Tryd.prog w = .ok (.bool (!x)) w := fun _ _ => rfl
  have h1 : w.cell? ⟨g, 138, none⟩ = some (.int .u32 0) := h.mid_cell 0 _ rfl
  go_enter Tryd.func29, Tryd.ntmps29
  go_wp2_with (first | (go_at_call 42; refine (slow_sha g st blk used len last sch _ h).mono ?_; rintro e w2 ⟨rfl, hS, hg⟩) | (go_at_call 41; refine (load_any ⟨g, 138, none⟩ 0 false rfl _ h1).mono ?_; rintro e w' ⟨rfl, rfl⟩))
  go_end0
  exact ⟨rfl, hS, hg⟩

set_option maxRecDepth 100000 in
set_option maxHeartbeats 1600000 in
/-- '(*sync.Once).Do', done already. -/
theorem do_sha_done (g : Nat) (fv : Value) (st : List UInt32) (blk : List UInt8) (used : Nat) (len : Int) (last : List UInt8) (sch : List UInt32) (w : World) (h : Sm w g st blk used len last (onceV true) sch) :
    Calls Tryd.prog 29 #[.pointer (some ⟨g, 138, none⟩), fv] w fun en w' => en = .returned (.tuple #[]) ∧ w = w' := by
  have hnot : ∀ (x : Bool) (w : World), (Op.unary .not (.bool x)).run Tryd.prog w = .ok (.bool (!x)) w := fun _ _ => rfl
  have h1 : w.cell? ⟨g, 138, none⟩ = some (.int .u32 1) := h.mid_cell 0 _ rfl
  go_enter Tryd.func29, Tryd.ntmps29
  go_wp2_with (go_at_call 41; refine (load_any ⟨g, 138, none⟩ 1 true rfl _ h1).mono ?_; rintro e w' ⟨rfl, rfl⟩)
  go_end0
  exact ⟨rfl, rfl⟩
/-- Either way. -/
theorem do_any (g : Nat) (st : List UInt32) (blk : List UInt8) (used : Nat) (len : Int) (last : List UInt8) (d : Bool) (sch : List UInt32) (w : World) (h : Sm w g st blk used len last (onceV d) sch) (hd : Hid (d = true → sch = sched (words last 16) 48)) :
    Calls Tryd.prog 29 #[.pointer (some ⟨g, 138, none⟩), .func (.func 73) #[.pointer (some ⟨g, 74, none⟩)] #[]] w fun en w' => en = .returned (.tuple #[]) ∧
      Sm w' g st blk used len last (onceV true) (sched (words last 16) 48) ∧ w.grownBy w' (some g) := by
  cases d with
  | false => exact do_sha g st blk used len last sch w h
  | true =>
    rw [hd.out rfl] at h
    refine (do_sha_done g (.func (.func 73) #[.pointer (some ⟨g, 74, none⟩)] #[]) st blk used len last _ w h).mono ?_
    rintro e w' ⟨rfl, rfl⟩
    exact ⟨rfl, h, World.grownBy.refl _ _⟩
end Go.Proofs.YtdmnjjknkcnkgaaDoor
namespace Go.Proofs.YtdmnjjknkcnkgaaDoor
open Go.RowKit

/-- The first k bytes of the state, and zeros. -/
def filled (st : List UInt32) : Nat → List UInt8
  | 0 => List.replicate 32 0
  | k + 1 => (filled st k).set k (byt (st.getD (k / 4) 0) (3 - k % 4))
theorem filled_length (st : List UInt32) : ∀ k, (filled st k).length = 32
  | 0 => rfl
  | k + 1 => by rw [filled, List.length_set, filled_length st k]
theorem filled_snoc (st : List UInt32) (k q r : Nat) (hr : r < 4) (hk : k = 4 * q + r) (_h : k < 32) : filled st (k + 1) = (filled st k).set k (byt (st.getD q 0) (3 - r)) := by
  rw [filled, show k / 4 = q by omega, show k % 4 = r by omega]
theorem filled_all (S : St) : filled S.l 32 = (S.l.map fun x => be 4 x.toNat).flatten := by kernel_rfl
theorem zeroHash : (Tryd.prog.info? 47).map (fun i => i.zero) = some (some (.agg (bcs (List.replicate 32 0)).toArray)) := by kernel_rfl
theorem sizeHash : (Tryd.prog.info? 47).map (·.size) = some 32 := by kernel_rfl
set_option maxRecDepth 100000 in
set_option maxHeartbeats 4000000 in
theorem hash_any (g : Nat) (st : List UInt32) (blk : List UInt8) (used : Nat) (len : Int) (last : List UInt8) (mid : List Value) (sch : List UInt32) (w : World) (h : Sm w g st blk used len last mid sch) :
    Calls Tryd.prog 55 #[.pointer (some ⟨g, 0, none⟩)] w fun e w' => e = .returned (.agg (bcs (filled st 32)).toArray) ∧ Below w.heap.size w w' := by
  go_enter Tryd.func55, Tryd.ntmps55
  go_wp2_with (first | (with_reducible refine wpList_alloc_blk (o := ⟨some 3, _, _, _, _, _⟩) rfl 47 rfl _ zeroHash ?_; intro w2 go h2 b2 q2) | (with_reducible refine wpList_alloc_blk (o := ⟨some 2, _, _, _, _, _⟩) rfl 47 rfl _ zeroHash ?_; intro w1 gr h1 b1 q1))
  have hg := h.lt
  have hgr : gr < w1.heap.size := (Array.getElem?_eq_some_iff.1 h1.out).1
  have S2 := (h.kept (b1.block g hg)).kept (b2.block g (by omega))
  have B2 := below_on b1 b2
  have R2 : Hid (w2.heap[gr]? = some (.cells (bcs (List.replicate 32 0)).toArray 47 (0, 0))) := (b2.block gr hgr).trans h1.out
  have A2 : Ab w2 47 go (filled st 0) := h2.out
  have hgo : g < go := by omega
  have hro : gr < go := by omega
  have hwr : w.heap.size ≤ gr := q1
  have hl := Lib.hid h.l1
  clear h1 b1 q1 h2 b2 q2 hg hgr
  go_loopw [5] (fun i wq => ∃ k : Nat, k ≤ 32 ∧ i = .int .i64 k ∧ Ab wq 47 go (filled st k) ∧ Below go w2 wq) (fun i _ => 32 - (intOf i).toNat)
  case atStart => exact ⟨0, Nat.zero_le _, rfl, A2, Below.refl _ _⟩
  case round =>
    clear A2
    obtain ⟨k, hk, rfl, hA, bA⟩ := hrel
    by_cases hk32 : k < 32
    · obtain ⟨q, r, hr, hkr⟩ : ∃ q r : Nat, r < 4 ∧ k = 4 * q + r := ⟨k / 4, k % 4, by omega, by omega⟩
      have hq : q < 8 := by omega
      have za := (S2.kept (bA.block g hgo)).st_cell q hq
      have HF : Hid (filled st (k + 1) = (filled st k).set k (byt (st.getD q 0) (3 - r))) := filled_snoc st k q r hr hkr hk32
      generalize st.getD q 0 = x at za HF
      have lo := u_lo x
      have hi := u_hi x
      have k32 : (k : Int) < 32 := by omega
      have e1 : (k : Int) / 4 = q := by omega
      have e2 : (k : Int) % 4 = r := by omega
      have q8 : (q : Int) < 8 := by omega
      have tw := hA.cell k (by rw [filled_length]; exact hk32)
      have tf := hA.free k
      have s0 := u_byte0
      have s1 := u_byte1
      have s2 := u_byte2
      have s3 := u_byte3
      have s4 := ub_mod
      have HK := Lib.hid hkr
      clear hkr
      obtain rfl | rfl | rfl | rfl : r = 0 ∨ r = 1 ∨ r = 2 ∨ r = 3 := by omega
      all_goals
        go_wp2_with fail
        go_roundw
        case rel => exact ⟨k + 1, by omega, by go_num, by rw [HF.out]; exact hA.set k _, bA.setCell (Nat.le_refl _) _⟩
        case measure => simp [intOf]; omega
    · obtain rfl : k = 32 := by omega
      have hAH : Hid (wr.heap[go]? = some (.cells (bcs (filled st 32)).toArray 47 (0, 0))) := hA
      have hRH : Hid (wr.heap[gr]? = some (.cells (bcs (List.replicate 32 0)).toArray 47 (0, 0))) := (bA.block gr hro).trans R2.out
      have SZ : Hid ((bcs (filled st 32)).toArray.size = 32) := by unfold Hid; simp [bcs_length, filled_length]
      clear hA hk hk32
      go_wp2_with (first
        | ((with_reducible refine wpList_load_blk rfl 47 _ rfl go _ ?_ _ hAH _ _ Tryd.underlying47 32 sizeHash SZ.out ?_); (rfl))
        | ((with_reducible refine wpList_store_blk rfl 47 _ _ rfl gr _ (bcs (filled st 32)).toArray ?_ ?_ _ hRH 32 sizeHash List.size_toArray SZ.out ?_ ?_); (rfl); (rfl); (exact bcs_all _); (intro wz hz bz)))
      have Bz := B2.trans (bA.mono (by omega))
      refine bodyPost_ret (v := .agg (bcs (filled st 32)).toArray) (results_cell_row rfl _ _ gr _ _ (0, 0) _ rfl hz.out Tryd.underlying47 rfl (sizeHash.trans (by rw [SZ.out]))) rfl ⟨rfl, ?_⟩
      exact Bz.grown bz Bz.size (fun k h => by cases h; exact hwr)
end Go.Proofs.YtdmnjjknkcnkgaaDoor
namespace Go.Proofs.YtdmnjjknkcnkgaaDoor
open Go.RowKit

theorem wpStill_load_mid {P : Program} {ops : Array Oper} {w : World} {Q : Act → Prop} {a : Act} {o : Oper} {rest : List Oper} (hgd : o.guard = none) (ty : TypeId) (x : Operand) (ho : o.op = .load ty x)
    (b i : Nat) (hx : a.eval x = .pointer (some ⟨b, i, none⟩)) (cs : List Value) (d : TypeDesc) (hc : w.rangeAt b i cs) (hu : P.underlying ty = some d) (hd : d.isRow = true) (hi : (P.info? ty).map (·.size) = some cs.length)
    (h : wpStill P ops w Q rest (a.put o.dst (.agg cs.toArray))) : wpStill P ops w Q (o :: rest) a := by
  have hw : Region.wanted o (yielded ops a.tmps) = true := by simp [Region.wanted, hgd]
  simp only [wpStill]
  rw [if_pos hw]
  unfold Oper.still execOp
  simp only [ho, hx, Instr.loadAt, Instr.sureAddr, Sem.run_bind, Sem.run_pure, Result.andThen_ok, run_loadVar_mid w b i ty cs d hc hu hd hi, Oper.stillUpon]
  exact ⟨trivial, h⟩
theorem foldl_set (off : Nat) : ∀ (l : List Value) (k : Nat) (cs : Array Value), off + k + l.length ≤ cs.size →
    ((l.zipIdx k).foldl (fun cs (x : Value × Nat) => cs.setIfInBounds (off + x.2) x.1) cs).toList = cs.toList.take (off + k) ++ l ++ cs.toList.drop (off + k + l.length)
  | [], k, cs, _ => by simp
  | v :: l, k, cs, h => by
    simp only [List.length_cons] at h
    simp only [List.zipIdx_cons, List.foldl_cons]
    rw [foldl_set off l (k + 1) _ (by simp; omega)]
    simp only [Array.toList_setIfInBounds, List.length_cons]
    have hk : off + k < cs.toList.length := by simp; omega
    rw [← Nat.add_assoc, List.take_add_one, List.getElem?_set_self hk, List.take_set_of_le (Nat.le_refl _), List.drop_set_of_lt (by omega)]
    simp
    rw [show off + k + 1 + l.length = off + k + (l.length + 1) by omega]
theorem fill_one (place : Nat → Option (Nat × Nat)) (z : Array Value) (i off n : Nat) (C : List Value) (hp : place i = some (off, n)) (hn : C.length = n) (hz : off + n ≤ z.size) :
    Instr.fill place z [(i, .agg C.toArray)] = some (z.toList.take off ++ C ++ z.toList.drop (off + n)).toArray := by
  have hs : (Value.agg C.toArray).cells.size = n := by simp [Value.cells, hn]
  rw [Instr.fill, hp]
  simp only [hs]
  rw [if_neg (by simp; omega)]
  simp only [Instr.fill, Value.cells]
  congr 1
  apply Array.toList_inj.1
  have := foldl_set off C 0 z (by omega)
  simp only [Nat.add_zero, hn] at this
  rw [← this]
  simp
/-- A new schedule of a block. -/
def newSch (blk : List UInt8) : List Value := bcs blk ++ (onceV false ++ (List.replicate 64 (0 : UInt32)).map cu)
theorem newSch_length (blk : List UInt8) (h : blk.length = 64) : (newSch blk).length = 131 := by simp [newSch, bcs_length, h, onceV]
theorem newSch_one (blk : List UInt8) : (newSch blk).toArray.all (·.oneCell') = true := by
  simp only [Array.all_eq_true_iff_forall_mem, List.mem_toArray, newSch, List.mem_append]
  rintro v (hv | hv | hv)
  · exact bcs_one _ v hv
  · have : (onceV false).all (·.oneCell') = true := rfl
    exact List.all_eq_true.1 this v hv
  · obtain ⟨x, _, rfl⟩ := List.mem_map.1 hv
    rfl
theorem sch_info : (Tryd.prog.info? 108).map (fun i => i.zero) = some (some (.agg (newSch (List.replicate 64 0)).toArray)) := by kernel_rfl
theorem sch_size : (Tryd.prog.info? 108).map (·.size) = some 131 := by kernel_rfl
theorem sch_places : (match Tryd.prog.underlying 108 with | some (.struct fields) => fields.toList.mapM (fun f => (Tryd.prog.info? f.type).map fun i => (f.offset, i.size)) | _ => none) = some [(0, 64), (64, 3), (67, 64)] := by kernel_rfl
theorem built_sch (blk : List UInt8) (h : blk.length = 64) : Tryd.prog.built 108 [(0, .agg (bcs blk).toArray)] = some (newSch blk).toArray := by
  have hi := sch_info
  have hp := sch_places
  unfold Program.built
  cases h1 : Tryd.prog.info? 108 with
  | none => rw [h1] at hi; cases hi
  | some it =>
    rw [h1] at hi
    simp only [Option.map_some, Option.some.injEq] at hi
    cases h2 : Tryd.prog.underlying 108 with
    | none => rw [h2] at hp; cases hp
    | some d =>
      rw [h2] at hp
      cases d <;> try (cases hp; done)
      simp only at hp
      simp only [hi, hp]
      rw [fill_one _ _ 0 0 64 (bcs blk) rfl (by rw [bcs_length, h]) (by simp [Value.cells, newSch_length])]
      simp only [Value.cells, List.take_zero, List.nil_append]
      congr 2
/-- Part of a block that is known whole is written. -/
theorem wpList_store_in {P : Program} {ops : Array Oper} {rest : List Oper} {o : Oper} {a : Act} {w : World} {Q : Exit → Act → World → Prop} (hgd : o.guard = none) (ty : TypeId) (x y : Operand) (ho : o.op = .store ty x y)
    (g i : Nat) (cs old : List Value) (t : TypeId) (hx : a.eval x = .pointer (some ⟨g, i, none⟩)) (hy : a.eval y = .agg cs.toArray) (hg : w.heap[g]? = some (.cells old.toArray t (0, 0)))
    (n : Nat) (hi : (P.info? ty).map (·.size) = some n) (hn : cs.length = n) (hl : i + n ≤ old.length) (h1 : cs.toArray.all (·.oneCell') = true)
    (hK : ∀ w', w'.heap[g]? = some (.cells (old.take i ++ cs ++ old.drop (i + n)).toArray t (0, 0)) → w.grownBy w' (some g) → wpList P ops Q rest (a.put o.dst undef) w') : wpList P ops Q (o :: rest) a w := by
  refine wpList_plain hgd fun K hK' => ?_
  have hst := run_storeCells_at P g i t cs 0 old.toArray w hg (by simp; omega) (fun v hv => (Array.all_eq_true_iff_forall_mem.1 h1) v (by simpa using hv))
  simp only [Nat.add_zero] at hst
  have hr : (storeVar ty ⟨g, i, none⟩ (.agg cs.toArray)).run P w = .ok () (w.setRow g (old.take i ++ cs ++ old.drop (i + n)).toArray) := by
    cases hq : P.info? ty with
    | none => simp [hq] at hi
    | some ii =>
      have hs : ii.size = n := by simpa [hq] using hi
      simp [storeVar, sizeOf, typeInfo, hq, Value.cells, hs, hn, hst]
  unfold Oper.wp execOp
  simp only [ho, hx, hy, Instr.storeAt, Instr.sureAddr, Sem.run_bind, Sem.run_pure, Result.andThen_ok, hr]
  exact hK' _ _ (hK _ (setRow_heap w g _ _ _ _ hg) ⟨rfl, rfl, rfl, by simp, fun k _ hk => setRow_other w g k _ (fun e => hk (by rw [e]))⟩)
theorem Sm.renew {w w' : World} {g used : Nat} {len : Int} {st sch : List UInt32} {blk last : List UInt8} {mid : List Value} (h : Sm w g st blk used len last mid sch)
    (hw : w'.heap[g]? = some (.cells ((smL st blk used len last mid sch).take 74 ++ newSch blk ++ (smL st blk used len last mid sch).drop (74 + 131)).toArray 110 (0, 0))) :
    Sm w' g st blk used len blk (onceV false) (List.replicate 64 0) := by
  refine ⟨hw.trans ?_, h.l1, h.l2, h.l2, by simp, rfl⟩
  congr 3
  have a1 := h.l1
  have a2 := h.l2
  have a3 := h.l3
  have a4 := h.l4
  have am := h.lm
  have el : (smL st blk used len last mid sch).length = 205 := by simp [smL, bcs_length, a1, a2, a3, a4, am]
  rw [List.drop_of_length_le (by omega), List.append_nil]
  have e1 : smL st blk used len last mid sch = (st.map cu ++ (bcs blk ++ [Value.int .i64 used, Value.int .u64 len])) ++ (bcs last ++ (mid ++ sch.map cu)) := by simp [smL]
  have e2 : (st.map cu ++ (bcs blk ++ [Value.int .i64 used, Value.int .u64 len])).length = 74 := by simp [bcs_length, a1, a2]
  rw [e1, ← e2, List.take_left]
  simp [smL, newSch]
theorem Sm.blk_range {w : World} {g used : Nat} {len : Int} {st sch : List UInt32} {blk last : List UInt8} {mid : List Value} (h : Sm w g st blk used len last mid sch) : w.rangeAt g 8 (bcs blk) := fun j v hv => by
  have hj : j < blk.length := by have := (List.getElem?_eq_some_iff.1 hv).1; rwa [bcs_length] at this
  rw [h.blk_cell j (by rw [← h.l2]; exact hj), ← hv, bcs_get]
  simp [List.getD, hj, bc, ub]
theorem Sm.last_range {w : World} {g used : Nat} {len : Int} {st sch : List UInt32} {blk last : List UInt8} {mid : List Value} (h : Sm w g st blk used len last mid sch) : w.rangeAt g 74 (bcs last) := fun j v hv => by
  have hj : j < last.length := by have := (List.getElem?_eq_some_iff.1 hv).1; rwa [bcs_length] at this
  rw [h.last_cell j (by rw [← h.l3]; exact hj), ← hv, bcs_get]
  simp [List.getD, hj, bc, ub]
theorem size_blk : (Tryd.prog.info? 106).map (·.size) = some 64 := by kernel_rfl
theorem equal_blk (a b : List UInt8) (ha : a.length = 64) (hb : b.length = 64) (w : World) : (Op.equalIn 10000 106 (.agg (bcs a).toArray) (.agg (bcs b).toArray)).run Tryd.prog w = .ok (a == b) w :=
  run_equalIn_bytes w 9998 106 5 64 Tryd.underlying106 Tryd.underlying5 (fun w' => by kernel_rfl) a b ha hb
theorem idx8 (T : St) (t : Nat) (ht : t < 8) (w : World) : (Instr.index 103 (.agg #[.int .u32 (u T.a), .int .u32 (u T.b), .int .u32 (u T.c), .int .u32 (u T.d), .int .u32 (u T.e), .int .u32 (u T.f), .int .u32 (u T.g), .int .u32 (u T.h)]) (.int .i64 (t : Int))).run Tryd.prog w = .ok (.int .u32 (u (T.l.getD t 0))) w := by
  obtain rfl | rfl | rfl | rfl | rfl | rfl | rfl | rfl : t = 0 ∨ t = 1 ∨ t = 2 ∨ t = 3 ∨ t = 4 ∨ t = 5 ∨ t = 6 ∨ t = 7 := by omega
  all_goals kernel_rfl
end Go.Proofs.YtdmnjjknkcnkgaaDoor

namespace Go.Proofs.YtdmnjjknkcnkgaaDoor
open Go.RowKit

/-- THE ROUND CONSTANTS LIE IN THEIR VARIABLE. -/
def RC (w : World) : Prop := ∀ i, i < 64 → w.cell? ⟨0, i, none⟩ = some (.int .u32 (u (kk i)))
theorem RC.grown {w w' : World} {g : Nat} (h : RC w) (k : w.grownBy w' (some g)) (hg : g ≠ 0) : RC w' := fun i hi => by
  have hc := h i hi
  have hlt := World.block_lt_of_cell? w _ hc
  rw [World.cell?_of_block (w := w) (a := ⟨0, i, none⟩) (k.block _ hlt (fun e => hg (Option.some.inj e).symm))]
  exact hc
theorem RC.apart {w : World} {g : Nat} {st : List UInt32} {blk : List UInt8} {used : Nat} {len : Int} {last : List UInt8} {mid : List Value} {sch : List UInt32} (h : RC w) (hS : Sm w g st blk used len last mid sch) : g ≠ 0 := by
  rintro rfl
  have h1 := h 8 (by omega)
  have h2 := hS.blk_cell 0 (by omega)
  rw [Nat.add_zero, h1] at h2
  cases h2

set_option maxRecDepth 1000000 in
set_option maxHeartbeats 8000000 in
theorem mix_any : MixC RC := by
  intro g S blk used len w hC hSo
  obtain ⟨last, d, sch, hS, hd⟩ := hSo
  have HD := Lib.hid hd
  clear hd
  have hg0 := hC.apart hS
  have HA := Lib.hid hg0
  clear hg0
  rcases Classical.em (blk = last) with hb | hb
  · subst hb
    have he := equal_blk blk blk hS.l2 hS.l2
    rw [show (blk == blk) = true by simp] at he
    go_enter Tryd.func66, Tryd.ntmps66
    go_wp2_with fail
    refine region_all (by kernel_rfl) (by kernel_rfl) ?_
    intro w1 h1 b1
    have hS1 := hS.kept (heap_hid h1 g)
    iterate 3 still_step
    refine wpStill_load_mid rfl 106 _ rfl g 8 rfl (bcs blk) _ hS1.blk_range Tryd.underlying106 rfl (by rw [bcs_length, hS1.l2]; exact size_blk) ?_
    iterate 4 still_step
    refine wpStill_load_mid rfl 106 _ rfl g 74 rfl (bcs blk) _ hS1.last_range Tryd.underlying106 rfl (by rw [bcs_length, hS1.l3]; exact size_blk) ?_
    still_step
    refine wpStill_nil ?_
    go_wp2_with fail
    refine region_tail 8 (by kernel_rfl) (by kernel_rfl) ?_
    intro w3 h3 b3
    have hS3 := hS1.kept (heap_hid h3 g)
    simp only [List.take_succ_cons, List.take_zero, List.drop_succ_cons, List.drop_zero]
    iterate 8 still_step
    refine wpStill_nil ?_
    go_wp2_with (go_at_call 29; refine (do_any g S.l blk used len blk _ _ _ hS3 HD).mono ?_; rintro e w4 ⟨rfl, hS4, g4⟩)
    go_wp2_with fail
    have s0 : w4.cell? ⟨g, 0, none⟩ = some (.int .u32 (u S.a)) := hS4.st_cell 0 (by omega)
    have s1 : w4.cell? ⟨g, 1, none⟩ = some (.int .u32 (u S.b)) := hS4.st_cell 1 (by omega)
    have s2 : w4.cell? ⟨g, 2, none⟩ = some (.int .u32 (u S.c)) := hS4.st_cell 2 (by omega)
    have s3 : w4.cell? ⟨g, 3, none⟩ = some (.int .u32 (u S.d)) := hS4.st_cell 3 (by omega)
    have s4 : w4.cell? ⟨g, 4, none⟩ = some (.int .u32 (u S.e)) := hS4.st_cell 4 (by omega)
    have s5 : w4.cell? ⟨g, 5, none⟩ = some (.int .u32 (u S.f)) := hS4.st_cell 5 (by omega)
    have s6 : w4.cell? ⟨g, 6, none⟩ = some (.int .u32 (u S.g)) := hS4.st_cell 6 (by omega)
    have s7 : w4.cell? ⟨g, 7, none⟩ = some (.int .u32 (u S.h)) := hS4.st_cell 7 (by omega)
    go_quiet (fail)
    go_wp2_with fail
    have G4 : w.grownBy w4 (some g) := grown_then (grown_row (grown_row (World.grownBy.refl _ _) b1) b3) g4
    have hS5 := hS4.kept (w' := w4.drewN nq) rfl
    have G5 : w.grownBy (w4.drewN nq) (some g) := grown_drewN G4
    have R5 := hC.grown G5 HA.out
    clear s0 s1 s2 s3 s4 s5 s6 s7 g4
    go_loopw [2, 3, 4, 5, 6, 7, 8, 9, 84] (fun va vb vc vd ve vf vg vh i wq => ∃ (k : Nat) (T : St), k ≤ 64 ∧ Hid (T = rounds (sched (words blk 16) 48) S k) ∧ i = .int .i64 k ∧ va = .int .u32 (u T.a) ∧ vb = .int .u32 (u T.b) ∧ vc = .int .u32 (u T.c) ∧ vd = .int .u32 (u T.d) ∧ ve = .int .u32 (u T.e) ∧ vf = .int .u32 (u T.f) ∧ vg = .int .u32 (u T.g) ∧ vh = .int .u32 (u T.h) ∧ Sm wq g S.l blk used len blk (onceV true) (sched (words blk 16) 48) ∧ RC wq ∧ w.grownBy wq (some g)) (fun _ _ _ _ _ _ _ _ i _ => 64 - (intOf i).toNat)
    case atStart => exact ⟨0, S, by omega, rfl, rfl, rfl, rfl, rfl, rfl, rfl, rfl, rfl, rfl, hS5, R5, G5⟩
    case round =>
      clear hS5 R5 G5 G4
      obtain ⟨k, T, hk, HT, rfl, rfl, rfl, rfl, rfl, rfl, rfl, rfl, rfl, hQ, hR, hG⟩ := hrel
      by_cases hk64 : k < 64
      · have r1 := u_xor
        have r2 := u_and
        have r3 := u_inv
        have r4 := u_wrap
        have r5 := u_add
        have cw := hQ.sch_cell k hk64
        have cr := hR k hk64
        have k64 : (k : Int) < 64 := by omega
        go_wp2_with fail
        go_quiet ((go_at_call 74; exact Calls.quiet_of_same (turned_lit _ _ _ _ _ (by omega) (by omega) (by omega))))
        go_wp2_with (go_at_call 74; refine (turned_lit _ _ _ _ _ (by omega) (by omega) (by omega)).mono ?_; rintro e w' ⟨rfl, rfl⟩)
        go_roundw
        case rel =>
          refine ⟨k + 1, T.step (kk k) ((sched (words blk 16) 48).getD k 0), by omega, ?_, by go_num, rfl, rfl, rfl, rfl, rfl, rfl, rfl, rfl, hQ.kept rfl, fun i hi => hR i hi, grown_drewN hG⟩
          unfold Hid
          rw [rounds, ← HT.out]
        case measure => simp [intOf]; omega
      · obtain rfl : k = 64 := by omega
        have HT2 : Hid (T = rounds (sched (words blk 16) 48) S 64) := HT
        clear HT hR hk hk64
        go_wp2_with fail
        simp only [show ((64 : Nat) : Int) = 64 from rfl]
        go_loopw [150] (fun i wq => ∃ t : Nat, t ≤ 8 ∧ i = .int .i64 t ∧ Sm wq g (sums S T t) blk used len blk (onceV true) (sched (words blk 16) 48) ∧ w.grownBy wq (some g)) (fun i _ => 8 - (intOf i).toNat)
        case atStart => exact ⟨0, by omega, rfl, hQ, hG⟩
        case round =>
          clear hQ hG
          obtain ⟨t, ht, rfl, hQ, hG⟩ := hrel
          by_cases ht8 : t < 8
          · have hix := idx8 T t ht8
            have za := hQ.st_cell t ht8
            rw [sums_get S T t ht8] at za
            have HX : Hid (sums S T (t + 1) = (sums S T t).set t (S.l.getD t 0 + T.l.getD t 0)) := rfl
            generalize S.l.getD t 0 = x at za HX
            generalize T.l.getD t 0 = y at hix HX
            have t8 : (t : Int) < 8 := by omega
            have r4 := u_wrap
            have r5 := u_add
            go_wp2_with fail
            refine region_tail 11 (by kernel_rfl) (by kernel_rfl) ?_
            intro w5 h5 b5
            have hS5 := hQ.kept (heap_hid h5 g)
            replace za := cell_hid h5 za
            have tf := hS5.free t
            simp only [List.take_succ_cons, List.take_zero, List.drop_succ_cons, List.drop_zero]
            iterate 11 still_step
            refine wpStill_nil ?_
            go_wp2_with fail
            go_roundw
            case rel => exact ⟨t + 1, by omega, by go_num, by rw [HX.out]; exact hS5.set_st t _ ht8, grown_set (grown_row hG b5)⟩
            case measure => simp [intOf]; omega
          · obtain rfl : t = 8 := by omega
            have hfin : Smo wr g (S.mix blk).l blk used len := ⟨blk, true, _, by rw [St.mix, ← HT2.out, ← sums_all]; exact hQ, fun _ => rfl⟩
            clear hQ HT2
            go_wp2_with fail
            go_end0
            exact ⟨rfl, hfin, hG⟩
  · have he := equal_blk blk last hS.l2 hS.l3
    rw [show (blk == last) = false by simp [hb]] at he
    clear hb
    go_enter Tryd.func66, Tryd.ntmps66
    go_wp2_with fail
    refine region_all (by kernel_rfl) (by kernel_rfl) ?_
    intro w1 h1 b1
    have hS1 := hS.kept (heap_hid h1 g)
    iterate 3 still_step
    refine wpStill_load_mid rfl 106 _ rfl g 8 rfl (bcs blk) _ hS1.blk_range Tryd.underlying106 rfl (by rw [bcs_length, hS1.l2]; exact size_blk) ?_
    iterate 4 still_step
    refine wpStill_load_mid rfl 106 _ rfl g 74 rfl (bcs last) _ hS1.last_range Tryd.underlying106 rfl (by rw [bcs_length, hS1.l3]; exact size_blk) ?_
    still_step
    refine wpStill_nil ?_
    go_wp2_with (first
      | ((with_reducible refine wpList_load_mid rfl 106 _ rfl g 8 ?_ (bcs blk) _ hS1.blk_range Tryd.underlying106 rfl (by rw [bcs_length, hS1.l2]; exact size_blk) ?_); (rfl))
      | ((with_reducible refine wpList_build_at (o := ⟨some 32, _, _, _, _, _⟩) rfl 108 _ rfl (newSch blk).toArray ?_ ?_); (simp only [List.map_toArray, List.map_cons, List.map_nil]; exact built_sch blk hS.l2))
      | ((with_reducible refine wpList_store_in rfl 108 _ _ rfl g 74 (newSch blk) _ _ ?_ ?_ hS1.row 131 sch_size (newSch_length blk hS.l2) (by simp [smL, bcs_length, hS.l1, hS.l2, hS.l3, hS.l4, hS.lm]) (newSch_one blk) ?_); (rfl); (rfl); (intro w2 h2 g2; have hS2 := hS1.renew h2)))
    refine region_tail 8 (by kernel_rfl) (by kernel_rfl) ?_
    intro w3 h3 b3
    have hS3 := hS2.kept (heap_hid h3 g)
    simp only [List.take_succ_cons, List.take_zero, List.drop_succ_cons, List.drop_zero]
    iterate 8 still_step
    refine wpStill_nil ?_
    go_wp2_with (go_at_call 29; refine (do_any g S.l blk used len blk _ _ _ hS3 (Lib.hid (fun h => by cases h))).mono ?_; rintro e w4 ⟨rfl, hS4, g4⟩)
    go_wp2_with fail
    have s0 : w4.cell? ⟨g, 0, none⟩ = some (.int .u32 (u S.a)) := hS4.st_cell 0 (by omega)
    have s1 : w4.cell? ⟨g, 1, none⟩ = some (.int .u32 (u S.b)) := hS4.st_cell 1 (by omega)
    have s2 : w4.cell? ⟨g, 2, none⟩ = some (.int .u32 (u S.c)) := hS4.st_cell 2 (by omega)
    have s3 : w4.cell? ⟨g, 3, none⟩ = some (.int .u32 (u S.d)) := hS4.st_cell 3 (by omega)
    have s4 : w4.cell? ⟨g, 4, none⟩ = some (.int .u32 (u S.e)) := hS4.st_cell 4 (by omega)
    have s5 : w4.cell? ⟨g, 5, none⟩ = some (.int .u32 (u S.f)) := hS4.st_cell 5 (by omega)
    have s6 : w4.cell? ⟨g, 6, none⟩ = some (.int .u32 (u S.g)) := hS4.st_cell 6 (by omega)
    have s7 : w4.cell? ⟨g, 7, none⟩ = some (.int .u32 (u S.h)) := hS4.st_cell 7 (by omega)
    go_quiet (fail)
    go_wp2_with fail
    have G4 : w.grownBy w4 (some g) := grown_then (grown_row (grown_then (grown_row (World.grownBy.refl _ _) b1) g2) b3) g4
    have hS5 := hS4.kept (w' := w4.drewN nq) rfl
    have G5 : w.grownBy (w4.drewN nq) (some g) := grown_drewN G4
    have R5 := hC.grown G5 HA.out
    clear s0 s1 s2 s3 s4 s5 s6 s7 g4 g2
    go_loopw [2, 3, 4, 5, 6, 7, 8, 9, 84] (fun va vb vc vd ve vf vg vh i wq => ∃ (k : Nat) (T : St), k ≤ 64 ∧ Hid (T = rounds (sched (words blk 16) 48) S k) ∧ i = .int .i64 k ∧ va = .int .u32 (u T.a) ∧ vb = .int .u32 (u T.b) ∧ vc = .int .u32 (u T.c) ∧ vd = .int .u32 (u T.d) ∧ ve = .int .u32 (u T.e) ∧ vf = .int .u32 (u T.f) ∧ vg = .int .u32 (u T.g) ∧ vh = .int .u32 (u T.h) ∧ Sm wq g S.l blk used len blk (onceV true) (sched (words blk 16) 48) ∧ RC wq ∧ w.grownBy wq (some g)) (fun _ _ _ _ _ _ _ _ i _ => 64 - (intOf i).toNat)
    case atStart => exact ⟨0, S, by omega, rfl, rfl, rfl, rfl, rfl, rfl, rfl, rfl, rfl, rfl, hS5, R5, G5⟩
    case round =>
      clear hS5 R5 G5 G4
      obtain ⟨k, T, hk, HT, rfl, rfl, rfl, rfl, rfl, rfl, rfl, rfl, rfl, hQ, hR, hG⟩ := hrel
      by_cases hk64 : k < 64
      · have r1 := u_xor
        have r2 := u_and
        have r3 := u_inv
        have r4 := u_wrap
        have r5 := u_add
        have cw := hQ.sch_cell k hk64
        have cr := hR k hk64
        have k64 : (k : Int) < 64 := by omega
        go_wp2_with fail
        go_quiet ((go_at_call 74; exact Calls.quiet_of_same (turned_lit _ _ _ _ _ (by omega) (by omega) (by omega))))
        go_wp2_with (go_at_call 74; refine (turned_lit _ _ _ _ _ (by omega) (by omega) (by omega)).mono ?_; rintro e w' ⟨rfl, rfl⟩)
        go_roundw
        case rel =>
          refine ⟨k + 1, T.step (kk k) ((sched (words blk 16) 48).getD k 0), by omega, ?_, by go_num, rfl, rfl, rfl, rfl, rfl, rfl, rfl, rfl, hQ.kept rfl, fun i hi => hR i hi, grown_drewN hG⟩
          unfold Hid
          rw [rounds, ← HT.out]
        case measure => simp [intOf]; omega
      · obtain rfl : k = 64 := by omega
        have HT2 : Hid (T = rounds (sched (words blk 16) 48) S 64) := HT
        clear HT hR hk hk64
        go_wp2_with fail
        simp only [show ((64 : Nat) : Int) = 64 from rfl]
        go_loopw [150] (fun i wq => ∃ t : Nat, t ≤ 8 ∧ i = .int .i64 t ∧ Sm wq g (sums S T t) blk used len blk (onceV true) (sched (words blk 16) 48) ∧ w.grownBy wq (some g)) (fun i _ => 8 - (intOf i).toNat)
        case atStart => exact ⟨0, by omega, rfl, hQ, hG⟩
        case round =>
          clear hQ hG
          obtain ⟨t, ht, rfl, hQ, hG⟩ := hrel
          by_cases ht8 : t < 8
          · have hix := idx8 T t ht8
            have za := hQ.st_cell t ht8
            rw [sums_get S T t ht8] at za
            have HX : Hid (sums S T (t + 1) = (sums S T t).set t (S.l.getD t 0 + T.l.getD t 0)) := rfl
            generalize S.l.getD t 0 = x at za HX
            generalize T.l.getD t 0 = y at hix HX
            have t8 : (t : Int) < 8 := by omega
            have r4 := u_wrap
            have r5 := u_add
            go_wp2_with fail
            refine region_tail 11 (by kernel_rfl) (by kernel_rfl) ?_
            intro w5 h5 b5
            have hS5 := hQ.kept (heap_hid h5 g)
            replace za := cell_hid h5 za
            have tf := hS5.free t
            simp only [List.take_succ_cons, List.take_zero, List.drop_succ_cons, List.drop_zero]
            iterate 11 still_step
            refine wpStill_nil ?_
            go_wp2_with fail
            go_roundw
            case rel => exact ⟨t + 1, by omega, by go_num, by rw [HX.out]; exact hS5.set_st t _ ht8, grown_set (grown_row hG b5)⟩
            case measure => simp [intOf]; omega
          · obtain rfl : t = 8 := by omega
            have hfin : Smo wr g (S.mix blk).l blk used len := ⟨blk, true, _, by rw [St.mix, ← HT2.out, ← sums_all]; exact hQ, fun _ => rfl⟩
            clear hQ HT2
            go_wp2_with fail
            go_end0
            exact ⟨rfl, hfin, hG⟩
end Go.Proofs.YtdmnjjknkcnkgaaDoor
namespace Go.Proofs.YtdmnjjknkcnkgaaDoor
open Go.RowKit
/-- THE SLICE ao, n READS AS THE ROWS ps OF BYTES. -/
structure IsP (w : World) (ao : Option Addr) (n : Nat) (ps : List (List UInt8)) : Prop where
  len : ps.length = n
  has : 0 < n → ∃ a, ao = some a
  cell : ∀ a, ao = some a → ∀ j, j < n → ∃ bo bn bc, w.cell? (a.add j) = some (.slice bo bn bc) ∧ IsB w bo bn bc (ps.getD j [])
theorem IsP.past {w w' : World} {ao : Option Addr} {n : Nat} {ps : List (List UInt8)} (h : IsP w ao n ps) (hb : Below w.heap.size w w') : IsP w' ao n ps :=
  ⟨h.len, h.has, fun a ha j hj => by
    obtain ⟨bo, bn, bc, hc, hB⟩ := h.cell a ha j hj
    refine ⟨bo, bn, bc, ?_, hB.past hb⟩
    rw [hb.cell (World.block_lt_of_cell? w _ hc)]
    exact hc⟩
/-- A new row of slices of bytes. -/
theorem isP_lit (w : World) (t : TypeId) (vs : Array Value) (ps : List (List UInt8)) (n : Nat) (hn : ps.length = n) (hv : ∀ j, j < n → ∃ bo bn bc, vs[j]? = some (.slice bo bn bc) ∧ IsB w bo bn bc (ps.getD j [])) : IsP (w.alloc (.cells vs t)) (some ⟨w.heap.size, 0, none⟩) n ps :=
  ⟨hn, fun _ => ⟨_, rfl⟩, fun a ha j hj => by
    obtain rfl := Option.some.inj ha
    obtain ⟨bo, bn, bc, h1, h2⟩ := hv j hj
    refine ⟨bo, bn, bc, ?_, h2.alloc _⟩
    rw [Addr.add_lit, Nat.zero_add, cell_of_row _ _ _ _ t (0, 0) (heap_alloc_new w _), h1]⟩
end Go.Proofs.YtdmnjjknkcnkgaaDoor
namespace Go.Proofs.YtdmnjjknkcnkgaaDoor
open Go.RowKit

/-- A new row of some bytes. -/
theorem step_append_ob {P : Program} {w : World} {ops : Array Oper} {o : Oper} {a : Act} {K : Act → World → Prop} {Q : Exit → Act → World → Prop} {E : Prop} (hgd : o.guard = none) (s x : Operand) (t tx : TypeId)
    (ho : o.op = .call { callee := .builtin .append, args := #[s, x], argTypes := #[t, tx] }) (e : TypeId) (hB : ByteTy P t e) (g n cap : Nat) (l : List UInt8) (hsv : a.eval s = .slice (some ⟨g, 0, none⟩) n cap) (h : OwnB w e g n cap l)
    (X : Value) (hx : a.eval x = X) (m : Nat) (cs : List UInt8) (hs : Src P 1 tx X m (bcs cs) w) (N : Nat) (hN : n + m = N) (L : List UInt8) (hL : l ++ cs = L) (hmax : N ≤ 70368744177664)
    (hK : ∀ g' cap' w', OwnB w' e g' N cap' L → Puts w w' g n → (g' = g ∨ w.heap.size ≤ g') → K (a.put o.dst (.slice (some ⟨g', 0, none⟩) N cap')) w') :
    if Region.wanted o (yielded ops a.tmps) = true then Oper.wp P o a w K Q else E := by
  subst hN
  subst hL
  have hw : Region.wanted o (yielded ops a.tmps) = true := by simp [Region.wanted, hgd]
  rw [if_pos hw]
  obtain ⟨g', cap', w', hr, h1, h2, h3⟩ := run_append_ob (P := P) w t tx o.type e hB g n cap l h X m cs hs hmax
  unfold Oper.wp execOp
  simp only [ho, resolve, invoke, builtin, Sem.run_bind, Sem.run_pure, Result.andThen_ok, List.map_toArray, List.map_cons, List.map_nil, hsv, hx, hr]
  exact hK g' cap' w' h1 h2 h3
end Go.Proofs.YtdmnjjknkcnkgaaDoor
namespace Go.Proofs.YtdmnjjknkcnkgaaDoor
open Go.RowKit

/-- 'make([]byte, N)'. -/
theorem wpList_make_zeros {P : Program} {w : World} {ops : Array Oper} {rest : List Oper} {o : Oper} {a : Act} {Q : Exit → Act → World → Prop} (hgd : o.guard = none) (l c : Operand) (t : TypeId)
    (ho : o.op = Op.makeSlice t l c) (e : TypeId) (hB : ByteTy P t e) (kl kc : IntKind) (L C : Int) (N : Nat) (hl : a.eval l = .int kl L) (hc : a.eval c = .int kc C) (hL : L = (N : Int)) (hC : C = (N : Int)) (hN : N ≤ 1000000)
    (hK : ∀ w' g, IsB w' (some ⟨g, 0, none⟩) N N (List.replicate N 0) → Below w.heap.size w w' → w.heap.size ≤ g → wpList P ops Q rest (a.put o.dst (.slice (some ⟨g, 0, none⟩) N N)) w') :
    wpList P ops Q (o :: rest) a w := by
  obtain ⟨i, hi, hz, hsize, hby⟩ := hB.info
  refine wpList_make_full w hgd l c t ho w.heap.size e i (.int .u8 0) 1 hB.ht hi hz hsize kl kc L C N hl hc hL hC (by rw [hby]; omega) (by unfold maxLen; omega) (Nat.le_refl _) fun w' hown hgr => ?_
  refine hK w' _ ?_ ((Below.refl _ w).grown hgr (Nat.le_refl _) (fun k h => by cases h)) (Nat.le_refl _)
  rcases hown.2 with ⟨h, _⟩ | ⟨g, cap, cur, hv, _, hg, hnc, hcm, hcs, htake⟩
  · cases h
  · simp only [Value.slice.injEq, Option.some.injEq, Addr.mk.injEq, and_true] at hv
    obtain ⟨rfl, _, rfl⟩ := hv
    rw [Nat.mul_one] at htake hcs
    refine OwnB.isB (e := e) ⟨by simp, Nat.le_refl _, hcm, cur, hg, hcs, ?_⟩
    rw [htake]
    show (madeCells #[Value.int .u8 0] N).toList = _
    rw [toList_madeCells_one]
    simp [bcs, bc]

/-- The eight bytes that say how long, the first k of them. -/
def fill8 (x : Nat) : Nat → List UInt8
  | 0 => List.replicate 8 0
  | k + 1 => (fill8 x k).set k (UInt8.ofNat (x / 256 ^ (7 - k)))
theorem fill8_length (x : Nat) : ∀ k, (fill8 x k).length = 8
  | 0 => rfl
  | k + 1 => by rw [fill8, List.length_set, fill8_length x k]
theorem fill8_all (x : Nat) : fill8 x 8 = be 8 x := by kernel_rfl
theorem zeroLen : (Tryd.prog.info? 123).map (fun i => i.zero) = some (some (.agg (bcs (List.replicate 8 0)).toArray)) := by kernel_rfl
theorem isB_one (w : World) (v : Value) (b : UInt8) (e : TypeId) (hv : v = bc b) : IsB (w.alloc (.cells #[v] e)) (some ⟨w.heap.size, 0, none⟩) 1 1 [b] := isB_lit w #[v] e [b] 1 (by rw [hv]; rfl) rfl (by omega)
theorem grown_alloc {w a : World} {r : Option Nat} {o : Obj} (h : w.grownBy a r) : w.grownBy (a.alloc o) r :=
  ⟨h.os, h.tape, h.output, by have := h.size; simp; omega, fun k hk hne => by
    have := h.size
    rw [Below.heap_alloc _ _ _ (by omega), h.block k hk hne]⟩
theorem below_gr {w a : World} {r : Option Nat} (h : Below w.heap.size w a) : w.grownBy a r := ⟨h.os, h.tape, h.output, h.size, fun k hk _ => h.block k hk⟩
theorem pad_byte (n r : Nat) : 8 * (n : Int) / 2 ^ (8 * r) % 256 = ub (UInt8.ofNat (8 * n / 256 ^ r)) := by
  have e : (2 : Int) ^ (8 * r) = ((256 ^ r : Nat) : Int) := by rw [Int.pow_mul]; simp
  have e2 : 8 * (n : Int) = ((8 * n : Nat) : Int) := by omega
  unfold ub
  rw [e, e2, ← Int.natCast_ediv, UInt8.toNat_ofNat']
  omega
theorem Ab.isB {w : World} {t : TypeId} {g : Nat} {l : List UInt8} (h : Ab w t g l) (n : Nat) (hn : l.length = n) (hn2 : n ≤ 1000000) : IsB w (some ⟨g, 0, none⟩) n n l :=
  ⟨hn, Nat.le_refl _, by unfold maxLen; omega, (fun h => by cases h), fun a ha j x hx => by
    obtain rfl := Option.some.inj ha
    have hj : j < l.length := (List.getElem?_eq_some_iff.1 hx).1
    rw [Addr.add_lit, Nat.zero_add, h.cell j hj]
    simp [bc, ub, List.getD, hx]⟩
theorem Way.kept {w w' : World} {g : Nat} {m : List UInt8} {L : Int} (h : Way w g m L) (k : w'.heap[g]? = w.heap[g]?) : Way w' g m L := by
  obtain ⟨S, blk, used, hT, last, d, sch, hS, hd⟩ := h
  exact ⟨S, blk, used, hT, last, d, sch, hS.kept k, hd⟩
theorem Way.lt {w : World} {g : Nat} {m : List UInt8} {L : Int} (h : Way w g m L) : g < w.heap.size := by
  obtain ⟨S, blk, used, hT, last, d, sch, hS, hd⟩ := h
  exact hS.lt

set_option maxRecDepth 100000 in
set_option maxHeartbeats 4000000 in
theorem pad_in (C : World → Prop) (hmix : MixC C) (g : Nat) (hC : ∀ a b : World, C a → Below g a b → C b) (m : List UInt8) (n : Nat) (w : World)
    (hc : C w) (h : Way w g m n) (hn : m.length = n) (hn2 : n ≤ 1000000) :
    Calls Tryd.prog 54 #[.pointer (some ⟨g, 0, none⟩)] w fun e w' => e = .returned (.tuple #[]) ∧ (∃ L, Way w' g (padded m) L) ∧ Below g w w' := by
  have HN := Lib.hid hn
  clear hn
  have hgw := h.lt
  obtain ⟨S, blk, used, hT, last, d, sch, hS, hd⟩ := id h
  clear hd
  have y0 := hS.len_cell
  go_enter Tryd.func54, Tryd.ntmps54
  go_wp2_with fail
  refine (take_in C hmix g hC m n _ 1 1 [128] _ (hC _ _ hc ((Below.refl g _).alloc (Nat.le_of_lt hgw) _)) (h.kept (Below.heap_alloc _ _ _ hgw)) (isB_one w _ 128 5 rfl) (fun _ a ha => by cases ha; exact fun e => absurd e (by simp; omega)) (by omega) (by omega)).mono ?_
  rintro e w1 ⟨rfl, W1, c1, g1⟩
  have gA : Below g w w1 := ((Below.refl g _).alloc (Nat.le_of_lt hgw) _).trans (gbelow g1 (by simp; omega))
  have hg1 := W1.lt
  obtain ⟨S1, blk1, used1, hT1, last1, d1, sch1, hS1, hd1⟩ := id W1
  clear hd1
  have hu1 : used1 = (n + 1) % 64 := by have := hT1.hused; rw [List.length_append, HN.out] at this; exact this
  obtain ⟨Z, hZ⟩ : ∃ Z, Z = (119 - n % 64) % 64 := ⟨_, rfl⟩
  have eZ : (120 - (used1 : Int)) % 64 = (Z : Int) := by omega
  have hu2 : used1 ≤ 63 := by omega
  have hZ63 : Z ≤ 63 := by omega
  have HZ := Lib.hid hZ
  have y1 := hS1.used_cell
  clear hZ hu1 y0 hS hT hc h g1
  go_wp2_with (at_make; refine wpList_make_zeros rfl _ _ 44 rfl 5 byteTy .i64 .i64 _ _ Z rfl rfl eZ eZ (by omega) ?_; intro w2 gz hz b2 q2)
  refine (take_in C hmix g hC (m ++ [128]) (n + 1) _ Z Z (List.replicate Z 0) _ (hC _ _ c1 (b2.mono (Nat.le_of_lt hg1))) (W1.kept (b2.block g hg1)) hz (fun _ a ha e => by cases ha; simp at e; omega) (by omega) (by omega)).mono ?_
  rintro e w3 ⟨rfl, W3, c3, g3⟩
  have gB : Below g w w3 := (gA.trans (b2.mono (Nat.le_of_lt hg1))).trans (gbelow g3 (Nat.le_trans (Nat.le_of_lt hg1) b2.size))
  have hg3 := W3.lt
  clear y1 hS1 hT1 W1 c1 gA hz b2 q2 g3 eZ
  go_wp2_with (with_reducible refine wpList_alloc_blk rfl 123 rfl _ zeroLen ?_; intro w4 gl h4 b4 q4)
  have hgl : g < gl := Nat.lt_of_lt_of_le hg3 q4
  have W4 := W3.kept (b4.block g hg3)
  have gC : Below g w w4 := gB.trans (b4.mono (Nat.le_of_lt hg3))
  have c4 := hC _ _ c3 (b4.mono (Nat.le_of_lt hg3))
  have A4 : Ab w4 123 gl (fill8 (8 * n) 0) := h4.out
  clear h4 b4 q4 gB c3 W3
  go_loopw [22] (fun i wq => ∃ k : Nat, k ≤ 8 ∧ i = .int .i64 k ∧ Ab wq 123 gl (fill8 (8 * n) k) ∧ Below gl w4 wq) (fun i _ => 8 - (intOf i).toNat)
  case atStart => exact ⟨0, Nat.zero_le _, rfl, A4, Below.refl _ _⟩
  case round =>
    clear A4
    obtain ⟨k, hk, rfl, hA, bA⟩ := hrel
    by_cases hk8 : k < 8
    · obtain ⟨r, hr⟩ : ∃ r : Nat, k + r = 7 := ⟨7 - k, by omega⟩
      have er : 56 - 8 * (k : Int) = 8 * (r : Int) := by omega
      have HF : Hid (fill8 (8 * n) (k + 1) = (fill8 (8 * n) k).set k (UInt8.ofNat (8 * n / 256 ^ r))) := by
        unfold Hid
        rw [fill8, show 7 - k = r by omega]
      have hr7 : r ≤ 7 := by omega
      have k8 : (k : Int) < 8 := by omega
      have tw := hA.cell k (by rw [fill8_length]; exact hk8)
      have tf := hA.free k
      clear hr
      go_wp2_with fail
      go_roundw
      case rel =>
        refine ⟨k + 1, by omega, by go_num, ?_, bA.setCell (Nat.le_refl _) _⟩
        rw [HF.out, pad_byte]
        exact hA.set k _
      case measure => simp [intOf]; omega
    · obtain rfl : k = 8 := by omega
      have hlast : IsB wr (some ⟨gl, 0, none⟩) 8 8 (be 8 (8 * n)) := by
        rw [← fill8_all]
        exact hA.isB 8 (fill8_length _ 8) (by omega)
      have W5 := W4.kept (bA.block g hgl)
      have gD : Below g w wr := gC.trans (bA.mono (Nat.le_of_lt hgl))
      have c5 := hC _ _ c4 (bA.mono (Nat.le_of_lt hgl))
      go_wp2_with fail
      refine (take_in C hmix g hC (m ++ [128] ++ List.replicate Z 0) (n + 1 + Z) _ 8 8 (be 8 (8 * n)) _ c5 W5 hlast (fun _ a ha e => by cases ha; simp at e; omega) (by omega) (by omega)).mono ?_
      rintro e w6 ⟨rfl, W6, c6, g6⟩
      go_wp2_with fail
      go_end0
      refine ⟨rfl, ⟨((n + 1 + Z + 8 : Nat) : Int), ?_⟩, gD.trans (gbelow g6 (Nat.le_of_lt W5.lt))⟩
      have e : m ++ [128] ++ List.replicate Z 0 ++ be 8 (8 * n) = padded m := by
        unfold padded padding
        rw [HN.out, ← HZ.out]
        simp
      rw [← e]
      exact W6
end Go.Proofs.YtdmnjjknkcnkgaaDoor
