/-
  The contract of take, given mix's.
  sync.Once of a schedule: spread, once.
  The contract of hash: the state as bytes.
  The contract of mix.
  Rows of slices of bytes (of no program).
  append to a row of the call's own, at a step of a region that draws its order.
  The contract of pad, given mix's.
  The contract of sha.Sum: SHA-256 of all parts.
  The reference's rot, words.
  The bodies of the loops of the reference's Sum.
  A round of the reference's Sum, by itself.
  A round of the reference's Sum, by itself.
  A round of the reference's Sum, by itself.
  A round of the reference's Sum, by itself.
  A round of the reference's Sum, by itself.
-/
import Derived.Test.YtdmnjjknkcnkgaaGreatDoorMz1
import Derived.Outline
import Derived.Laws.NewBlocks
import Derived.Stop.BytesEq
import Derived.Deep.MidRow
import Derived.Test.YtdmnjjknkcnkgaaGreatDoorMz0
import Derived.Deep.RegionHeld3
import Derived.Deep.RegionLaw
namespace Go.Proofs.YtdmnjjknkcnkgaaGreatDoor
open Go.RowKit

/-- The once of a schedule: done or not. -/
def onceV (d : Bool) : List Value := [.int .u32 (if d then 1 else 0), .int .i32 0, .int .u32 0]
/-- A SUM'S BLOCK, its schedule that of its last block, where it was spread. -/
def Smo (w : World) (g : Nat) (st : List UInt32) (blk : List UInt8) (used : Nat) (len : Int) : Prop :=
  ∃ last d sch, Sm w g st blk used len last (onceV d) sch ∧ (d = true → sch = sched (words last 16) 48)
/-- What mix does, where C holds of the world. -/
def MixC (C : World → Prop) : Prop := ∀ (g : Nat) (S : St) (blk : List UInt8) (used : Nat) (len : Int) (w : World), C w → Smo w g S.l blk used len →
  Calls Tryz.prog 124 #[.pointer (some ⟨g, 0, none⟩)] w fun e w' => e = .returned (.tuple #[]) ∧ Smo w' g (S.mix blk).l blk used len ∧ w.grownBy w' (some g)
/-- A SUM ON ITS WAY LIES IN BLOCK g: the bytes m have been taken in; L is the length that it has written down. -/
def Way (w : World) (g : Nat) (m : List UInt8) (L : Int) : Prop :=
  ∃ S blk used, Taken m S blk used ∧ Smo w g S.l blk used L

theorem slice_tail (g o n : Nat) (hn : n < 64) (w : World) :
    (Instr.sliceAt 165 (.pointer (some ⟨g, o, none⟩)) (some (.int .i64 (n : Int))) none none).run Tryz.prog w = .ok (.slice (some ⟨g, o + n, none⟩) (64 - n) (64 - n)) w := by
  have hz : ∀ w', (sizeOf (Tryz.prog.elem 165)).run Tryz.prog w' = .ok 1 w' := fun w' => by kernel_rfl
  have hl : Tryz.prog.arrayLen 165 = 64 := by kernel_rfl
  rw [run_sliceAt_array_l w 165 ⟨g, o, none⟩ (by kernel_rfl) .i64 _ (by omega) (by rw [hl]; omega), hz, hl]
  simp only [Result.andThen_ok, slicedAt]
  rw [Int.toNat_natCast, if_neg (by omega), Addr.add_lit, Nat.mul_one]
theorem IsB.grown_some {w w' : World} {row : Option Nat} {ao : Option Addr} {n cap : Nat} {l : List UInt8} (h : IsB w ao n cap l) (hg : w.grownBy w' row) (hne : 0 < n → ∀ a,ao = some a → some a.block ≠ row) : IsB w' ao n cap l :=
  ⟨h.len, h.le, h.max, h.nil, fun a ha j u hu => hg.cell (h.cell a ha j u hu) (by
    have e : (a.add j).block = a.block := by unfold Addr.add; split <;> rfl
    rw [e]
    exact hne (by have := h.len; have := (List.getElem?_eq_some_iff.1 hu).1; omega) a ha)⟩
theorem sizeByte : (Tryz.prog.info? 5).map (·.size) = some 1 := by kernel_rfl

set_option maxRecDepth 100000 in
set_option maxHeartbeats 4000000 in
theorem take_in (C : World → Prop) (hmix : MixC C) (g : Nat) (hC : ∀ a b : World, C a → Below g a b → C b) (m : List UInt8) (L : Nat) (ao : Option Addr) (pn pc : Nat) (p : List UInt8) (w : World)
    (hc : C w) (h : Way w g m L) (hp : IsB w ao pn pc p) (hne : 0 < pn → ∀ a, ao = some a → a.block ≠ g) (hL : L ≤ 1000000000) (hpn : pn ≤ 1000000000) :
    Calls Tryz.prog 102 #[.pointer (some ⟨g,0,none⟩),.slice ao pn pc] w fun e w' => e = .returned (.tuple #[]) ∧ Way w' g (m ++ p) ((L + pn : Nat) : Int) ∧ C w' ∧ w.grownBy w' (some g) := by
  obtain ⟨S, blk, used, hT, last, d, sch, hS, hd⟩ := h
  have HD := Lib.hid hd
  clear hd
  have y0 := hS.len_cell
  have tf := hS.free 73
  go_enter Tryz.func102, Tryz.ntmps102
  go_wp2_with fail
  have hS1 := hS.set_len ((L : Int) + (pn : Int))
  have g1 : w.grownBy (w.setCell ⟨g, 73, none⟩ (.int .u64 ((L : Int) + (pn : Int)))) (some g) := grown_set (World.grownBy.refl _ _)
  have hgw := hS.lt
  have c1 := hC _ _ hc (gbelow g1 (Nat.le_of_lt hgw))
  have p1 : IsB (w.setCell ⟨g, 73, none⟩ (.int .u64 ((L : Int) + (pn : Int)))) ao pn pc p := hp.grown_some g1 (fun h0 a ha => by simp; exact hne h0 a ha)
  have W1 : Way (w.setCell ⟨g, 73, none⟩ (.int .u64 ((L : Int) + (pn : Int)))) g (m ++ []) ((L : Int) + (pn : Int)) := ⟨S, blk, used, by rw [List.append_nil]; exact hT, last, d, sch, hS1, HD.out⟩
  clear y0 tf hS hS1 hT hp hc HD
  go_loopw [1] (fun v wq => ∃ (q r : List UInt8) (ao' : Option Addr) (rn rc : Nat),Hid (p = q ++ r) ∧ v = .slice ao' rn rc ∧ IsB wq ao' rn rc r ∧ (0 < rn → ∀ a,ao' = some a → a.block ≠ g) ∧ Way wq g (m ++ q) ((L : Int) + (pn : Int)) ∧ C wq ∧ w.grownBy wq (some g)) (fun v _ => match v with | .slice _ n _ => n | _ => 0)
  case atStart => exact ⟨[], p, ao, pn, pc, rfl, rfl, p1, hne, W1, c1, g1⟩
  case round =>
    clear p1 W1 c1 g1
    obtain ⟨q, r, ao', rn, rc, HP, rfl, hr, hne', hW, hc, hg⟩ := hrel
    by_cases hrn : 0 < rn
    · obtain ⟨S, blk, used, hT, last, d, sch, hS, hd⟩ := hW
      have HD := Lib.hid hd
      clear hd
      have hu : used < 64 := by have := hT.hused; omega
      have hrl := hr.len
      obtain ⟨c, hcc⟩ : ∃ c, c = min rn (64 - used) := ⟨_, rfl⟩
      obtain ⟨ao2, hcut, hr2, hblk⟩ := IsB_cut (P := Tryz.prog) (t := 81) hr (by kernel_rfl) (fun w' => by kernel_rfl) c (by omega)
      obtain ⟨uc, huc⟩ : ∃ uc, uc = used + c := ⟨_, rfl⟩
      have hadd : (used : Int) + (c : Int) = (uc : Int) := by omega
      have HC := Lib.hid hcc
      have HUC := Lib.hid huc
      have HRL := Lib.hid hrl
      have hc1 : 1 ≤ c ∧ c ≤ rn ∧ uc ≤ 64 := by omega
      clear hcc huc hrl
      have y72 := hS.used_cell
      have hsl := slice_tail g 8 used hu
      go_wp2_with fail
      go_region_held3 (fun w' => w'.cell? ⟨g,72,none⟩ = some (.int .i64 used)) (first | go_keep | exact y72 | exact hS2.used_cell) ((refine step_copy_sm rfl (.tmp 25) (.tmp 26) 81 81 (by rfl) 5 byteTy.ht sizeByte g S.l blk used _ last _ _ (hS.kept (w' := wr.drew) rfl) used hu (by rfl) ao' rn rc r (by rfl) hr.drew hrn c HC.out ?_; intro w2 hS2 hg2))
      have hg3 : w.grownBy w2 (some g) := grown_both hg hg2
      have hr3 : IsB w2 ao2 (rn - c) (rc - c) (r.drop c) := hr2.grown_some (row := some g) ⟨hg2.os, hg2.tape, hg2.output, hg2.size, hg2.block⟩ (fun _ a2 h2 e => by
        obtain ⟨a1, h1, e1⟩ := hblk a2 h2
        exact hne' hrn a1 h1 (by rw [← e1]; exact Option.some.inj e))
      have hne3 : ∀ a2, ao2 = some a2 → a2.block ≠ g := fun a2 h2 => by obtain ⟨a1, h1, e1⟩ := hblk a2 h2; rw [e1]; exact hne' hrn a1 h1
      have hgr : g ≤ wr.heap.size := Nat.le_trans (Nat.le_of_lt hgw) hg.size
      have c2 := hC _ _ hc (gbelow (show wr.grownBy w2 (some g) from ⟨hg2.os, hg2.tape, hg2.output, hg2.size, hg2.block⟩) hgr)
      have hg2s : g ≤ w2.heap.size := Nat.le_trans hgr hg2.size
      have HP2 : Hid (p = (q ++ r.take c) ++ r.drop c) := by unfold Hid; rw [HP.out, List.append_assoc, List.take_append_drop]
      have htl : (r.take c).length = c := by rw [List.length_take, HRL.out]; omega
      have HTL := Lib.hid htl
      clear htl y72 hsl hr hblk hne' hr2 hg2
      have y72 := hS2.used_cell
      have tf72 := hS2.free 72
      have hS3 := hS2.set_used uc
      have gg : w2.grownBy (w2.setCell ⟨g, 72, none⟩ (.int .i64 (uc : Int))) (some g) := grown_set (World.grownBy.refl _ _)
      have c3 := hC _ _ c2 (gbelow gg hg2s)
      by_cases hf : uc = 64
      · have hfb : ((uc : Int) == 64) = true := by simp [hf]
        have hT2 := hT.full (r.take c) (by rw [HTL.out, ← HUC.out]; exact hf)
        have HBL : Hid (blk.take used ++ r.take c ++ blk.drop (used + c) = blk.take used ++ r.take c) := by
          unfold Hid
          rw [List.drop_of_length_le (by rw [← HUC.out, hf, hS.l2]; exact Nat.le_refl _), List.append_nil]
        rw [HBL.out] at hS3
        clear hS hS2 hf
        go_wp2_with (go_at_call 124; refine (hmix g S _ uc _ _ c3 ⟨last,d,sch,hS3,HD.out⟩).mono ?_; rintro e w4 ⟨rfl,⟨last4,d4,sch4,hS4,hd4⟩,hg4⟩; have HD4 := Lib.hid hd4; clear hd4; have y4 := hS4.used_cell; have tf4 := hS4.free 72; have hS5 := hS4.set_used 0)
        go_roundw
        case rel =>
          have G := grown_then gg (grown_set (i := 72) (v := .int .i64 0) hg4)
          refine ⟨q ++ r.take c,r.drop c,ao2,rn - c,rc - c,HP2,rfl,hr3.grown G (fun a2 h2 e => hne3 a2 h2 (Option.some.inj e)),fun _ => hne3,⟨S.mix (blk.take used ++ r.take c),_,0,?_,_,_,_,hS5,HD4.out⟩,hC _ _ c2 (gbelow G hg2s),grown_then hg3 G⟩
          rw [← List.append_assoc]
          exact hT2 _
        case measure => simp; omega
      · have hfb : ((uc : Int) == 64) = false := by simp; omega
        have hT2 := hT.more (r.take c) hS.l2 (by rw [HTL.out, ← HUC.out]; omega)
        rw [HTL.out, ← HUC.out] at hT2
        rw [← HUC.out] at hS3
        go_wp2_with fail
        go_roundw
        case rel =>
          refine ⟨q ++ r.take c,r.drop c,ao2,rn - c,rc - c,HP2,rfl,hr3.grown gg (fun a2 h2 e => hne3 a2 h2 (Option.some.inj e)),fun _ => hne3,⟨S,_,uc,?_,_,_,_,hS3,HD.out⟩,c3,grown_then hg3 gg⟩
          rw [← List.append_assoc]
          exact hT2
        case measure => simp; omega
    · obtain rfl : rn = 0 := by omega
      have hr0 : r = [] := List.eq_nil_of_length_eq_zero hr.len
      have HQ : p = q := by rw [HP.out, hr0, List.append_nil]
      rw [← HQ] at hW
      clear HP HQ
      go_wp2_with fail
      go_end0
      exact ⟨rfl, hW, hc, hg⟩

def lockV : List Value := [.int .u32 0, .int .i32 1, .int .u32 0]
def halfV : List Value := [.int .u32 1, .int .i32 1, .int .u32 0]

set_option maxRecDepth 100000 in
set_option maxHeartbeats 1600000 in
theorem slow_sha (g : Nat) (st : List UInt32) (blk : List UInt8) (used : Nat) (len : Int) (last : List UInt8) (sch : List UInt32) (w : World) (h : Sm w g st blk used len last (onceV false) sch) :
    Calls Tryz.prog 113 #[.pointer (some ⟨g,138,none⟩),.func (.func 135) #[.pointer (some ⟨g,74,none⟩)] #[]] w fun en w' => en = .returned (.tuple #[]) ∧
      Sm w' g st blk used len last (onceV true) (sched (words last 16) 48) ∧ w.grownBy w' (some g) := by
  have c0 : w.cell? ⟨g, 138, none⟩ = some (.int .u32 0) := h.mid_cell 0 _ rfl
  have c1 : w.cell? ⟨g, 139, none⟩ = some (.int .i32 0) := h.mid_cell 1 _ rfl
  have f1 := h.free 139
  have hL : Sm (w.setCell ⟨g, 139, none⟩ (.int .i32 1)) g st blk used len last lockV sch := h.set_mid 1 (.int .i32 1) (by omega)
  have k0 : (w.setCell ⟨g, 139, none⟩ (.int .i32 1)).cell? ⟨g, 138, none⟩ = some (.int .u32 0) := hL.mid_cell 0 _ rfl
  have gL : w.grownBy (w.setCell ⟨g, 139, none⟩ (.int .i32 1)) (some g) := grown_set (World.grownBy.refl _ _)
  have hnot : ∀ (x : Bool) (w : World), (Op.unary .not (.bool x)).run Tryz.prog w = .ok (.bool (!x)) w := fun _ _ => rfl
  go_enter_defers Tryz.func113, Tryz.ntmps113
  go_wp2_with (first | (go_at_call 128; refine (lock_free ⟨g,139,none⟩ _ (by go_simp) (by go_simp)).mono ?_; rintro e w' ⟨rfl,rfl⟩) | (go_at_call 112; refine (load_any ⟨g,138,none⟩ 0 false rfl _ k0).mono ?_; rintro e w' ⟨rfl,rfl⟩) | (go_at_call 135; refine (spread_any g st blk used len last lockV sch _ hL).mono ?_; rintro e w2 ⟨rfl,hS,hg⟩))
  have d0 : w2.cell? ⟨g, 138, none⟩ = some (.int .u32 0) := hS.mid_cell 0 _ rfl
  have e0 := hS.free 138
  have hS2 : Sm (w2.drew.setCell ⟨g, 138, none⟩ (.int .u32 1)) g st blk used len last halfV (sched (words last 16) 48) := (hS.kept (w' := w2.drew) rfl).set_mid 0 (.int .u32 1) (by omega)
  have d1 : (w2.drew.setCell ⟨g, 138, none⟩ (.int .u32 1)).cell? ⟨g, 139, none⟩ = some (.int .i32 1) := hS2.mid_cell 1 _ rfl
  have e1 := hS2.free 139
  have g2 : w.grownBy w2 (some g) := grown_then gL hg
  have hS3 : Sm ((w2.drew.setCell ⟨g,138,none⟩ (.int .u32 1)).setCell ⟨g,139,none⟩ (.int .i32 0)) g st blk used len last (onceV true) (sched (words last 16) 48) := hS2.set_mid 1 (.int .i32 0) (by omega)
  go_wp2
  refine leaves_cons (f := 130) (args := #[.pointer (some ⟨g, 138, none⟩), .bool true]) (by simp) (by simp [go_sem]) ?_
  refine (store_deferred ⟨g, 138, none⟩ (.int .u32 0) .returning _ d0 e0).mono ?_
  rintro e u' w'' ⟨rfl, rfl, rfl⟩
  refine leaves_cons (f := 129) (args := #[.pointer (some ⟨g, 139, none⟩)]) (by simp [settle]) (by simp [go_sem]) ?_
  refine (unlock_deferred ⟨g, 139, none⟩ _ _ d1 e1).mono ?_
  rintro e u' w'' ⟨rfl, rfl, rfl⟩
  have hfin := And.intro hS3 (grown_set (i := 139) (v := .int .i32 0) (grown_set (i := 138) (v := .int .u32 1) (grown_drewN (n := 1) g2)))
  have HF := Lib.hid hfin
  clear hfin hS3 hS2 hS hL
  simp [Leaves, settle, results, Tryz.results113]
  exact HF.out

set_option maxRecDepth 100000 in
set_option maxHeartbeats 1600000 in
/-- '(*sync.Once).Do', not yet done. -/
theorem do_sha (g : Nat) (st : List UInt32) (blk : List UInt8) (used : Nat) (len : Int) (last : List UInt8) (sch : List UInt32) (w : World) (h : Sm w g st blk used len last (onceV false) sch) :
    Calls Tryz.prog 86 #[.pointer (some ⟨g,138,none⟩),.func (.func 135) #[.pointer (some ⟨g,74,none⟩)] #[]] w fun en w' => en = .returned (.tuple #[]) ∧
      Sm w' g st blk used len last (onceV true) (sched (words last 16) 48) ∧ w.grownBy w' (some g) := by
  have hnot : ∀ (x : Bool) (w : World), (Op.unary .not (.bool x)).run Tryz.prog w = .ok (.bool (!x)) w := fun _ _ => rfl
  have h1 : w.cell? ⟨g, 138, none⟩ = some (.int .u32 0) := h.mid_cell 0 _ rfl
  go_enter Tryz.func86, Tryz.ntmps86
  go_wp2_with (first | (go_at_call 113; refine (slow_sha g st blk used len last sch _ h).mono ?_; rintro e w2 ⟨rfl,hS,hg⟩) | (go_at_call 112; refine (load_any ⟨g,138,none⟩ 0 false rfl _ h1).mono ?_; rintro e w' ⟨rfl,rfl⟩))
  go_end0
  exact ⟨rfl, hS, hg⟩

set_option maxRecDepth 100000 in
set_option maxHeartbeats 1600000 in
/-- '(*sync.Once).Do', done already. -/
theorem do_sha_done (g : Nat) (fv : Value) (st : List UInt32) (blk : List UInt8) (used : Nat) (len : Int) (last : List UInt8) (sch : List UInt32) (w : World) (h : Sm w g st blk used len last (onceV true) sch) :
    Calls Tryz.prog 86 #[.pointer (some ⟨g, 138, none⟩), fv] w fun en w' => en = .returned (.tuple #[]) ∧ w = w' := by
  have hnot : ∀ (x : Bool) (w : World), (Op.unary .not (.bool x)).run Tryz.prog w = .ok (.bool (!x)) w := fun _ _ => rfl
  have h1 : w.cell? ⟨g, 138, none⟩ = some (.int .u32 1) := h.mid_cell 0 _ rfl
  go_enter Tryz.func86, Tryz.ntmps86
  go_wp2_with (go_at_call 112; refine (load_any ⟨g, 138, none⟩ 1 true rfl _ h1).mono ?_; rintro e w' ⟨rfl, rfl⟩)
  go_end0
  exact ⟨rfl, rfl⟩
/-- Either way. -/
theorem do_any (g : Nat) (st : List UInt32) (blk : List UInt8) (used : Nat) (len : Int) (last : List UInt8) (d : Bool) (sch : List UInt32) (w : World) (h : Sm w g st blk used len last (onceV d) sch) (hd : Hid (d = true → sch = sched (words last 16) 48)) :
    Calls Tryz.prog 86 #[.pointer (some ⟨g,138,none⟩),.func (.func 135) #[.pointer (some ⟨g,74,none⟩)] #[]] w fun en w' => en = .returned (.tuple #[]) ∧
      Sm w' g st blk used len last (onceV true) (sched (words last 16) 48) ∧ w.grownBy w' (some g) := by
  cases d with
  | false => exact do_sha g st blk used len last sch w h
  | true =>
    rw [hd.out rfl] at h
    refine (do_sha_done g (.func (.func 135) #[.pointer (some ⟨g, 74, none⟩)] #[]) st blk used len last _ w h).mono ?_
    rintro e w' ⟨rfl, rfl⟩
    exact ⟨rfl, h, World.grownBy.refl _ _⟩

/-- The first k bytes of the state, and zeros. -/
def filled (st : List UInt32) : Nat → List UInt8
  | 0 => List.replicate 32 0
  | k + 1 => (filled st k).set k (byt (st.getD (k / 4) 0) (3 - k % 4))
theorem filled_length (st : List UInt32) : ∀ k, (filled st k).length = 32
  | 0 => rfl
  | k + 1 => by rw [filled, List.length_set, filled_length st k]
theorem filled_snoc (st : List UInt32) (k q r : Nat) (hr : r < 4) (hk : k = 4 * q + r) (_h : k < 32) : filled st (k + 1) = (filled st k).set k (byt (st.getD q 0) (3 - r)) := by
  rw [filled, show k / 4 = q by omega, show k % 4 = r by omega]
theorem filled_all (S : St) : filled S.l 32 = (S.l.map fun x => be 4 x.toNat).flatten := by kernel_rfl
theorem zeroHash : (Tryz.prog.info? 53).map (fun i => i.zero) = some (some (.agg (bcs (List.replicate 32 0)).toArray)) := by kernel_rfl
theorem sizeHash : (Tryz.prog.info? 53).map (·.size) = some 32 := by kernel_rfl
set_option maxRecDepth 100000 in
set_option maxHeartbeats 4000000 in
theorem hash_any (g : Nat) (st : List UInt32) (blk : List UInt8) (used : Nat) (len : Int) (last : List UInt8) (mid : List Value) (sch : List UInt32) (w : World) (h : Sm w g st blk used len last mid sch) :
    Calls Tryz.prog 104 #[.pointer (some ⟨g, 0, none⟩)] w fun e w' => e = .returned (.agg (bcs (filled st 32)).toArray) ∧ Below w.heap.size w w' := by
  go_enter Tryz.func104, Tryz.ntmps104
  go_wp2_with (first | (with_reducible refine wpList_alloc_blk (o := ⟨some 3,_,_,_,_,_⟩) rfl 53 rfl _ zeroHash ?_; intro w2 go h2 b2 q2) | (with_reducible refine wpList_alloc_blk (o := ⟨some 2,_,_,_,_,_⟩) rfl 53 rfl _ zeroHash ?_; intro w1 gr h1 b1 q1))
  have hg := h.lt
  have hgr : gr < w1.heap.size := (Array.getElem?_eq_some_iff.1 h1.out).1
  have S2 := (h.kept (b1.block g hg)).kept (b2.block g (by omega))
  have B2 := below_on b1 b2
  have R2 : Hid (w2.heap[gr]? = some (.cells (bcs (List.replicate 32 0)).toArray 53 (0, 0))) := (b2.block gr hgr).trans h1.out
  have A2 : Ab w2 53 go (filled st 0) := h2.out
  have hgo : g < go := by omega
  have hro : gr < go := by omega
  have hwr : w.heap.size ≤ gr := q1
  have hl := Lib.hid h.l1
  clear h1 b1 q1 h2 b2 q2 hg hgr
  go_loopw [5] (fun i wq => ∃ k : Nat, k ≤ 32 ∧ i = .int .i64 k ∧ Ab wq 53 go (filled st k) ∧ Below go w2 wq) (fun i _ => 32 - (intOf i).toNat)
  case atStart => exact ⟨0, Nat.zero_le _, rfl, A2, Below.refl _ _⟩
  case round =>
    clear A2
    obtain ⟨k, hk, rfl, hA, bA⟩ := hrel
    by_cases hk32 : k < 32
    · obtain ⟨q, r, hr, hkr⟩ : ∃ q r : Nat, r < 4 ∧ k = 4 * q + r := ⟨k / 4, k % 4, by omega, by omega⟩
      have hq : q < 8 := by omega
      have za := (S2.kept (bA.block g hgo)).st_cell q hq
      have HF : Hid (filled st (k + 1) = (filled st k).set k (byt (st.getD q 0) (3 - r))) := filled_snoc st k q r hr hkr hk32
      generalize st.getD q 0 = x at za HF
      have lo := u_lo x
      have hi := u_hi x
      have k32 : (k : Int) < 32 := by omega
      have e1 : (k : Int) / 4 = q := by omega
      have e2 : (k : Int) % 4 = r := by omega
      have q8 : (q : Int) < 8 := by omega
      have tw := hA.cell k (by rw [filled_length]; exact hk32)
      have tf := hA.free k
      have s0 := u_byte0
      have s1 := u_byte1
      have s2 := u_byte2
      have s3 := u_byte3
      have s4 := ub_mod
      have HK := Lib.hid hkr
      clear hkr
      obtain rfl | rfl | rfl | rfl : r = 0 ∨ r = 1 ∨ r = 2 ∨ r = 3 := by omega
      all_goals
        go_wp2_with fail
        go_roundw
        case rel => exact ⟨k + 1, by omega, by go_num, by rw [HF.out]; exact hA.set k _, bA.setCell (Nat.le_refl _) _⟩
        case measure => simp [intOf]; omega
    · obtain rfl : k = 32 := by omega
      have hAH : Hid (wr.heap[go]? = some (.cells (bcs (filled st 32)).toArray 53 (0, 0))) := hA
      have hRH : Hid (wr.heap[gr]? = some (.cells (bcs (List.replicate 32 0)).toArray 53 (0, 0))) := (bA.block gr hro).trans R2.out
      have SZ : Hid ((bcs (filled st 32)).toArray.size = 32) := by unfold Hid; simp [bcs_length, filled_length]
      clear hA hk hk32
      go_wp2_with (first
        | ((with_reducible refine wpList_load_blk rfl 53 _ rfl go _ ?_ _ hAH _ _ Tryz.underlying53 32 sizeHash SZ.out ?_); (rfl))
        | ((with_reducible refine wpList_store_blk rfl 53 _ _ rfl gr _ (bcs (filled st 32)).toArray ?_ ?_ _ hRH 32 sizeHash List.size_toArray SZ.out ?_ ?_); (rfl); (rfl); (exact bcs_all _); (intro wz hz bz)))
      have Bz := B2.trans (bA.mono (by omega))
      refine bodyPost_ret (v := .agg (bcs (filled st 32)).toArray) (results_cell_row rfl _ _ gr _ _ (0, 0) _ rfl hz.out Tryz.underlying53 rfl (sizeHash.trans (by rw [SZ.out]))) rfl ⟨rfl, ?_⟩
      exact Bz.grown bz Bz.size (fun k h => by cases h; exact hwr)

theorem wpStill_load_mid {P : Program} {ops : Array Oper} {w : World} {Q : Act → Prop} {a : Act} {o : Oper} {rest : List Oper} (hgd : o.guard = none) (ty : TypeId) (x : Operand) (ho : o.op = .load ty x)
    (b i : Nat) (hx : a.eval x = .pointer (some ⟨b,i,none⟩)) (cs : List Value) (d : TypeDesc) (hc : w.rangeAt b i cs) (hu : P.underlying ty = some d) (hd : d.isRow = true) (hi : (P.info? ty).map (·.size) = some cs.length)
    (h : wpStill P ops w Q rest (a.put o.dst (.agg cs.toArray))) : wpStill P ops w Q (o :: rest) a := by
  have hw : Region.wanted o (yielded ops a.tmps) = true := by simp [Region.wanted, hgd]
  simp only [wpStill]
  rw [if_pos hw]
  unfold Oper.still execOp
  simp only [ho, hx, Instr.loadAt, Instr.sureAddr, Sem.run_bind, Sem.run_pure, Result.andThen_ok, run_loadVar_mid w b i ty cs d hc hu hd hi, Oper.stillUpon]
  exact ⟨trivial, h⟩
theorem foldl_set (off : Nat) : ∀ (l : List Value) (k : Nat) (cs : Array Value), off + k + l.length ≤ cs.size →
    ((l.zipIdx k).foldl (fun cs (x : Value × Nat) => cs.setIfInBounds (off + x.2) x.1) cs).toList = cs.toList.take (off + k) ++ l ++ cs.toList.drop (off + k + l.length)
  | [], k, cs, _ => by simp
  | v :: l, k, cs, h => by
    simp only [List.length_cons] at h
    simp only [List.zipIdx_cons, List.foldl_cons]
    rw [foldl_set off l (k + 1) _ (by simp; omega)]
    simp only [Array.toList_setIfInBounds, List.length_cons]
    have hk : off + k < cs.toList.length := by simp; omega
    rw [← Nat.add_assoc, List.take_add_one, List.getElem?_set_self hk, List.take_set_of_le (Nat.le_refl _), List.drop_set_of_lt (by omega)]
    simp
    rw [show off + k + 1 + l.length = off + k + (l.length + 1) by omega]
theorem fill_one (place : Nat → Option (Nat × Nat)) (z : Array Value) (i off n : Nat) (C : List Value) (hp : place i = some (off, n)) (hn : C.length = n) (hz : off + n ≤ z.size) :
    Instr.fill place z [(i, .agg C.toArray)] = some (z.toList.take off ++ C ++ z.toList.drop (off + n)).toArray := by
  have hs : (Value.agg C.toArray).cells.size = n := by simp [Value.cells, hn]
  rw [Instr.fill, hp]
  simp only [hs]
  rw [if_neg (by simp; omega)]
  simp only [Instr.fill, Value.cells]
  congr 1
  apply Array.toList_inj.1
  have := foldl_set off C 0 z (by omega)
  simp only [Nat.add_zero, hn] at this
  rw [← this]
  simp
/-- A new schedule of a block. -/
def newSch (blk : List UInt8) : List Value := bcs blk ++ (onceV false ++ (List.replicate 64 (0 : UInt32)).map cu)
theorem newSch_length (blk : List UInt8) (h : blk.length = 64) : (newSch blk).length = 131 := by simp [newSch, bcs_length, h, onceV]
theorem newSch_one (blk : List UInt8) : (newSch blk).toArray.all (·.oneCell') = true := by
  simp only [Array.all_eq_true_iff_forall_mem, List.mem_toArray, newSch, List.mem_append]
  rintro v (hv | hv | hv)
  · exact bcs_one _ v hv
  · have : (onceV false).all (·.oneCell') = true := rfl
    exact List.all_eq_true.1 this v hv
  · obtain ⟨x, _, rfl⟩ := List.mem_map.1 hv
    rfl
theorem sch_info : (Tryz.prog.info? 167).map (fun i => i.zero) = some (some (.agg (newSch (List.replicate 64 0)).toArray)) := by kernel_rfl
theorem sch_size : (Tryz.prog.info? 167).map (·.size) = some 131 := by kernel_rfl
theorem sch_places : (match Tryz.prog.underlying 167 with | some (.struct fields) => fields.toList.mapM (fun f => (Tryz.prog.info? f.type).map fun i => (f.offset,i.size)) | _ => none) = some [(0,64),(64,3),(67,64)] := by kernel_rfl
theorem built_sch (blk : List UInt8) (h : blk.length = 64) : Tryz.prog.built 167 [(0, .agg (bcs blk).toArray)] = some (newSch blk).toArray := by
  have hi := sch_info
  have hp := sch_places
  unfold Program.built
  cases h1 : Tryz.prog.info? 167 with
  | none => rw [h1] at hi; cases hi
  | some it =>
    rw [h1] at hi
    simp only [Option.map_some, Option.some.injEq] at hi
    cases h2 : Tryz.prog.underlying 167 with
    | none => rw [h2] at hp; cases hp
    | some d =>
      rw [h2] at hp
      cases d <;> try (cases hp; done)
      simp only at hp
      simp only [hi, hp]
      rw [fill_one _ _ 0 0 64 (bcs blk) rfl (by rw [bcs_length, h]) (by simp [Value.cells, newSch_length])]
      simp only [Value.cells, List.take_zero, List.nil_append]
      congr 2
/-- Part of a block that is known whole is written. -/
theorem wpList_store_in {P : Program} {ops : Array Oper} {rest : List Oper} {o : Oper} {a : Act} {w : World} {Q : Exit → Act → World → Prop} (hgd : o.guard = none) (ty : TypeId) (x y : Operand) (ho : o.op = .store ty x y)
    (g i : Nat) (cs old : List Value) (t : TypeId) (hx : a.eval x = .pointer (some ⟨g, i, none⟩)) (hy : a.eval y = .agg cs.toArray) (hg : w.heap[g]? = some (.cells old.toArray t (0, 0)))
    (n : Nat) (hi : (P.info? ty).map (·.size) = some n) (hn : cs.length = n) (hl : i + n ≤ old.length) (h1 : cs.toArray.all (·.oneCell') = true)
    (hK : ∀ w',w'.heap[g]? = some (.cells (old.take i ++ cs ++ old.drop (i + n)).toArray t (0,0)) → w.grownBy w' (some g) → wpList P ops Q rest (a.put o.dst undef) w') : wpList P ops Q (o :: rest) a w := by
  refine wpList_plain hgd fun K hK' => ?_
  have hst := run_storeCells_at P g i t cs 0 old.toArray w hg (by simp; omega) (fun v hv => (Array.all_eq_true_iff_forall_mem.1 h1) v (by simpa using hv))
  simp only [Nat.add_zero] at hst
  have hr : (storeVar ty ⟨g, i, none⟩ (.agg cs.toArray)).run P w = .ok () (w.setRow g (old.take i ++ cs ++ old.drop (i + n)).toArray) := by
    cases hq : P.info? ty with
    | none => simp [hq] at hi
    | some ii =>
      have hs : ii.size = n := by simpa [hq] using hi
      simp [storeVar, sizeOf, typeInfo, hq, Value.cells, hs, hn, hst]
  unfold Oper.wp execOp
  simp only [ho, hx, hy, Instr.storeAt, Instr.sureAddr, Sem.run_bind, Sem.run_pure, Result.andThen_ok, hr]
  exact hK' _ _ (hK _ (setRow_heap w g _ _ _ _ hg) ⟨rfl, rfl, rfl, by simp, fun k _ hk => setRow_other w g k _ (fun e => hk (by rw [e]))⟩)
theorem Sm.renew {w w' : World} {g used : Nat} {len : Int} {st sch : List UInt32} {blk last : List UInt8} {mid : List Value} (h : Sm w g st blk used len last mid sch)
    (hw : w'.heap[g]? = some (.cells ((smL st blk used len last mid sch).take 74 ++ newSch blk ++ (smL st blk used len last mid sch).drop (74 + 131)).toArray 169 (0, 0))) :
    Sm w' g st blk used len blk (onceV false) (List.replicate 64 0) := by
  refine ⟨hw.trans ?_, h.l1, h.l2, h.l2, by simp, rfl⟩
  congr 3
  have a1 := h.l1
  have a2 := h.l2
  have a3 := h.l3
  have a4 := h.l4
  have am := h.lm
  have el : (smL st blk used len last mid sch).length = 205 := by simp [smL, bcs_length, a1, a2, a3, a4, am]
  rw [List.drop_of_length_le (by omega), List.append_nil]
  have e1 : smL st blk used len last mid sch = (st.map cu ++ (bcs blk ++ [Value.int .i64 used, Value.int .u64 len])) ++ (bcs last ++ (mid ++ sch.map cu)) := by simp [smL]
  have e2 : (st.map cu ++ (bcs blk ++ [Value.int .i64 used, Value.int .u64 len])).length = 74 := by simp [bcs_length, a1, a2]
  rw [e1, ← e2, List.take_left]
  simp [smL, newSch]
theorem Sm.blk_range {w : World} {g used : Nat} {len : Int} {st sch : List UInt32} {blk last : List UInt8} {mid : List Value} (h : Sm w g st blk used len last mid sch) : w.rangeAt g 8 (bcs blk) := fun j v hv => by
  have hj : j < blk.length := by have := (List.getElem?_eq_some_iff.1 hv).1; rwa [bcs_length] at this
  rw [h.blk_cell j (by rw [← h.l2]; exact hj), ← hv, bcs_get]
  simp [List.getD, hj, bc, ub]
theorem Sm.last_range {w : World} {g used : Nat} {len : Int} {st sch : List UInt32} {blk last : List UInt8} {mid : List Value} (h : Sm w g st blk used len last mid sch) : w.rangeAt g 74 (bcs last) := fun j v hv => by
  have hj : j < last.length := by have := (List.getElem?_eq_some_iff.1 hv).1; rwa [bcs_length] at this
  rw [h.last_cell j (by rw [← h.l3]; exact hj), ← hv, bcs_get]
  simp [List.getD, hj, bc, ub]
theorem size_blk : (Tryz.prog.info? 165).map (·.size) = some 64 := by kernel_rfl
theorem equal_blk (a b : List UInt8) (ha : a.length = 64) (hb : b.length = 64) (w : World) : (Op.equalIn 10000 165 (.agg (bcs a).toArray) (.agg (bcs b).toArray)).run Tryz.prog w = .ok (a == b) w :=
  run_equalIn_bytes w 9998 165 5 64 Tryz.underlying165 Tryz.underlying5 (fun w' => by kernel_rfl) a b ha hb
theorem idx8 (T : St) (t : Nat) (ht : t < 8) (w : World) : (Instr.index 137 (.agg #[.int .u32 (u T.a),.int .u32 (u T.b),.int .u32 (u T.c),.int .u32 (u T.d),.int .u32 (u T.e),.int .u32 (u T.f),.int .u32 (u T.g),.int .u32 (u T.h)]) (.int .i64 (t : Int))).run Tryz.prog w = .ok (.int .u32 (u (T.l.getD t 0))) w := by
  obtain rfl | rfl | rfl | rfl | rfl | rfl | rfl | rfl : t = 0 ∨ t = 1 ∨ t = 2 ∨ t = 3 ∨ t = 4 ∨ t = 5 ∨ t = 6 ∨ t = 7 := by omega
  all_goals kernel_rfl

/-- THE ROUND CONSTANTS LIE IN THEIR VARIABLE. -/
def RC (w : World) : Prop := ∀ i, i < 64 → w.cell? ⟨0, i, none⟩ = some (.int .u32 (u (kk i)))
theorem RC.grown {w w' : World} {g : Nat} (h : RC w) (k : w.grownBy w' (some g)) (hg : g ≠ 0) : RC w' := fun i hi => by
  have hc := h i hi
  have hlt := World.block_lt_of_cell? w _ hc
  rw [World.cell?_of_block (w := w) (a := ⟨0, i, none⟩) (k.block _ hlt (fun e => hg (Option.some.inj e).symm))]
  exact hc
theorem RC.apart {w : World} {g : Nat} {st : List UInt32} {blk : List UInt8} {used : Nat} {len : Int} {last : List UInt8} {mid : List Value} {sch : List UInt32} (h : RC w) (hS : Sm w g st blk used len last mid sch) : g ≠ 0 := by
  rintro rfl
  have h1 := h 8 (by omega)
  have h2 := hS.blk_cell 0 (by omega)
  rw [Nat.add_zero, h1] at h2
  cases h2

set_option maxRecDepth 1000000 in
set_option maxHeartbeats 8000000 in
theorem mix_any : MixC RC := by
  intro g S blk used len w hC hSo
  obtain ⟨last, d, sch, hS, hd⟩ := hSo
  have HD := Lib.hid hd
  clear hd
  have hg0 := hC.apart hS
  have HA := Lib.hid hg0
  clear hg0
  rcases Classical.em (blk = last) with hb | hb
  · subst hb
    have he := equal_blk blk blk hS.l2 hS.l2
    rw [show (blk == blk) = true by simp] at he
    go_enter Tryz.func124, Tryz.ntmps124
    go_wp2_with fail
    refine region_all (by kernel_rfl) (by kernel_rfl) ?_
    intro w1 h1 b1
    have hS1 := hS.kept (heap_hid h1 g)
    iterate 3 still_step
    refine wpStill_load_mid rfl 165 _ rfl g 8 rfl (bcs blk) _ hS1.blk_range Tryz.underlying165 rfl (by rw [bcs_length, hS1.l2]; exact size_blk) ?_
    iterate 4 still_step
    refine wpStill_load_mid rfl 165 _ rfl g 74 rfl (bcs blk) _ hS1.last_range Tryz.underlying165 rfl (by rw [bcs_length, hS1.l3]; exact size_blk) ?_
    still_step
    refine wpStill_nil ?_
    go_wp2_with fail
    refine region_tail 8 (by kernel_rfl) (by kernel_rfl) ?_
    intro w3 h3 b3
    have hS3 := hS1.kept (heap_hid h3 g)
    simp only [List.take_succ_cons, List.take_zero, List.drop_succ_cons, List.drop_zero]
    iterate 8 still_step
    refine wpStill_nil ?_
    go_wp2_with (go_at_call 86; refine (do_any g S.l blk used len blk _ _ _ hS3 HD).mono ?_; rintro e w4 ⟨rfl, hS4, g4⟩)
    go_wp2_with fail
    have s0 : w4.cell? ⟨g, 0, none⟩ = some (.int .u32 (u S.a)) := hS4.st_cell 0 (by omega)
    have s1 : w4.cell? ⟨g, 1, none⟩ = some (.int .u32 (u S.b)) := hS4.st_cell 1 (by omega)
    have s2 : w4.cell? ⟨g, 2, none⟩ = some (.int .u32 (u S.c)) := hS4.st_cell 2 (by omega)
    have s3 : w4.cell? ⟨g, 3, none⟩ = some (.int .u32 (u S.d)) := hS4.st_cell 3 (by omega)
    have s4 : w4.cell? ⟨g, 4, none⟩ = some (.int .u32 (u S.e)) := hS4.st_cell 4 (by omega)
    have s5 : w4.cell? ⟨g, 5, none⟩ = some (.int .u32 (u S.f)) := hS4.st_cell 5 (by omega)
    have s6 : w4.cell? ⟨g, 6, none⟩ = some (.int .u32 (u S.g)) := hS4.st_cell 6 (by omega)
    have s7 : w4.cell? ⟨g, 7, none⟩ = some (.int .u32 (u S.h)) := hS4.st_cell 7 (by omega)
    go_quiet (fail)
    go_wp2_with fail
    have G4 : w.grownBy w4 (some g) := grown_then (grown_row (grown_row (World.grownBy.refl _ _) b1) b3) g4
    have hS5 := hS4.kept (w' := w4.drewN nq) rfl
    have G5 : w.grownBy (w4.drewN nq) (some g) := grown_drewN G4
    have R5 := hC.grown G5 HA.out
    clear s0 s1 s2 s3 s4 s5 s6 s7 g4
    go_loopw [2,3,4,5,6,7,8,9,84] (fun va vb vc vd ve vf vg vh i wq => ∃ (k : Nat) (T : St),k ≤ 64 ∧ Hid (T = rounds (sched (words blk 16) 48) S k) ∧ i = .int .i64 k ∧ va = .int .u32 (u T.a) ∧ vb = .int .u32 (u T.b) ∧ vc = .int .u32 (u T.c) ∧ vd = .int .u32 (u T.d) ∧ ve = .int .u32 (u T.e) ∧ vf = .int .u32 (u T.f) ∧ vg = .int .u32 (u T.g) ∧ vh = .int .u32 (u T.h) ∧ Sm wq g S.l blk used len blk (onceV true) (sched (words blk 16) 48) ∧ RC wq ∧ w.grownBy wq (some g)) (fun _ _ _ _ _ _ _ _ i _ => 64 - (intOf i).toNat)
    case atStart => exact ⟨0, S, by omega, rfl, rfl, rfl, rfl, rfl, rfl, rfl, rfl, rfl, rfl, hS5, R5, G5⟩
    case round =>
      clear hS5 R5 G5 G4
      obtain ⟨k, T, hk, HT, rfl, rfl, rfl, rfl, rfl, rfl, rfl, rfl, rfl, hQ, hR, hG⟩ := hrel
      by_cases hk64 : k < 64
      · have r1 := u_xor
        have r2 := u_and
        have r3 := u_inv
        have r4 := u_wrap
        have r5 := u_add
        have cw := hQ.sch_cell k hk64
        have cr := hR k hk64
        have k64 : (k : Int) < 64 := by omega
        go_wp2_with fail
        go_quiet ((go_at_call 136; exact Calls.quiet_of_same (turned_lit _ _ _ _ _ (by omega) (by omega) (by omega))))
        go_wp2_with (go_at_call 136; refine (turned_lit _ _ _ _ _ (by omega) (by omega) (by omega)).mono ?_; rintro e w' ⟨rfl, rfl⟩)
        go_roundw
        case rel =>
          refine ⟨k + 1, T.step (kk k) ((sched (words blk 16) 48).getD k 0), by omega, ?_, by go_num, rfl, rfl, rfl, rfl, rfl, rfl, rfl, rfl, hQ.kept rfl, fun i hi => hR i hi, grown_drewN hG⟩
          unfold Hid
          rw [rounds, ← HT.out]
        case measure => simp [intOf]; omega
      · obtain rfl : k = 64 := by omega
        have HT2 : Hid (T = rounds (sched (words blk 16) 48) S 64) := HT
        clear HT hR hk hk64
        go_wp2_with fail
        simp only [show ((64 : Nat) : Int) = 64 from rfl]
        go_loopw [150] (fun i wq => ∃ t : Nat,t ≤ 8 ∧ i = .int .i64 t ∧ Sm wq g (sums S T t) blk used len blk (onceV true) (sched (words blk 16) 48) ∧ w.grownBy wq (some g)) (fun i _ => 8 - (intOf i).toNat)
        case atStart => exact ⟨0, by omega, rfl, hQ, hG⟩
        case round =>
          clear hQ hG
          obtain ⟨t, ht, rfl, hQ, hG⟩ := hrel
          by_cases ht8 : t < 8
          · have hix := idx8 T t ht8
            have za := hQ.st_cell t ht8
            rw [sums_get S T t ht8] at za
            have HX : Hid (sums S T (t + 1) = (sums S T t).set t (S.l.getD t 0 + T.l.getD t 0)) := rfl
            generalize S.l.getD t 0 = x at za HX
            generalize T.l.getD t 0 = y at hix HX
            have t8 : (t : Int) < 8 := by omega
            have r4 := u_wrap
            have r5 := u_add
            go_wp2_with fail
            refine region_tail 11 (by kernel_rfl) (by kernel_rfl) ?_
            intro w5 h5 b5
            have hS5 := hQ.kept (heap_hid h5 g)
            replace za := cell_hid h5 za
            have tf := hS5.free t
            simp only [List.take_succ_cons, List.take_zero, List.drop_succ_cons, List.drop_zero]
            iterate 11 still_step
            refine wpStill_nil ?_
            go_wp2_with fail
            go_roundw
            case rel => exact ⟨t + 1, by omega, by go_num, by rw [HX.out]; exact hS5.set_st t _ ht8, grown_set (grown_row hG b5)⟩
            case measure => simp [intOf]; omega
          · obtain rfl : t = 8 := by omega
            have hfin : Smo wr g (S.mix blk).l blk used len := ⟨blk, true, _, by rw [St.mix, ← HT2.out, ← sums_all]; exact hQ, fun _ => rfl⟩
            clear hQ HT2
            go_wp2_with fail
            go_end0
            exact ⟨rfl, hfin, hG⟩
  · have he := equal_blk blk last hS.l2 hS.l3
    rw [show (blk == last) = false by simp [hb]] at he
    clear hb
    go_enter Tryz.func124, Tryz.ntmps124
    go_wp2_with fail
    refine region_all (by kernel_rfl) (by kernel_rfl) ?_
    intro w1 h1 b1
    have hS1 := hS.kept (heap_hid h1 g)
    iterate 3 still_step
    refine wpStill_load_mid rfl 165 _ rfl g 8 rfl (bcs blk) _ hS1.blk_range Tryz.underlying165 rfl (by rw [bcs_length, hS1.l2]; exact size_blk) ?_
    iterate 4 still_step
    refine wpStill_load_mid rfl 165 _ rfl g 74 rfl (bcs last) _ hS1.last_range Tryz.underlying165 rfl (by rw [bcs_length, hS1.l3]; exact size_blk) ?_
    still_step
    refine wpStill_nil ?_
    go_wp2_with (first
      | ((with_reducible refine wpList_load_mid rfl 165 _ rfl g 8 ?_ (bcs blk) _ hS1.blk_range Tryz.underlying165 rfl (by rw [bcs_length, hS1.l2]; exact size_blk) ?_); (rfl))
      | ((with_reducible refine wpList_build_at (o := ⟨some 32,_,_,_,_,_⟩) rfl 167 _ rfl (newSch blk).toArray ?_ ?_); (simp only [List.map_toArray,List.map_cons,List.map_nil]; exact built_sch blk hS.l2))
      | ((with_reducible refine wpList_store_in rfl 167 _ _ rfl g 74 (newSch blk) _ _ ?_ ?_ hS1.row 131 sch_size (newSch_length blk hS.l2) (by simp [smL,bcs_length,hS.l1,hS.l2,hS.l3,hS.l4,hS.lm]) (newSch_one blk) ?_); (rfl); (rfl); (intro w2 h2 g2; have hS2 := hS1.renew h2)))
    refine region_tail 8 (by kernel_rfl) (by kernel_rfl) ?_
    intro w3 h3 b3
    have hS3 := hS2.kept (heap_hid h3 g)
    simp only [List.take_succ_cons, List.take_zero, List.drop_succ_cons, List.drop_zero]
    iterate 8 still_step
    refine wpStill_nil ?_
    go_wp2_with (go_at_call 86; refine (do_any g S.l blk used len blk _ _ _ hS3 (Lib.hid (fun h => by cases h))).mono ?_; rintro e w4 ⟨rfl, hS4, g4⟩)
    go_wp2_with fail
    have s0 : w4.cell? ⟨g, 0, none⟩ = some (.int .u32 (u S.a)) := hS4.st_cell 0 (by omega)
    have s1 : w4.cell? ⟨g, 1, none⟩ = some (.int .u32 (u S.b)) := hS4.st_cell 1 (by omega)
    have s2 : w4.cell? ⟨g, 2, none⟩ = some (.int .u32 (u S.c)) := hS4.st_cell 2 (by omega)
    have s3 : w4.cell? ⟨g, 3, none⟩ = some (.int .u32 (u S.d)) := hS4.st_cell 3 (by omega)
    have s4 : w4.cell? ⟨g, 4, none⟩ = some (.int .u32 (u S.e)) := hS4.st_cell 4 (by omega)
    have s5 : w4.cell? ⟨g, 5, none⟩ = some (.int .u32 (u S.f)) := hS4.st_cell 5 (by omega)
    have s6 : w4.cell? ⟨g, 6, none⟩ = some (.int .u32 (u S.g)) := hS4.st_cell 6 (by omega)
    have s7 : w4.cell? ⟨g, 7, none⟩ = some (.int .u32 (u S.h)) := hS4.st_cell 7 (by omega)
    go_quiet (fail)
    go_wp2_with fail
    have G4 : w.grownBy w4 (some g) := grown_then (grown_row (grown_then (grown_row (World.grownBy.refl _ _) b1) g2) b3) g4
    have hS5 := hS4.kept (w' := w4.drewN nq) rfl
    have G5 : w.grownBy (w4.drewN nq) (some g) := grown_drewN G4
    have R5 := hC.grown G5 HA.out
    clear s0 s1 s2 s3 s4 s5 s6 s7 g4 g2
    go_loopw [2,3,4,5,6,7,8,9,84] (fun va vb vc vd ve vf vg vh i wq => ∃ (k : Nat) (T : St),k ≤ 64 ∧ Hid (T = rounds (sched (words blk 16) 48) S k) ∧ i = .int .i64 k ∧ va = .int .u32 (u T.a) ∧ vb = .int .u32 (u T.b) ∧ vc = .int .u32 (u T.c) ∧ vd = .int .u32 (u T.d) ∧ ve = .int .u32 (u T.e) ∧ vf = .int .u32 (u T.f) ∧ vg = .int .u32 (u T.g) ∧ vh = .int .u32 (u T.h) ∧ Sm wq g S.l blk used len blk (onceV true) (sched (words blk 16) 48) ∧ RC wq ∧ w.grownBy wq (some g)) (fun _ _ _ _ _ _ _ _ i _ => 64 - (intOf i).toNat)
    case atStart => exact ⟨0, S, by omega, rfl, rfl, rfl, rfl, rfl, rfl, rfl, rfl, rfl, rfl, hS5, R5, G5⟩
    case round =>
      clear hS5 R5 G5 G4
      obtain ⟨k, T, hk, HT, rfl, rfl, rfl, rfl, rfl, rfl, rfl, rfl, rfl, hQ, hR, hG⟩ := hrel
      by_cases hk64 : k < 64
      · have r1 := u_xor
        have r2 := u_and
        have r3 := u_inv
        have r4 := u_wrap
        have r5 := u_add
        have cw := hQ.sch_cell k hk64
        have cr := hR k hk64
        have k64 : (k : Int) < 64 := by omega
        go_wp2_with fail
        go_quiet ((go_at_call 136; exact Calls.quiet_of_same (turned_lit _ _ _ _ _ (by omega) (by omega) (by omega))))
        go_wp2_with (go_at_call 136; refine (turned_lit _ _ _ _ _ (by omega) (by omega) (by omega)).mono ?_; rintro e w' ⟨rfl, rfl⟩)
        go_roundw
        case rel =>
          refine ⟨k + 1, T.step (kk k) ((sched (words blk 16) 48).getD k 0), by omega, ?_, by go_num, rfl, rfl, rfl, rfl, rfl, rfl, rfl, rfl, hQ.kept rfl, fun i hi => hR i hi, grown_drewN hG⟩
          unfold Hid
          rw [rounds, ← HT.out]
        case measure => simp [intOf]; omega
      · obtain rfl : k = 64 := by omega
        have HT2 : Hid (T = rounds (sched (words blk 16) 48) S 64) := HT
        clear HT hR hk hk64
        go_wp2_with fail
        simp only [show ((64 : Nat) : Int) = 64 from rfl]
        go_loopw [150] (fun i wq => ∃ t : Nat,t ≤ 8 ∧ i = .int .i64 t ∧ Sm wq g (sums S T t) blk used len blk (onceV true) (sched (words blk 16) 48) ∧ w.grownBy wq (some g)) (fun i _ => 8 - (intOf i).toNat)
        case atStart => exact ⟨0, by omega, rfl, hQ, hG⟩
        case round =>
          clear hQ hG
          obtain ⟨t, ht, rfl, hQ, hG⟩ := hrel
          by_cases ht8 : t < 8
          · have hix := idx8 T t ht8
            have za := hQ.st_cell t ht8
            rw [sums_get S T t ht8] at za
            have HX : Hid (sums S T (t + 1) = (sums S T t).set t (S.l.getD t 0 + T.l.getD t 0)) := rfl
            generalize S.l.getD t 0 = x at za HX
            generalize T.l.getD t 0 = y at hix HX
            have t8 : (t : Int) < 8 := by omega
            have r4 := u_wrap
            have r5 := u_add
            go_wp2_with fail
            refine region_tail 11 (by kernel_rfl) (by kernel_rfl) ?_
            intro w5 h5 b5
            have hS5 := hQ.kept (heap_hid h5 g)
            replace za := cell_hid h5 za
            have tf := hS5.free t
            simp only [List.take_succ_cons, List.take_zero, List.drop_succ_cons, List.drop_zero]
            iterate 11 still_step
            refine wpStill_nil ?_
            go_wp2_with fail
            go_roundw
            case rel => exact ⟨t + 1, by omega, by go_num, by rw [HX.out]; exact hS5.set_st t _ ht8, grown_set (grown_row hG b5)⟩
            case measure => simp [intOf]; omega
          · obtain rfl : t = 8 := by omega
            have hfin : Smo wr g (S.mix blk).l blk used len := ⟨blk, true, _, by rw [St.mix, ← HT2.out, ← sums_all]; exact hQ, fun _ => rfl⟩
            clear hQ HT2
            go_wp2_with fail
            go_end0
            exact ⟨rfl, hfin, hG⟩
/-- THE SLICE ao, n READS AS THE ROWS ps OF BYTES. -/
structure IsP (w : World) (ao : Option Addr) (n : Nat) (ps : List (List UInt8)) : Prop where
  len : ps.length = n
  has : 0 < n → ∃ a, ao = some a
  cell : ∀ a, ao = some a → ∀ j, j < n → ∃ bo bn bc, w.cell? (a.add j) = some (.slice bo bn bc) ∧ IsB w bo bn bc (ps.getD j [])
theorem IsP.past {w w' : World} {ao : Option Addr} {n : Nat} {ps : List (List UInt8)} (h : IsP w ao n ps) (hb : Below w.heap.size w w') : IsP w' ao n ps :=
  ⟨h.len, h.has, fun a ha j hj => by
    obtain ⟨bo, bn, bc, hc, hB⟩ := h.cell a ha j hj
    refine ⟨bo, bn, bc, ?_, hB.past hb⟩
    rw [hb.cell (World.block_lt_of_cell? w _ hc)]
    exact hc⟩
/-- A new row of slices of bytes. -/
theorem isP_lit (w : World) (t : TypeId) (vs : Array Value) (ps : List (List UInt8)) (n : Nat) (hn : ps.length = n) (hv : ∀ j,j < n → ∃ bo bn bc,vs[j]? = some (.slice bo bn bc) ∧ IsB w bo bn bc (ps.getD j [])) : IsP (w.alloc (.cells vs t)) (some ⟨w.heap.size,0,none⟩) n ps :=
  ⟨hn, fun _ => ⟨_, rfl⟩, fun a ha j hj => by
    obtain rfl := Option.some.inj ha
    obtain ⟨bo, bn, bc, h1, h2⟩ := hv j hj
    refine ⟨bo, bn, bc, ?_, h2.alloc _⟩
    rw [Addr.add_lit, Nat.zero_add, cell_of_row _ _ _ _ t (0, 0) (heap_alloc_new w _), h1]⟩


/-- 'make([]byte, N)'. -/
theorem wpList_make_zeros {P : Program} {w : World} {ops : Array Oper} {rest : List Oper} {o : Oper} {a : Act} {Q : Exit → Act → World → Prop} (hgd : o.guard = none) (l c : Operand) (t : TypeId)
    (ho : o.op = Op.makeSlice t l c) (e : TypeId) (hB : ByteTy P t e) (kl kc : IntKind) (L C : Int) (N : Nat) (hl : a.eval l = .int kl L) (hc : a.eval c = .int kc C) (hL : L = (N : Int)) (hC : C = (N : Int)) (hN : N ≤ 1000000)
    (hK : ∀ w' g, IsB w' (some ⟨g, 0, none⟩) N N (List.replicate N 0) → Below w.heap.size w w' → w.heap.size ≤ g → wpList P ops Q rest (a.put o.dst (.slice (some ⟨g, 0, none⟩) N N)) w') :
    wpList P ops Q (o :: rest) a w := by
  obtain ⟨i, hi, hz, hsize, hby⟩ := hB.info
  refine wpList_make_full w hgd l c t ho w.heap.size e i (.int .u8 0) 1 hB.ht hi hz hsize kl kc L C N hl hc hL hC (by rw [hby]; omega) (by unfold maxLen; omega) (Nat.le_refl _) fun w' hown hgr => ?_
  refine hK w' _ ?_ ((Below.refl _ w).grown hgr (Nat.le_refl _) (fun k h => by cases h)) (Nat.le_refl _)
  rcases hown.2 with ⟨h, _⟩ | ⟨g, cap, cur, hv, _, hg, hnc, hcm, hcs, htake⟩
  · cases h
  · simp only [Value.slice.injEq, Option.some.injEq, Addr.mk.injEq, and_true] at hv
    obtain ⟨rfl, _, rfl⟩ := hv
    rw [Nat.mul_one] at htake hcs
    refine OwnB.isB (e := e) ⟨by simp, Nat.le_refl _, hcm, cur, hg, hcs, ?_⟩
    rw [htake]
    show (madeCells #[Value.int .u8 0] N).toList = _
    rw [toList_madeCells_one]
    simp [bcs, bc]

/-- The eight bytes that say how long, the first k of them. -/
def fill8 (x : Nat) : Nat → List UInt8
  | 0 => List.replicate 8 0
  | k + 1 => (fill8 x k).set k (UInt8.ofNat (x / 256 ^ (7 - k)))
theorem fill8_length (x : Nat) : ∀ k, (fill8 x k).length = 8
  | 0 => rfl
  | k + 1 => by rw [fill8, List.length_set, fill8_length x k]
theorem fill8_all (x : Nat) : fill8 x 8 = be 8 x := by kernel_rfl
theorem zeroLen : (Tryz.prog.info? 187).map (fun i => i.zero) = some (some (.agg (bcs (List.replicate 8 0)).toArray)) := by kernel_rfl
theorem isB_one (w : World) (v : Value) (b : UInt8) (e : TypeId) (hv : v = bc b) : IsB (w.alloc (.cells #[v] e)) (some ⟨w.heap.size,0,none⟩) 1 1 [b] := isB_lit w #[v] e [b] 1 (by rw [hv]; rfl) rfl (by omega)
theorem pad_byte (n r : Nat) : 8 * (n : Int) / 2 ^ (8 * r) % 256 = ub (UInt8.ofNat (8 * n / 256 ^ r)) := by
  have e : (2 : Int) ^ (8 * r) = ((256 ^ r : Nat) : Int) := by rw [Int.pow_mul]; simp
  have e2 : 8 * (n : Int) = ((8 * n : Nat) : Int) := by omega
  unfold ub
  rw [e, e2, ← Int.natCast_ediv, UInt8.toNat_ofNat']
  omega
theorem Ab.isB {w : World} {t : TypeId} {g : Nat} {l : List UInt8} (h : Ab w t g l) (n : Nat) (hn : l.length = n) (hn2 : n ≤ 1000000) : IsB w (some ⟨g, 0, none⟩) n n l :=
  ⟨hn, Nat.le_refl _, by unfold maxLen; omega, (fun h => by cases h), fun a ha j x hx => by
    obtain rfl := Option.some.inj ha
    have hj : j < l.length := (List.getElem?_eq_some_iff.1 hx).1
    rw [Addr.add_lit, Nat.zero_add, h.cell j hj]
    simp [bc, ub, List.getD, hx]⟩
theorem Way.kept {w w' : World} {g : Nat} {m : List UInt8} {L : Int} (h : Way w g m L) (k : w'.heap[g]? = w.heap[g]?) : Way w' g m L := by
  obtain ⟨S, blk, used, hT, last, d, sch, hS, hd⟩ := h
  exact ⟨S, blk, used, hT, last, d, sch, hS.kept k, hd⟩
theorem Way.lt {w : World} {g : Nat} {m : List UInt8} {L : Int} (h : Way w g m L) : g < w.heap.size := by
  obtain ⟨S, blk, used, hT, last, d, sch, hS, hd⟩ := h
  exact hS.lt

set_option maxRecDepth 100000 in
set_option maxHeartbeats 4000000 in
theorem pad_in (C : World → Prop) (hmix : MixC C) (g : Nat) (hC : ∀ a b : World, C a → Below g a b → C b) (m : List UInt8) (n : Nat) (w : World)
    (hc : C w) (h : Way w g m n) (hn : m.length = n) (hn2 : n ≤ 1000000) :
    Calls Tryz.prog 103 #[.pointer (some ⟨g, 0, none⟩)] w fun e w' => e = .returned (.tuple #[]) ∧ (∃ L, Way w' g (padded m) L) ∧ Below g w w' := by
  have HN := Lib.hid hn
  clear hn
  have hgw := h.lt
  obtain ⟨S, blk, used, hT, last, d, sch, hS, hd⟩ := id h
  clear hd
  have y0 := hS.len_cell
  go_enter Tryz.func103, Tryz.ntmps103
  go_wp2_with fail
  refine (take_in C hmix g hC m n _ 1 1 [128] _ (hC _ _ hc ((Below.refl g _).alloc (Nat.le_of_lt hgw) _)) (h.kept (Below.heap_alloc _ _ _ hgw)) (isB_one w _ 128 5 rfl) (fun _ a ha => by cases ha; exact fun e => absurd e (by simp; omega)) (by omega) (by omega)).mono ?_
  rintro e w1 ⟨rfl, W1, c1, g1⟩
  have gA : Below g w w1 := ((Below.refl g _).alloc (Nat.le_of_lt hgw) _).trans (gbelow g1 (by simp; omega))
  have hg1 := W1.lt
  obtain ⟨S1, blk1, used1, hT1, last1, d1, sch1, hS1, hd1⟩ := id W1
  clear hd1
  have hu1 : used1 = (n + 1) % 64 := by have := hT1.hused; rw [List.length_append, HN.out] at this; exact this
  obtain ⟨Z, hZ⟩ : ∃ Z, Z = (119 - n % 64) % 64 := ⟨_, rfl⟩
  have eZ : (120 - (used1 : Int)) % 64 = (Z : Int) := by omega
  have hu2 : used1 ≤ 63 := by omega
  have hZ63 : Z ≤ 63 := by omega
  have HZ := Lib.hid hZ
  have y1 := hS1.used_cell
  clear hZ hu1 y0 hS hT hc h g1
  go_wp2_with (at_make; refine wpList_make_zeros rfl _ _ 81 rfl 5 byteTy .i64 .i64 _ _ Z rfl rfl eZ eZ (by omega) ?_; intro w2 gz hz b2 q2)
  refine (take_in C hmix g hC (m ++ [128]) (n + 1) _ Z Z (List.replicate Z 0) _ (hC _ _ c1 (b2.mono (Nat.le_of_lt hg1))) (W1.kept (b2.block g hg1)) hz (fun _ a ha e => by cases ha; simp at e; omega) (by omega) (by omega)).mono ?_
  rintro e w3 ⟨rfl, W3, c3, g3⟩
  have gB : Below g w w3 := (gA.trans (b2.mono (Nat.le_of_lt hg1))).trans (gbelow g3 (Nat.le_trans (Nat.le_of_lt hg1) b2.size))
  have hg3 := W3.lt
  clear y1 hS1 hT1 W1 c1 gA hz b2 q2 g3 eZ
  go_wp2_with (with_reducible refine wpList_alloc_blk rfl 187 rfl _ zeroLen ?_; intro w4 gl h4 b4 q4)
  have hgl : g < gl := Nat.lt_of_lt_of_le hg3 q4
  have W4 := W3.kept (b4.block g hg3)
  have gC : Below g w w4 := gB.trans (b4.mono (Nat.le_of_lt hg3))
  have c4 := hC _ _ c3 (b4.mono (Nat.le_of_lt hg3))
  have A4 : Ab w4 187 gl (fill8 (8 * n) 0) := h4.out
  clear h4 b4 q4 gB c3 W3
  go_loopw [22] (fun i wq => ∃ k : Nat, k ≤ 8 ∧ i = .int .i64 k ∧ Ab wq 187 gl (fill8 (8 * n) k) ∧ Below gl w4 wq) (fun i _ => 8 - (intOf i).toNat)
  case atStart => exact ⟨0, Nat.zero_le _, rfl, A4, Below.refl _ _⟩
  case round =>
    clear A4
    obtain ⟨k, hk, rfl, hA, bA⟩ := hrel
    by_cases hk8 : k < 8
    · obtain ⟨r, hr⟩ : ∃ r : Nat, k + r = 7 := ⟨7 - k, by omega⟩
      have er : 56 - 8 * (k : Int) = 8 * (r : Int) := by omega
      have HF : Hid (fill8 (8 * n) (k + 1) = (fill8 (8 * n) k).set k (UInt8.ofNat (8 * n / 256 ^ r))) := by
        unfold Hid
        rw [fill8, show 7 - k = r by omega]
      have hr7 : r ≤ 7 := by omega
      have k8 : (k : Int) < 8 := by omega
      have tw := hA.cell k (by rw [fill8_length]; exact hk8)
      have tf := hA.free k
      clear hr
      go_wp2_with fail
      go_roundw
      case rel =>
        refine ⟨k + 1, by omega, by go_num, ?_, bA.setCell (Nat.le_refl _) _⟩
        rw [HF.out, pad_byte]
        exact hA.set k _
      case measure => simp [intOf]; omega
    · obtain rfl : k = 8 := by omega
      have hlast : IsB wr (some ⟨gl, 0, none⟩) 8 8 (be 8 (8 * n)) := by
        rw [← fill8_all]
        exact hA.isB 8 (fill8_length _ 8) (by omega)
      have W5 := W4.kept (bA.block g hgl)
      have gD : Below g w wr := gC.trans (bA.mono (Nat.le_of_lt hgl))
      have c5 := hC _ _ c4 (bA.mono (Nat.le_of_lt hgl))
      go_wp2_with fail
      refine (take_in C hmix g hC (m ++ [128] ++ List.replicate Z 0) (n + 1 + Z) _ 8 8 (be 8 (8 * n)) _ c5 W5 hlast (fun _ a ha e => by cases ha; simp at e; omega) (by omega) (by omega)).mono ?_
      rintro e w6 ⟨rfl, W6, c6, g6⟩
      go_wp2_with fail
      go_end0
      refine ⟨rfl, ⟨((n + 1 + Z + 8 : Nat) : Int), ?_⟩, gD.trans (gbelow g6 (Nat.le_of_lt W5.lt))⟩
      have e : m ++ [128] ++ List.replicate Z 0 ++ be 8 (8 * n) = padded m := by
        unfold padded padding
        rw [HN.out, ← HZ.out]
        simp
      rw [← e]
      exact W6

theorem IsB.lt {w : World} {ao : Option Addr} {n cap : Nat} {l : List UInt8} (h : IsB w ao n cap l) (hn : 0 < n) : ∀ a, ao = some a → a.block < w.heap.size := fun a ha => by
  have hl := h.len
  have hc := h.cell a ha 0 (l.getD 0 0) (by simp [List.getD, show 0 < l.length by omega])
  have e : (a.add 0).block = a.block := block_add a 0
  rw [← e]
  exact World.block_lt_of_cell? w _ hc
/-- A SLICE WHOSE ADDRESS LIES BELOW, empty or not. -/
theorem RC.below {w w' : World} {B : Nat} (h : RC w) (k : Below B w w') (hB : 0 < B) : RC w' := fun i hi => by
  rw [k.cell (p := ⟨0, i, none⟩) hB]
  exact h i hi
theorem RC.lt {w : World} (h : RC w) : 0 < w.heap.size := World.block_lt_of_cell? w _ (h 0 (by omega))
theorem RC.past {w w' : World} (h : RC w) (k : Below w.heap.size w w') : RC w' := h.below k h.lt
/-- A new sum's block. -/
def sum0 : List Value := smL H0.l (List.replicate 64 0) 0 0 (List.replicate 64 0) (onceV false) (List.replicate 64 0)
def sumZ : List Value := smL (List.replicate 8 0) (List.replicate 64 0) 0 0 (List.replicate 64 0) (onceV false) (List.replicate 64 0)
theorem sumZero : (Tryz.prog.info? 169).map (fun i => i.zero) = some (some (.agg sumZ.toArray)) := by kernel_rfl
theorem sumSize : (Tryz.prog.info? 169).map (·.size) = some 205 := by kernel_rfl
theorem built_sum : Tryz.prog.built 169 [(0, .agg (cus H0.l))] = some sum0.toArray := by kernel_rfl
theorem sum0_len : sum0.toArray.size = 205 := by kernel_rfl
theorem sumZ_len : sumZ.toArray.size = 205 := by kernel_rfl
theorem sum0_one : sum0.toArray.all (·.oneCell') = true := by kernel_rfl
theorem way0 {w : World} {g : Nat} (h : w.heap[g]? = some (.cells sum0.toArray 169 (0, 0))) : Way w g [] 0 :=
  ⟨H0, List.replicate 64 0, 0, Taken.none _, List.replicate 64 0, false, List.replicate 64 0, ⟨h, rfl, List.length_replicate, List.length_replicate, List.length_replicate, rfl⟩, fun h => by cases h⟩
theorem flatten_snoc (ps : List (List UInt8)) (k : Nat) (hk : k < ps.length) : (ps.take (k + 1)).flatten = (ps.take k).flatten ++ ps.getD k [] := by
  rw [List.take_add_one]
  simp only [List.getD, List.getElem?_eq_getElem hk, Option.toList_some, Option.getD_some, List.flatten_append]
  simp
theorem flatten_le (ps : List (List UInt8)) (k : Nat) : (ps.take k).flatten.length ≤ ps.flatten.length := by
  have h := congrArg (fun l : List (List UInt8) => l.flatten.length) (List.take_append_drop k ps)
  simp only [List.flatten_append, List.length_append] at h
  omega
theorem part_le (ps : List (List UInt8)) (k : Nat) (hk : k < ps.length) : (ps.getD k []).length ≤ ps.flatten.length := by
  have h1 := flatten_le ps (k + 1)
  rw [flatten_snoc ps k hk, List.length_append] at h1
  omega

/-- A new row of slices of bytes. -/
theorem isP_one (w : World) (t : TypeId) (bo : Option Addr) (bn bc : Nat) (l : List UInt8) (h : IsB w bo bn bc l) : IsP (w.alloc (.cells #[.slice bo bn bc] t)) (some ⟨w.heap.size, 0, none⟩) 1 [l] :=
  isP_lit w t _ _ 1 rfl fun j hj => by
    obtain rfl : j = 0 := by omega
    exact ⟨bo, bn, bc, rfl, h⟩
theorem isP_two (w : World) (t : TypeId) (bo : Option Addr) (bn bc : Nat) (l : List UInt8) (h : IsB w bo bn bc l) (bo2 : Option Addr) (bn2 bc2 : Nat) (l2 : List UInt8) (h2 : IsB w bo2 bn2 bc2 l2) :
    IsP (w.alloc (.cells #[.slice bo bn bc, .slice bo2 bn2 bc2] t)) (some ⟨w.heap.size, 0, none⟩) 2 [l, l2] :=
  isP_lit w t _ _ 2 rfl fun j hj => by
    obtain rfl | rfl : j = 0 ∨ j = 1 := by omega
    · exact ⟨bo, bn, bc, rfl, h⟩
    · exact ⟨bo2, bn2, bc2, rfl, h2⟩
theorem isP_nil (w : World) (ao : Option Addr) : IsP w ao 0 [] := ⟨rfl, fun h => by omega, fun a _ j hj => by omega⟩
theorem RC.alloc {w : World} (h : RC w) (o : Obj) : RC (w.alloc o) := h.past ((Below.refl _ _).alloc (Nat.le_refl _) o)
theorem startState_any (w : World) : Calls Tryz.prog 101 #[] w fun e w' => e = .returned (.agg (cus H0.l)) ∧ Below w.heap.size w w' := by
  go_enter Tryz.func101, Tryz.ntmps101
  go_wp2_with fail
  refine bodyPost_ret (v := .agg #[Value.int IntKind.u32 1779033703,Value.int IntKind.u32 3144134277,Value.int IntKind.u32 1013904242,Value.int IntKind.u32 2773480762,Value.int IntKind.u32 1359893119,Value.int IntKind.u32 2600822924,Value.int IntKind.u32 528734635,Value.int IntKind.u32 1541459225]) (by simp [results, Tryz.results101, go_sem]) rfl ⟨by kernel_rfl,(Below.refl _ _).alloc (Nat.le_refl _) _⟩

set_option maxRecDepth 100000 in
set_option maxHeartbeats 4000000 in
theorem sum_any (ao : Option Addr) (n cap : Nat) (ps : List (List UInt8)) (w : World) (hC : RC w) (h : IsP w ao n ps) (hn : n ≤ 1000000) (hm : ps.flatten.length ≤ 1000000) :
    Calls Tryz.prog 70 #[.slice ao n cap] w fun e w' => e = .returned (.agg (bcs (sha ps.flatten)).toArray) ∧ Below w.heap.size w w' := by
  have hlt := hC.lt
  go_enter Tryz.func70, Tryz.ntmps70
  go_wp2_with (first
    | (go_at_call 101; refine (startState_any _).mono ?_; rintro e w2 ⟨rfl, b2⟩)
    | (with_reducible refine wpList_alloc_blk (o := ⟨some 2, _, _, _, _, _⟩) rfl 53 rfl _ zeroHash ?_; intro w1 gr h1 b1 q1)
    | (with_reducible refine wpList_alloc_blk (o := ⟨some 3, _, _, _, _, _⟩) rfl 169 rfl _ sumZero ?_; intro w3 g h3 b3 q3)
    | ((with_reducible refine wpList_build_at (o := ⟨some 7,_,_,_,_,_⟩) rfl 169 _ rfl sum0.toArray ?_ ?_); (simp only [List.map_toArray,List.map_cons,List.map_nil]; exact built_sum))
    | ((with_reducible refine wpList_store_blk rfl 169 _ _ rfl g _ sum0.toArray ?_ ?_ _ h3 205 sumSize sumZ_len sum0_len sum0_one ?_); (rfl); (rfl); (intro w4 h4 b4)))
  have hgrw : w.heap.size ≤ gr := q1
  have hw4 : Below w.heap.size w w4 := (below_on b1 (b2.mono (Nat.le_refl _))).trans (((b3.mono b2.size).mono b1.size).trans ((gbelow b4 (Nat.le_of_lt (Array.getElem?_eq_some_iff.1 h3.out).1)).mono (by have := b1.size; have := b2.size; omega)))
  have z1 := b1.size
  have z2 := b2.size
  have z3 := b3.size
  have z4 := b4.size
  have hgr1 : gr < w1.heap.size := (Array.getElem?_eq_some_iff.1 h1.out).1
  have hg3 : g < w3.heap.size := (Array.getElem?_eq_some_iff.1 h3.out).1
  have hrg : gr < g := by omega
  have hwg : w.heap.size ≤ g := by omega
  have hg4 : g ≤ w4.heap.size := by omega
  have R4 : Hid (w4.heap[gr]? = some (.cells (bcs (List.replicate 32 0)).toArray 53 (0, 0))) := by
    unfold Hid
    rw [b4.block gr (by omega) (by simp; omega), b3.block gr (by omega), b2.block gr hgr1]
    exact h1.out
  have W4 : Way w4 g (ps.take 0).flatten ((0 : Nat) : Int) := way0 h4.out
  have C4 : RC w4 := hC.past hw4
  have hC' : ∀ a b : World, RC a → Below g a b → RC b := fun a b ha hb => ha.below hb (by omega)
  have HC := Lib.hid hC'
  clear hC' h1 b1 b2 h3 b3 b4 h4 z1 z2 z3 z4 q1 q3 hgr1 hg3
  go_loopw [10] (fun i wq => ∃ (k L : Nat),k ≤ n ∧ i = .int .i64 k ∧ Hid (L = (ps.take k).flatten.length) ∧ Way wq g (ps.take k).flatten L ∧ RC wq ∧ w4.grownBy wq (some g)) (fun i _ => n - (intOf i).toNat)
  case atStart => exact ⟨0, 0, by omega, rfl, rfl, W4, C4, World.grownBy.refl _ _⟩
  case round =>
    clear W4 C4
    obtain ⟨k, L, hk, rfl, HL, hW, hR, hG⟩ := hrel
    have hwr : Below w.heap.size w wr := hw4.trans ((gbelow hG hg4).mono hwg)
    by_cases hkn : k < n
    · obtain ⟨a, rfl⟩ := h.has (by omega)
      obtain ⟨bo, bn, bc, hc0, hB0⟩ := h.cell a rfl k hkn
      have hc : wr.cell? (a.add k) = some (.slice bo bn bc) := by
        rw [hwr.cell (World.block_lt_of_cell? w _ hc0)]
        exact hc0
      have hB := hB0.past hwr
      have hne : 0 < bn → ∀ a, bo = some a → a.block ≠ g := fun h0 a ha => by have := hB0.lt h0 a ha; omega
      have hps := h.len
      have HF : Hid ((ps.take (k + 1)).flatten = (ps.take k).flatten ++ ps.getD k []) := flatten_snoc ps k (by omega)
      have hb1 := hB0.len
      have hb2 := part_le ps k (by omega)
      have hb3 := flatten_le ps k
      have HN : Hid (L + bn = (ps.take (k + 1)).flatten.length) := by unfold Hid; rw [HF.out, List.length_append, ← HL.out, hb1]
      have hL : L ≤ 1000000 := by have := HL.out; omega
      have hbn : bn ≤ 1000000 := by omega
      clear hb1 hb2 hb3 hps hc0 hB0
      generalize ps.getD k [] = p at HF hB
      go_wp2_with (go_at_call 102; refine (take_in RC mix_any g HC.out (ps.take k).flatten L bo bn bc p _ hR hW hB hne (by omega) (by omega)).mono ?_; rintro e w5 ⟨rfl,hW5,hR5,hG5⟩)
      go_roundw
      case rel => exact ⟨k + 1, L + bn, by omega, by go_num, HN, by rw [HF.out]; exact hW5, hR5, grown_then hG hG5⟩
      case measure => simp [intOf]; omega
    · obtain rfl : k = n := by omega
      have hps := h.len
      have hall : ps.take k = ps := List.take_of_length_le (by omega)
      rw [hall] at hW HL
      have hgw := hW.lt
      have hL : L ≤ 1000000 := by have := HL.out; omega
      clear hall hps
      go_wp2_with fail
      refine (pad_in RC mix_any g HC.out ps.flatten L _ hR hW HL.out.symm hL).mono ?_
      rintro e w6 ⟨rfl, ⟨L6, S, blk, used, hT, last, d, sch, hS, hd⟩, b6⟩
      clear hd
      have HT := Lib.hid hT
      clear hT hW HL
      go_wp2_with fail
      refine (hash_any g S.l blk used L6 last _ sch _ hS).mono ?_
      rintro e w7 ⟨rfl, b7⟩
      have hSUM : filled S.l 32 = sha ps.flatten := (filled_all S).trans HT.out.sum
      rw [hSUM]
      have R7 : Hid (w7.heap[gr]? = some (.cells (bcs (List.replicate 32 0)).toArray 53 (0, 0))) := by
        unfold Hid
        have s6 := b6.size
        rw [b7.block gr (by omega), b6.block gr hrg, (gbelow hG hg4).block gr hrg]
        exact R4.out
      have hB7 : Below w.heap.size w w7 := hwr.trans ((b6.mono hwg).trans (b7.mono (by have := hwr.size; have := b6.size; omega)))
      clear hSUM hS hG hR b6 b7 hwr R4 HT
      go_wp2_with ((with_reducible refine wpList_store_blk rfl 53 _ _ rfl gr _ (bcs (sha ps.flatten)).toArray ?_ ?_ _ R7 32 sizeHash (by simp [bcs_length]) (by simp [bcs_length,sha_length]) (bcs_all _) ?_); (rfl); (rfl); (intro w8 h8 b8))
      refine bodyPost_ret (v := .agg (bcs (sha ps.flatten)).toArray) (results_cell_row rfl _ _ gr _ _ (0,0) _ rfl h8.out Tryz.underlying53 rfl (by rw [sizeHash]; simp [bcs_length,sha_length])) rfl ⟨rfl,?_⟩
      exact hB7.grown b8 hB7.size (fun k hk => by cases hk; omega)

theorem rot_any (x : UInt32) (n : Nat) (w : World) (hn : 1 ≤ n ∧ n ≤ 31) :
    Calls Tryz.prog 74 #[.int .u32 (u x), .int .u64 n] w fun e w' => e = .returned (.int .u32 (u (rr x n))) ∧ w = w' := by
  have h1 := u_lo x
  have h2 := u_hi x
  have e : Hid (bits BinOp.or IntKind.u32 (u x / 2 ^ n) (u x * 2 ^ (32 - n) % 4294967296) = u (rr x n)) := by
    unfold Hid
    rw [u_shr, u_shl, u_or]
    rfl
  go_enter Tryz.func74, Tryz.ntmps74
  go_wp2_with fail
  go_ret
  exact ⟨ret_int e.out, rfl⟩

theorem rot_still (x : UInt32) (n : Int) (w : World) (hn : 1 ≤ n ∧ n ≤ 31) :
    Calls Tryz.prog 74 #[.int .u32 (u x), .int .u64 n] w fun e w' => e = .returned (.int .u32 (u (rr x n.toNat))) ∧ w' = w := by
  obtain ⟨m, rfl⟩ := Int.eq_ofNat_of_zero_le (show 0 ≤ n by omega)
  exact (rot_any x m w (by omega)).mono fun _ _ ⟨a, b⟩ => ⟨a, b.symm⟩

theorem zero64 : (Tryz.prog.info? 135).map (fun i => i.zero) = some (some (.agg (cus (List.replicate 64 0)))) := by kernel_rfl
theorem size64 : (Tryz.prog.info? 135).map (·.size) = some 64 := by kernel_rfl
theorem zeroH : (Tryz.prog.info? 53).map (fun i => i.zero) = some (some (.agg (bcs (List.replicate 32 0)).toArray)) := by kernel_rfl
theorem sizeH : (Tryz.prog.info? 53).map (·.size) = some 32 := by kernel_rfl
theorem zero8 : (Tryz.prog.info? 137).map (fun i => i.zero) = some (some (.agg (cus (List.replicate 8 0)))) := by kernel_rfl
theorem size8 : (Tryz.prog.info? 137).map (·.size) = some 8 := by kernel_rfl

set_option maxRecDepth 100000 in
theorem words_any (w : World) :
    Calls Tryz.prog 73 #[] w fun e w' => e = .returned (.agg (cus K64)) ∧ Below w.heap.size w w' := by
  go_enter Tryz.func73, Tryz.ntmps73
  go_wp2_with (first | (with_reducible refine wpList_alloc_ar rfl 135 rfl 64 zero64 ?_; intro w1 g1 h1 b1 q1) | (with_reducible refine wpList_build_at rfl 135 _ rfl (cus K64) (by kernel_rfl) ?_) | ((with_reducible refine wpList_store_ar rfl 135 _ _ rfl _ _ K64 ?_ ?_ _ h1 64 size64 List.length_replicate K64_length ?_); (rfl); (rfl); (intro w2 h2 b2)))
  refine bodyPost_ret (v := .agg (cus K64)) (results_cell_row rfl _ _ g1 _ _ (0, 0) _ rfl h2 Tryz.underlying135 rfl size64) rfl ⟨rfl, ?_⟩
  exact b1.grown b2 b1.size (fun k h => by cases h; exact q1)

def loopsOf : Code → List Code
  | .loop c => c :: loopsOf c
  | .seq a b => loopsOf a ++ loopsOf b
  | .block _ c => loopsOf c
  | .scope c => loopsOf c
  | .cond _ a b => loopsOf a ++ loopsOf b
  | _ => []
/-- Loop k of the reference's Sum, in the text's order. -/
noncomputable def rb (k : Nat) : Code := ((Tryz.f41.body.map loopsOf).getD []).getD k .skip

set_option maxRecDepth 1000000 in
set_option maxHeartbeats 8000000 in
theorem case4 {v0 v1 v2 v3 v4 v6 v7 v11 v12 v13 v14 v15 v16 v17 v18 v19 v20 v21 v22 v23 v24 v25 v26 v27 v28 v29 v30 v31 v32 v33 v34 v35 v36 v37 v38 v39 v40 v41 v42 v43 v44 v45 v46 v47 v48 v49 v50 v51 v52 v53 v54 v55 v56 v57 v58 v59 v60 v61 v62 v63 v64 v65 v66 v67 v68 v69 v70 v71 v72 v73 v74 v75 v76 v77 v78 v79 v80 v81 v82 v83 v84 v85 v86 v87 v88 v89 v90 v91 v92 v93 v94 v95 v96 v97 v98 v99 v100 v101 v102 v103 v104 v105 v106 v107 v108 v109 v110 v111 v112 v113 v114 v115 v116 v117 v118 v119 v120 v121 v122 v123 v124 v125 v126 v127 v128 v129 v130 v131 v132 v133 v134 v135 v136 v137 v138 v139 v140 v141 v142 v143 v144 v145 v146 v147 v148 v149 v150 v151 v152 v153 v154 v155 v156 v157 v158 v159 v160 v161 v162 v163 v164 v165 v166 v167 v168 v169 v170 v171 v172 v173 v174 v175 v176 v177 v178 v179 v180 v181 v182 v183 v184 v185 v186 v187 v188 v189 v190 v191 v192 v193 v194 v195 v196 v197 v198 v199 v200 v201 v202 v203 v204 v205 v206 v207 v208 v209 v210 v211 v212 v213 v214 v215 v216 v217 v218 v219 v220 v221 v222 v223 v224 v225 v226 v227 v228 v229 v230 v231 v232 v233 v234 v235 v236 v237 v238 v239 v240 v241 v242 v243 v244 v245 v246 v247 v248 v249 v250 v251 v252 v253 v254 v255 v256 v257 v258 v259 v260 v261 v262 v263 v264 v265 v266 v267 v268 v269 v270 v271 v272 v273 v274 v275 v276 v277 : Value} {g2 gw M cap2 m k : Nat} {P : List UInt8} {L : List UInt32} {wo wr : World} {K0 : Act → World → Prop} {Q0 : Exit → Act → World → Prop} (hk16 : k < 16) (hmM : m < M) (hM2 : M ≤ 2000) (oP : OwnB wo 5 g2 (64 * M) cap2 P) (hgw : g2 < gw) (hL : Ar wr 135 gw L) (hl : Hid (L.length = 64)) (ht : Hid (L.take k = words (P.drop (64 * m)) k)) (hb : Below gw wo wr)
    (hK : ∀ (u11 u61 u62 u63 u64 u65 u66 u67 u68 u69 u70 u71 u72 u73 u74 u75 u76 u77 u78 u79 u80 u81 u82 u83 u84 u85 u86 u87 u88 u89 u90 u91 u92 u93 u94 u95 u96 u97 u98 u99 : Value) (L2 : List UInt32) (w' : World),Ar w' 135 gw L2 → Hid (L2.length = 64) → Hid (L2.take (k + 1) = words (P.drop (64 * m)) (k + 1)) → Below gw wo w' → K0 ⟨#[v0,v1,v2,v3,v4,.slice (some ⟨g2,0,none⟩) (64 * M) cap2,v6,v7,.pointer (some ⟨gw,0,none⟩),.int .i64 (64 * (m : Int)),.int .i64 ((k : Int) + 1),u11,v12,v13,v14,v15,v16,v17,v18,v19,v20,v21,v22,v23,v24,v25,v26,v27,v28,v29,v30,v31,v32,v33,v34,v35,v36,v37,v38,v39,v40,v41,v42,v43,v44,v45,v46,v47,v48,v49,v50,v51,v52,v53,v54,v55,v56,v57,v58,v59,v60,u61,u62,u63,u64,u65,u66,u67,u68,u69,u70,u71,u72,u73,u74,u75,u76,u77,u78,u79,u80,u81,u82,u83,u84,u85,u86,u87,u88,u89,u90,u91,u92,u93,u94,u95,u96,u97,u98,u99,v100,v101,v102,v103,v104,v105,v106,v107,v108,v109,v110,v111,v112,v113,v114,v115,v116,v117,v118,v119,v120,v121,v122,v123,v124,v125,v126,v127,v128,v129,v130,v131,v132,v133,v134,v135,v136,v137,v138,v139,v140,v141,v142,v143,v144,v145,v146,v147,v148,v149,v150,v151,v152,v153,v154,v155,v156,v157,v158,v159,v160,v161,v162,v163,v164,v165,v166,v167,v168,v169,v170,v171,v172,v173,v174,v175,v176,v177,v178,v179,v180,v181,v182,v183,v184,v185,v186,v187,v188,v189,v190,v191,v192,v193,v194,v195,v196,v197,v198,v199,v200,v201,v202,v203,v204,v205,v206,v207,v208,v209,v210,v211,v212,v213,v214,v215,v216,v217,v218,v219,v220,v221,v222,v223,v224,v225,v226,v227,v228,v229,v230,v231,v232,v233,v234,v235,v236,v237,v238,v239,v240,v241,v242,v243,v244,v245,v246,v247,v248,v249,v250,v251,v252,v253,v254,v255,v256,v257,v258,v259,v260,v261,v262,v263,v264,v265,v266,v267,v268,v269,v270,v271,v272,v273,v274,v275,v276,v277],[]⟩ w') :
    Code.wp Tryz.prog (rb 3) (Exit.then K0 Q0) ⟨#[v0,v1,v2,v3,v4,.slice (some ⟨g2,0,none⟩) (64 * M) cap2,v6,v7,.pointer (some ⟨gw,0,none⟩),.int .i64 (64 * (m : Int)),.int .i64 (k : Int),v11,v12,v13,v14,v15,v16,v17,v18,v19,v20,v21,v22,v23,v24,v25,v26,v27,v28,v29,v30,v31,v32,v33,v34,v35,v36,v37,v38,v39,v40,v41,v42,v43,v44,v45,v46,v47,v48,v49,v50,v51,v52,v53,v54,v55,v56,v57,v58,v59,v60,v61,v62,v63,v64,v65,v66,v67,v68,v69,v70,v71,v72,v73,v74,v75,v76,v77,v78,v79,v80,v81,v82,v83,v84,v85,v86,v87,v88,v89,v90,v91,v92,v93,v94,v95,v96,v97,v98,v99,v100,v101,v102,v103,v104,v105,v106,v107,v108,v109,v110,v111,v112,v113,v114,v115,v116,v117,v118,v119,v120,v121,v122,v123,v124,v125,v126,v127,v128,v129,v130,v131,v132,v133,v134,v135,v136,v137,v138,v139,v140,v141,v142,v143,v144,v145,v146,v147,v148,v149,v150,v151,v152,v153,v154,v155,v156,v157,v158,v159,v160,v161,v162,v163,v164,v165,v166,v167,v168,v169,v170,v171,v172,v173,v174,v175,v176,v177,v178,v179,v180,v181,v182,v183,v184,v185,v186,v187,v188,v189,v190,v191,v192,v193,v194,v195,v196,v197,v198,v199,v200,v201,v202,v203,v204,v205,v206,v207,v208,v209,v210,v211,v212,v213,v214,v215,v216,v217,v218,v219,v220,v221,v222,v223,v224,v225,v226,v227,v228,v229,v230,v231,v232,v233,v234,v235,v236,v237,v238,v239,v240,v241,v242,v243,v244,v245,v246,v247,v248,v249,v250,v251,v252,v253,v254,v255,v256,v257,v258,v259,v260,v261,v262,v263,v264,v265,v266,v267,v268,v269,v270,v271,v272,v273,v274,v275,v276,v277],[]⟩ wr := by
  conv => arg 2; whnf
  have hq3 : 64 * m + 4 * k + 3 < 64 * M := by omega
  obtain ⟨b0, hb0⟩ : ∃ b, P[64 * m + 4 * k]? = some b := ⟨_, List.getElem?_eq_getElem (by have := oP.len; omega)⟩
  obtain ⟨b1, hb1⟩ : ∃ b, P[64 * m + 4 * k + 1]? = some b := ⟨_, List.getElem?_eq_getElem (by have := oP.len; omega)⟩
  obtain ⟨b2, hb2⟩ : ∃ b, P[64 * m + 4 * k + 2]? = some b := ⟨_, List.getElem?_eq_getElem (by have := oP.len; omega)⟩
  obtain ⟨b3, hb3⟩ : ∃ b, P[64 * m + 4 * k + 3]? = some b := ⟨_, List.getElem?_eq_getElem (by have := oP.len; omega)⟩
  have oW := oP.below hb hgw
  have y0 : wr.cell? ⟨g2, 64 * m + 4 * k , none⟩ = some (.int .u8 (ub b0)) := oW.cell _ _ hb0
  have lo0 := ub_lo b0
  have hi0 := ub_hi b0
  have y1 : wr.cell? ⟨g2, 64 * m + 4 * k + 1, none⟩ = some (.int .u8 (ub b1)) := oW.cell _ _ hb1
  have lo1 := ub_lo b1
  have hi1 := ub_hi b1
  have y2 : wr.cell? ⟨g2, 64 * m + 4 * k + 2, none⟩ = some (.int .u8 (ub b2)) := oW.cell _ _ hb2
  have lo2 := ub_lo b2
  have hi2 := ub_hi b2
  have y3 : wr.cell? ⟨g2, 64 * m + 4 * k + 3, none⟩ = some (.int .u8 (ub b3)) := oW.cell _ _ hb3
  have lo3 := ub_lo b3
  have hi3 := ub_hi b3
  have HW : Hid (word (P.drop (64 * m)) k = be4 b0 b1 b2 b3) := word_at hb0 hb1 hb2 hb3
  clear hb0 hb1 hb2 hb3
  obtain ⟨q, hq⟩ : ∃ q : Nat, q = 64 * m + 4 * k := ⟨_, rfl⟩
  have hqi : 64 * (m : Int) + 4 * (k : Int) = q := by omega
  rw [← hq] at y0 y1 y2 y3 hq3
  have HQ := Lib.hid hq
  clear hq
  go_wp2_with fail
  clear hqi
  have e1 := IntWalk.i64_in ((q : Int) + 1) (by omega)
  have e2 := IntWalk.i64_in ((q : Int) + 2) (by omega)
  have e3 := IntWalk.i64_in ((q : Int) + 3) (by omega)
  have f0 : (q : Int) < 64 * (M : Int) := by omega
  have f1 : (q : Int) + 1 < 64 * (M : Int) := by omega
  have f2 : (q : Int) + 2 < 64 * (M : Int) := by omega
  have f3 : (q : Int) + 3 < 64 * (M : Int) := by omega
  have n1 : 0 ≤ (q : Int) + 1 := by omega
  have n2 : 0 ≤ (q : Int) + 2 := by omega
  have n3 : 0 ≤ (q : Int) + 3 := by omega
  have k64 : (k : Int) < 64 := by omega
  have c1 : ((q : Int) + 1).toNat = q + 1 := by omega
  have c2 : ((q : Int) + 2).toNat = q + 2 := by omega
  have c3 : ((q : Int) + 3).toNat = q + 3 := by omega
  refine region_tail 31 (by kernel_rfl) (by kernel_rfl) ?_
  intro wx hx bx
  have t0 := cell_hid hx y0
  have t1 := cell_hid hx y1
  have t2 := cell_hid hx y2
  have t3 := cell_hid hx y3
  have hLx : Ar wx 135 gw L := hL.kept (heap_hid hx gw)
  have tw := hLx.get k (by have := hl.out; omega)
  have tf := hLx.free k
  clear y0 y1 y2 y3
  simp only [List.take_succ_cons, List.take_zero, List.drop_succ_cons, List.drop_zero]
  iterate 31 still_step
  refine wpStill_nil ?_
  go_wp2_with fail
  refine hK _ _ _ _ _ _ _ _ _ _ _ _ _ _ _ _ _ _ _ _ _ _ _ _ _ _ _ _ _ _ _ _ _ _ _ _ _ _ _ _ (L.set k (be4 b0 b1 b2 b3)) _ ?_ ?_ ?_ ?_
  · have := hLx.set k (be4 b0 b1 b2 b3)
    rw [← or_be4] at this
    exact this
  · unfold Hid; rw [List.length_set]; exact hl.out
  · unfold Hid
    rw [words_snoc, HW.out, ← ht.out]
    exact take_set_snoc _ _ _ (by have := hl.out; omega)
  · exact (hb.trans (bx.mono (by have := hL.lt; omega))).setCell (Nat.le_refl _) _

set_option maxRecDepth 1000000 in
set_option maxHeartbeats 8000000 in
theorem case5 {v0 v1 v2 v3 v4 v5 v6 v7 v9 v10 v11 v13 v14 v15 v16 v17 v18 v19 v20 v21 v22 v23 v24 v25 v26 v27 v28 v29 v30 v31 v32 v33 v34 v35 v36 v37 v38 v39 v40 v41 v42 v43 v44 v45 v46 v47 v48 v49 v50 v51 v52 v53 v54 v55 v56 v57 v58 v59 v60 v61 v62 v63 v64 v65 v66 v67 v68 v69 v70 v71 v72 v73 v74 v75 v76 v77 v78 v79 v80 v81 v82 v83 v84 v85 v86 v87 v88 v89 v90 v91 v92 v93 v94 v95 v96 v97 v98 v99 v100 v101 v102 v103 v104 v105 v106 v107 v108 v109 v110 v111 v112 v113 v114 v115 v116 v117 v118 v119 v120 v121 v122 v123 v124 v125 v126 v127 v128 v129 v130 v131 v132 v133 v134 v135 v136 v137 v138 v139 v140 v141 v142 v143 v144 v145 v146 v147 v148 v149 v150 v151 v152 v153 v154 v155 v156 v157 v158 v159 v160 v161 v162 v163 v164 v165 v166 v167 v168 v169 v170 v171 v172 v173 v174 v175 v176 v177 v178 v179 v180 v181 v182 v183 v184 v185 v186 v187 v188 v189 v190 v191 v192 v193 v194 v195 v196 v197 v198 v199 v200 v201 v202 v203 v204 v205 v206 v207 v208 v209 v210 v211 v212 v213 v214 v215 v216 v217 v218 v219 v220 v221 v222 v223 v224 v225 v226 v227 v228 v229 v230 v231 v232 v233 v234 v235 v236 v237 v238 v239 v240 v241 v242 v243 v244 v245 v246 v247 v248 v249 v250 v251 v252 v253 v254 v255 v256 v257 v258 v259 v260 v261 v262 v263 v264 v265 v266 v267 v268 v269 v270 v271 v272 v273 v274 v275 v276 v277 : Value} {gw m i : Nat} {P : List UInt8} {L1 : List UInt32} {wo wr : World} {K0 : Act → World → Prop} {Q0 : Exit → Act → World → Prop} (hi1 : 16 ≤ i) (hi3 : i < 64) (hL : Ar wr 135 gw L1) (hl : Hid (L1.length = 64)) (HT : Hid (L1.take i = sched (words (P.drop (64 * m)) 16) (i - 16))) (hb : Below gw wo wr)
    (hK : ∀ (u13 u14 u100 u101 u102 u103 u104 u105 u106 u107 u108 u109 u110 u111 u112 u113 u114 u115 u116 u117 u118 u119 u120 u121 u122 u123 u124 u125 u126 u127 u128 u129 u130 u131 u132 u133 u134 u135 u136 u137 u138 u139 u140 : Value) (L2 : List UInt32) (w' : World),Ar w' 135 gw L2 → Hid (L2.length = 64) → Hid (L2.take (i + 1) = sched (words (P.drop (64 * m)) 16) (i + 1 - 16)) → Below gw wo w' → K0 ⟨#[v0,v1,v2,v3,v4,v5,v6,v7,.pointer (some ⟨gw,0,none⟩),v9,v10,v11,.int .i64 ((i : Int) + 1),u13,u14,v15,v16,v17,v18,v19,v20,v21,v22,v23,v24,v25,v26,v27,v28,v29,v30,v31,v32,v33,v34,v35,v36,v37,v38,v39,v40,v41,v42,v43,v44,v45,v46,v47,v48,v49,v50,v51,v52,v53,v54,v55,v56,v57,v58,v59,v60,v61,v62,v63,v64,v65,v66,v67,v68,v69,v70,v71,v72,v73,v74,v75,v76,v77,v78,v79,v80,v81,v82,v83,v84,v85,v86,v87,v88,v89,v90,v91,v92,v93,v94,v95,v96,v97,v98,v99,u100,u101,u102,u103,u104,u105,u106,u107,u108,u109,u110,u111,u112,u113,u114,u115,u116,u117,u118,u119,u120,u121,u122,u123,u124,u125,u126,u127,u128,u129,u130,u131,u132,u133,u134,u135,u136,u137,u138,u139,u140,v141,v142,v143,v144,v145,v146,v147,v148,v149,v150,v151,v152,v153,v154,v155,v156,v157,v158,v159,v160,v161,v162,v163,v164,v165,v166,v167,v168,v169,v170,v171,v172,v173,v174,v175,v176,v177,v178,v179,v180,v181,v182,v183,v184,v185,v186,v187,v188,v189,v190,v191,v192,v193,v194,v195,v196,v197,v198,v199,v200,v201,v202,v203,v204,v205,v206,v207,v208,v209,v210,v211,v212,v213,v214,v215,v216,v217,v218,v219,v220,v221,v222,v223,v224,v225,v226,v227,v228,v229,v230,v231,v232,v233,v234,v235,v236,v237,v238,v239,v240,v241,v242,v243,v244,v245,v246,v247,v248,v249,v250,v251,v252,v253,v254,v255,v256,v257,v258,v259,v260,v261,v262,v263,v264,v265,v266,v267,v268,v269,v270,v271,v272,v273,v274,v275,v276,v277],[]⟩ w') :
    Code.wp Tryz.prog (rb 4) (Exit.then K0 Q0) ⟨#[v0,v1,v2,v3,v4,v5,v6,v7,.pointer (some ⟨gw,0,none⟩),v9,v10,v11,.int .i64 (i : Int),v13,v14,v15,v16,v17,v18,v19,v20,v21,v22,v23,v24,v25,v26,v27,v28,v29,v30,v31,v32,v33,v34,v35,v36,v37,v38,v39,v40,v41,v42,v43,v44,v45,v46,v47,v48,v49,v50,v51,v52,v53,v54,v55,v56,v57,v58,v59,v60,v61,v62,v63,v64,v65,v66,v67,v68,v69,v70,v71,v72,v73,v74,v75,v76,v77,v78,v79,v80,v81,v82,v83,v84,v85,v86,v87,v88,v89,v90,v91,v92,v93,v94,v95,v96,v97,v98,v99,v100,v101,v102,v103,v104,v105,v106,v107,v108,v109,v110,v111,v112,v113,v114,v115,v116,v117,v118,v119,v120,v121,v122,v123,v124,v125,v126,v127,v128,v129,v130,v131,v132,v133,v134,v135,v136,v137,v138,v139,v140,v141,v142,v143,v144,v145,v146,v147,v148,v149,v150,v151,v152,v153,v154,v155,v156,v157,v158,v159,v160,v161,v162,v163,v164,v165,v166,v167,v168,v169,v170,v171,v172,v173,v174,v175,v176,v177,v178,v179,v180,v181,v182,v183,v184,v185,v186,v187,v188,v189,v190,v191,v192,v193,v194,v195,v196,v197,v198,v199,v200,v201,v202,v203,v204,v205,v206,v207,v208,v209,v210,v211,v212,v213,v214,v215,v216,v217,v218,v219,v220,v221,v222,v223,v224,v225,v226,v227,v228,v229,v230,v231,v232,v233,v234,v235,v236,v237,v238,v239,v240,v241,v242,v243,v244,v245,v246,v247,v248,v249,v250,v251,v252,v253,v254,v255,v256,v257,v258,v259,v260,v261,v262,v263,v264,v265,v266,v267,v268,v269,v270,v271,v272,v273,v274,v275,v276,v277],[]⟩ wr := by
  conv => arg 2; whnf
  have x15 := hL.get (i - 15) (by have := hl.out; omega)
  have x2 := hL.get (i - 2) (by have := hl.out; omega)
  have x7 := hL.get (i - 7) (by have := hl.out; omega)
  have x16 := hL.get (i - 16) (by have := hl.out; omega)
  have HE : Hid (ext L1 i = bs1 (L1.getD (i - 2) 0) + L1.getD (i - 7) 0 + bs0 (L1.getD (i - 15) 0) + L1.getD (i - 16) 0) := rfl
  generalize L1.getD (i - 15) 0 = a15 at x15 HE
  generalize L1.getD (i - 2) 0 = a2 at x2 HE
  generalize L1.getD (i - 7) 0 = a7 at x7 HE
  generalize L1.getD (i - 16) 0 = a16 at x16 HE
  have e15 := IntWalk.i64_in ((i : Int) - 15) (by omega)
  have e2 := IntWalk.i64_in ((i : Int) - 2) (by omega)
  have e7 := IntWalk.i64_in ((i : Int) - 7) (by omega)
  have e16 := IntWalk.i64_in ((i : Int) - 16) (by omega)
  have n15 : 0 ≤ (i : Int) - 15 := by omega
  have n2 : 0 ≤ (i : Int) - 2 := by omega
  have n7 : 0 ≤ (i : Int) - 7 := by omega
  have n16 : 0 ≤ (i : Int) - 16 := by omega
  have m15 : (i : Int) - 15 < 64 := by omega
  have m2 : (i : Int) - 2 < 64 := by omega
  have m7 : (i : Int) - 7 < 64 := by omega
  have m16 : (i : Int) - 16 < 64 := by omega
  have m0 : (i : Int) < 64 := by omega
  have c15 : ((i : Int) - 15).toNat = i - 15 := by omega
  have c2 : ((i : Int) - 2).toNat = i - 2 := by omega
  have c7 : ((i : Int) - 7).toNat = i - 7 := by omega
  have c16 : ((i : Int) - 16).toNat = i - 16 := by omega
  go_wp2_with fail
  go_quiet (fail)
  go_wp2_with fail
  have k7 : 7 ≤ (i : Int) := by omega
  have k16 : 16 ≤ (i : Int) := by omega
  refine region_tail 29 (by kernel_rfl) (by kernel_rfl) ?_
  intro wx hx bx
  have t7 : wx.cell? ⟨gw, i - 7, none⟩ = some (.int .u32 (u a7)) := cell_hid hx x7
  have t16 : wx.cell? ⟨gw, i - 16, none⟩ = some (.int .u32 (u a16)) := cell_hid hx x16
  have hLx : Ar wx 135 gw L1 := hL.kept (heap_hid hx gw)
  have tw := hLx.get i (by have := hl.out; omega)
  have tf := hLx.free i
  have r1 := u_xor
  have r2 := u_add
  have r3 : ∀ x y, IntKind.u32.wrap (u x + u y) = u (x + y) := fun x y => by rw [IntKind.wrap_u32']; exact u_add x y
  have r4 : ∀ x, u x / 1024 = u (sr x 10) := fun x => u_shr x 10
  have r5 : ∀ x, u x / 8 = u (sr x 3) := fun x => u_shr x 3
  have lo := u_lo
  have hi := u_hi
  clear x15 x2 x7 x16
  simp only [List.take_succ_cons, List.take_zero, List.drop_succ_cons, List.drop_zero]
  iterate 29 (first | still_call (rot_still _ _ _ (by omega)) | still_step)
  refine wpStill_nil ?_
  go_wp2_with fail
  refine hK _ _ _ _ _ _ _ _ _ _ _ _ _ _ _ _ _ _ _ _ _ _ _ _ _ _ _ _ _ _ _ _ _ _ _ _ _ _ _ _ _ _ _ (L1.set i (ext L1 i)) _ ?_ ?_ ?_ ?_
  · have := hLx.set i (ext L1 i)
    rw [HE.out] at this ⊢
    exact this
  · unfold Hid; rw [List.length_set]; exact hl.out
  · exact sched_step L1 _ i hi1 (by have := hl.out; omega) HT.out
  · exact (below_drewN hb bx (by have := hL.lt; omega)).setCell (Nat.le_refl _) _

set_option maxRecDepth 1000000 in
set_option maxHeartbeats 8000000 in
theorem case6 {v0 v1 v2 v4 v5 v6 v7 v9 v10 v11 v12 v13 v14 v17 v18 v19 v20 v21 v22 v23 v24 v25 v26 v27 v28 v29 v30 v31 v32 v33 v34 v35 v36 v37 v38 v39 v40 v41 v42 v43 v44 v45 v46 v47 v48 v49 v50 v51 v52 v53 v54 v55 v56 v57 v58 v59 v60 v61 v62 v63 v64 v65 v66 v67 v68 v69 v70 v71 v72 v73 v74 v75 v76 v77 v78 v79 v80 v81 v82 v83 v84 v85 v86 v87 v88 v89 v90 v91 v92 v93 v94 v95 v96 v97 v98 v99 v100 v101 v102 v103 v104 v105 v106 v107 v108 v109 v110 v111 v112 v113 v114 v115 v116 v117 v118 v119 v120 v121 v122 v123 v124 v125 v126 v127 v128 v129 v130 v131 v132 v133 v134 v135 v136 v137 v138 v139 v140 v141 v142 v143 v144 v145 v146 v147 v148 v149 v150 v151 v152 v153 v154 v155 v156 v157 v158 v159 v160 v161 v162 v163 v164 v165 v166 v167 v168 v169 v170 v171 v172 v173 v174 v175 v176 v177 v178 v179 v180 v181 v182 v183 v184 v185 v186 v187 v188 v189 v190 v191 v192 v193 v194 v195 v196 v197 v198 v199 v200 v201 v202 v203 v204 v205 v206 v207 v208 v209 v210 v211 v212 v213 v214 v215 v216 v217 v218 v219 v220 v221 v222 v223 v224 v225 v226 v227 v228 v229 v230 v231 v232 v233 v234 v235 v236 v237 v238 v239 v240 v241 v242 v243 v244 v245 v246 v247 v248 v249 v250 v251 v252 v253 v254 v255 v256 v257 v258 v259 v260 v261 v262 v263 v264 v265 v266 v267 v268 v269 v270 v271 v272 v273 v274 v275 v276 v277 : Value} {gk gw ga t : Nat} {W : List UInt32} {S : St} {w9 wr : World} {K0 : Act → World → Prop} {Q0 : Exit → Act → World → Prop} (ht64 : t < 64) (k9 : Ar w9 135 gk K64) (L9 : Ar w9 135 gw W) (hgka : gk < ga) (hgwa : gw < ga) (HlW : Hid (W.length = 64)) (hT : Ar wr 137 ga (rounds W S t).l) (bT : Below ga w9 wr)
    (hK : ∀ (u17 u18 u19 u142 u143 u144 u145 u146 u147 u148 u149 u150 u151 u152 u153 u154 u155 u156 u157 u158 u159 u160 u161 u162 u163 u164 u165 u166 u167 u168 u169 u170 u171 u172 u173 u174 u175 u176 u177 u178 u179 u180 u181 u182 u183 u184 u185 u186 u187 u188 u189 u190 u191 u192 u193 u194 u195 u196 u197 u198 u199 u200 u201 u202 u203 u204 u205 u206 u207 u208 u209 u210 u211 u212 u213 u214 u215 u216 u217 u218 u219 u220 u221 u222 u223 u224 u225 u226 : Value) (w' : World),Ar w' 137 ga (rounds W S (t + 1)).l → Below ga w9 w' → K0 ⟨#[v0,v1,v2,.pointer (some ⟨gk,0,none⟩),v4,v5,v6,v7,.pointer (some ⟨gw,0,none⟩),v9,v10,v11,v12,v13,v14,.pointer (some ⟨ga,0,none⟩),.int .i64 ((t : Int) + 1),u17,u18,u19,v20,v21,v22,v23,v24,v25,v26,v27,v28,v29,v30,v31,v32,v33,v34,v35,v36,v37,v38,v39,v40,v41,v42,v43,v44,v45,v46,v47,v48,v49,v50,v51,v52,v53,v54,v55,v56,v57,v58,v59,v60,v61,v62,v63,v64,v65,v66,v67,v68,v69,v70,v71,v72,v73,v74,v75,v76,v77,v78,v79,v80,v81,v82,v83,v84,v85,v86,v87,v88,v89,v90,v91,v92,v93,v94,v95,v96,v97,v98,v99,v100,v101,v102,v103,v104,v105,v106,v107,v108,v109,v110,v111,v112,v113,v114,v115,v116,v117,v118,v119,v120,v121,v122,v123,v124,v125,v126,v127,v128,v129,v130,v131,v132,v133,v134,v135,v136,v137,v138,v139,v140,v141,u142,u143,u144,u145,u146,u147,u148,u149,u150,u151,u152,u153,u154,u155,u156,u157,u158,u159,u160,u161,u162,u163,u164,u165,u166,u167,u168,u169,u170,u171,u172,u173,u174,u175,u176,u177,u178,u179,u180,u181,u182,u183,u184,u185,u186,u187,u188,u189,u190,u191,u192,u193,u194,u195,u196,u197,u198,u199,u200,u201,u202,u203,u204,u205,u206,u207,u208,u209,u210,u211,u212,u213,u214,u215,u216,u217,u218,u219,u220,u221,u222,u223,u224,u225,u226,v227,v228,v229,v230,v231,v232,v233,v234,v235,v236,v237,v238,v239,v240,v241,v242,v243,v244,v245,v246,v247,v248,v249,v250,v251,v252,v253,v254,v255,v256,v257,v258,v259,v260,v261,v262,v263,v264,v265,v266,v267,v268,v269,v270,v271,v272,v273,v274,v275,v276,v277],[]⟩ w') :
    Code.wp Tryz.prog (rb 5) (Exit.then K0 Q0) ⟨#[v0,v1,v2,.pointer (some ⟨gk,0,none⟩),v4,v5,v6,v7,.pointer (some ⟨gw,0,none⟩),v9,v10,v11,v12,v13,v14,.pointer (some ⟨ga,0,none⟩),.int .i64 (t : Int),v17,v18,v19,v20,v21,v22,v23,v24,v25,v26,v27,v28,v29,v30,v31,v32,v33,v34,v35,v36,v37,v38,v39,v40,v41,v42,v43,v44,v45,v46,v47,v48,v49,v50,v51,v52,v53,v54,v55,v56,v57,v58,v59,v60,v61,v62,v63,v64,v65,v66,v67,v68,v69,v70,v71,v72,v73,v74,v75,v76,v77,v78,v79,v80,v81,v82,v83,v84,v85,v86,v87,v88,v89,v90,v91,v92,v93,v94,v95,v96,v97,v98,v99,v100,v101,v102,v103,v104,v105,v106,v107,v108,v109,v110,v111,v112,v113,v114,v115,v116,v117,v118,v119,v120,v121,v122,v123,v124,v125,v126,v127,v128,v129,v130,v131,v132,v133,v134,v135,v136,v137,v138,v139,v140,v141,v142,v143,v144,v145,v146,v147,v148,v149,v150,v151,v152,v153,v154,v155,v156,v157,v158,v159,v160,v161,v162,v163,v164,v165,v166,v167,v168,v169,v170,v171,v172,v173,v174,v175,v176,v177,v178,v179,v180,v181,v182,v183,v184,v185,v186,v187,v188,v189,v190,v191,v192,v193,v194,v195,v196,v197,v198,v199,v200,v201,v202,v203,v204,v205,v206,v207,v208,v209,v210,v211,v212,v213,v214,v215,v216,v217,v218,v219,v220,v221,v222,v223,v224,v225,v226,v227,v228,v229,v230,v231,v232,v233,v234,v235,v236,v237,v238,v239,v240,v241,v242,v243,v244,v245,v246,v247,v248,v249,v250,v251,v252,v253,v254,v255,v256,v257,v258,v259,v260,v261,v262,v263,v264,v265,v266,v267,v268,v269,v270,v271,v272,v273,v274,v275,v276,v277],[]⟩ wr := by
  conv => arg 2; whnf
  have HN : Hid (rounds W S (t + 1) = (rounds W S t).step (kk t) (W.getD t 0)) := rfl
  generalize rounds W S t = T at hT HN
  have z0 := hT.cell 0 T.a rfl
  have z1 := hT.cell 1 T.b rfl
  have z2 := hT.cell 2 T.c rfl
  have z3 := hT.cell 3 T.d rfl
  have z4 := hT.cell 4 T.e rfl
  have z5 := hT.cell 5 T.f rfl
  have z6 := hT.cell 6 T.g rfl
  have z7 := hT.cell 7 T.h rfl
  have kt : wr.cell? ⟨gk, t, none⟩ = some (.int .u32 (u (kk t))) := (k9.kept (bT.block gk hgka)).get t (by rw [K64_length]; exact ht64)
  have wt : wr.cell? ⟨gw, t, none⟩ = some (.int .u32 (u (W.getD t 0))) := (L9.kept (bT.block gw hgwa)).get t (by rw [HlW.out]; exact ht64)
  generalize kk t = kt0 at kt HN
  generalize W.getD t 0 = wt0 at wt HN
  have t64 : (t : Int) < 64 := by omega
  have r1 := u_xor
  have r2 := u_wrap
  have r3 := u_and
  have r4 := u_inv
  have r5 := u_add
  have lo := u_lo
  have hi := u_hi
  go_wp2_with fail
  refine region_all (by kernel_rfl) (by kernel_rfl) ?_
  intro wx hx bx
  have hTx : Ar wx 137 ga T.l := hT.kept (heap_hid hx ga)
  replace z5 := cell_hid hx z5
  replace z6 := cell_hid hx z6
  replace z7 := cell_hid hx z7
  replace kt := cell_hid hx kt
  replace wt := cell_hid hx wt
  iterate 31 (first | still_call (rot_still _ _ _ (by omega)) | still_step)
  refine wpStill_nil ?_
  clear z0 z1 z2 z3 z4 z5 z6 z7 kt wt
  have z0 := hTx.cell 0 T.a rfl
  have z1 := hTx.cell 1 T.b rfl
  have z2 := hTx.cell 2 T.c rfl
  go_wp2_with fail
  refine region_all (by kernel_rfl) (by kernel_rfl) ?_
  intro wy hy by_
  have hTy : Ar wy 137 ga T.l := hTx.kept (heap_hid hy ga)
  replace z0 := cell_hid hy z0
  replace z1 := cell_hid hy z1
  replace z2 := cell_hid hy z2
  iterate 30 (first | still_call (rot_still _ _ _ (by omega)) | still_step)
  refine wpStill_nil ?_
  have z3 := hTy.cell 3 T.d rfl
  have z4 := hTy.cell 4 T.e rfl
  have z5 := hTy.cell 5 T.f rfl
  have z6 := hTy.cell 6 T.g rfl
  go_wp2_with ((with_reducible refine wpList_store_ar rfl 137 _ _ rfl _ _ (T.step kt0 wt0).l ?_ ?_ _ hTy 8 size8 T.l_length (St.l_length _) ?_); (rfl); (rfl); (intro wz hz bz))
  have hTw : ga ≤ wr.heap.size := by have := hT.lt; omega
  have hTxw : ga ≤ wx.heap.size := by have := hTx.lt; omega
  have hTyw : ga ≤ wy.heap.size := by have := hTy.lt; omega
  refine hK _ _ _ _ _ _ _ _ _ _ _ _ _ _ _ _ _ _ _ _ _ _ _ _ _ _ _ _ _ _ _ _ _ _ _ _ _ _ _ _ _ _ _ _ _ _ _ _ _ _ _ _ _ _ _ _ _ _ _ _ _ _ _ _ _ _ _ _ _ _ _ _ _ _ _ _ _ _ _ _ _ _ _ _ _ _ _ _ _ ?_ ?_
  · rw [HN.out]; exact hz
  · exact ((bT.trans (bx.mono hTw)).trans (by_.mono hTxw)).grown bz hTyw (fun k h => by cases h; exact Nat.le_refl _)

set_option maxRecDepth 1000000 in
set_option maxHeartbeats 8000000 in
theorem case7 {v0 v1 v2 v3 v5 v6 v7 v8 v9 v10 v11 v12 v13 v14 v16 v17 v18 v19 v21 v22 v23 v24 v25 v26 v27 v28 v29 v30 v31 v32 v33 v34 v35 v36 v37 v38 v39 v40 v41 v42 v43 v44 v45 v46 v47 v48 v49 v50 v51 v52 v53 v54 v55 v56 v57 v58 v59 v60 v61 v62 v63 v64 v65 v66 v67 v68 v69 v70 v71 v72 v73 v74 v75 v76 v77 v78 v79 v80 v81 v82 v83 v84 v85 v86 v87 v88 v89 v90 v91 v92 v93 v94 v95 v96 v97 v98 v99 v100 v101 v102 v103 v104 v105 v106 v107 v108 v109 v110 v111 v112 v113 v114 v115 v116 v117 v118 v119 v120 v121 v122 v123 v124 v125 v126 v127 v128 v129 v130 v131 v132 v133 v134 v135 v136 v137 v138 v139 v140 v141 v142 v143 v144 v145 v146 v147 v148 v149 v150 v151 v152 v153 v154 v155 v156 v157 v158 v159 v160 v161 v162 v163 v164 v165 v166 v167 v168 v169 v170 v171 v172 v173 v174 v175 v176 v177 v178 v179 v180 v181 v182 v183 v184 v185 v186 v187 v188 v189 v190 v191 v192 v193 v194 v195 v196 v197 v198 v199 v200 v201 v202 v203 v204 v205 v206 v207 v208 v209 v210 v211 v212 v213 v214 v215 v216 v217 v218 v219 v220 v221 v222 v223 v224 v225 v226 v227 v228 v229 v230 v231 v232 v233 v234 v235 v236 v237 v238 v239 v240 v241 v242 v243 v244 v245 v246 v247 v248 v249 v250 v251 v252 v253 v254 v255 v256 v257 v258 v259 v260 v261 v262 v263 v264 v265 v266 v267 v268 v269 v270 v271 v272 v273 v274 v275 v276 v277 : Value} {gs ga t : Nat} {S T : St} {wx wr : World} {K0 : Act → World → Prop} {Q0 : Exit → Act → World → Prop} (ht8 : t < 8) (hgsa : gs ≠ ga) (hA : Ar wr 137 gs (sums S T t)) (hT : Ar wr 137 ga T.l) (gT : wx.grownBy wr (some gs))
    (hK : ∀ (u227 u228 u229 u230 u231 u232 u233 u234 u235 u236 u237 u238 : Value) (w' : World),Ar w' 137 gs (sums S T (t + 1)) → Ar w' 137 ga T.l → wx.grownBy w' (some gs) → K0 ⟨#[v0,v1,v2,v3,.pointer (some ⟨gs,0,none⟩),v5,v6,v7,v8,v9,v10,v11,v12,v13,v14,.pointer (some ⟨ga,0,none⟩),v16,v17,v18,v19,.int .i64 ((t : Int) + 1),v21,v22,v23,v24,v25,v26,v27,v28,v29,v30,v31,v32,v33,v34,v35,v36,v37,v38,v39,v40,v41,v42,v43,v44,v45,v46,v47,v48,v49,v50,v51,v52,v53,v54,v55,v56,v57,v58,v59,v60,v61,v62,v63,v64,v65,v66,v67,v68,v69,v70,v71,v72,v73,v74,v75,v76,v77,v78,v79,v80,v81,v82,v83,v84,v85,v86,v87,v88,v89,v90,v91,v92,v93,v94,v95,v96,v97,v98,v99,v100,v101,v102,v103,v104,v105,v106,v107,v108,v109,v110,v111,v112,v113,v114,v115,v116,v117,v118,v119,v120,v121,v122,v123,v124,v125,v126,v127,v128,v129,v130,v131,v132,v133,v134,v135,v136,v137,v138,v139,v140,v141,v142,v143,v144,v145,v146,v147,v148,v149,v150,v151,v152,v153,v154,v155,v156,v157,v158,v159,v160,v161,v162,v163,v164,v165,v166,v167,v168,v169,v170,v171,v172,v173,v174,v175,v176,v177,v178,v179,v180,v181,v182,v183,v184,v185,v186,v187,v188,v189,v190,v191,v192,v193,v194,v195,v196,v197,v198,v199,v200,v201,v202,v203,v204,v205,v206,v207,v208,v209,v210,v211,v212,v213,v214,v215,v216,v217,v218,v219,v220,v221,v222,v223,v224,v225,v226,u227,u228,u229,u230,u231,u232,u233,u234,u235,u236,u237,u238,v239,v240,v241,v242,v243,v244,v245,v246,v247,v248,v249,v250,v251,v252,v253,v254,v255,v256,v257,v258,v259,v260,v261,v262,v263,v264,v265,v266,v267,v268,v269,v270,v271,v272,v273,v274,v275,v276,v277],[]⟩ w') :
    Code.wp Tryz.prog (rb 6) (Exit.then K0 Q0) ⟨#[v0,v1,v2,v3,.pointer (some ⟨gs,0,none⟩),v5,v6,v7,v8,v9,v10,v11,v12,v13,v14,.pointer (some ⟨ga,0,none⟩),v16,v17,v18,v19,.int .i64 (t : Int),v21,v22,v23,v24,v25,v26,v27,v28,v29,v30,v31,v32,v33,v34,v35,v36,v37,v38,v39,v40,v41,v42,v43,v44,v45,v46,v47,v48,v49,v50,v51,v52,v53,v54,v55,v56,v57,v58,v59,v60,v61,v62,v63,v64,v65,v66,v67,v68,v69,v70,v71,v72,v73,v74,v75,v76,v77,v78,v79,v80,v81,v82,v83,v84,v85,v86,v87,v88,v89,v90,v91,v92,v93,v94,v95,v96,v97,v98,v99,v100,v101,v102,v103,v104,v105,v106,v107,v108,v109,v110,v111,v112,v113,v114,v115,v116,v117,v118,v119,v120,v121,v122,v123,v124,v125,v126,v127,v128,v129,v130,v131,v132,v133,v134,v135,v136,v137,v138,v139,v140,v141,v142,v143,v144,v145,v146,v147,v148,v149,v150,v151,v152,v153,v154,v155,v156,v157,v158,v159,v160,v161,v162,v163,v164,v165,v166,v167,v168,v169,v170,v171,v172,v173,v174,v175,v176,v177,v178,v179,v180,v181,v182,v183,v184,v185,v186,v187,v188,v189,v190,v191,v192,v193,v194,v195,v196,v197,v198,v199,v200,v201,v202,v203,v204,v205,v206,v207,v208,v209,v210,v211,v212,v213,v214,v215,v216,v217,v218,v219,v220,v221,v222,v223,v224,v225,v226,v227,v228,v229,v230,v231,v232,v233,v234,v235,v236,v237,v238,v239,v240,v241,v242,v243,v244,v245,v246,v247,v248,v249,v250,v251,v252,v253,v254,v255,v256,v257,v258,v259,v260,v261,v262,v263,v264,v265,v266,v267,v268,v269,v270,v271,v272,v273,v274,v275,v276,v277],[]⟩ wr := by
  conv => arg 2; whnf
  have za : wr.cell? ⟨gs, t, none⟩ = some (.int .u32 (u (S.l.getD t 0))) := by
    have := hA.get t (by rw [sums_length]; exact ht8)
    rwa [sums_get S T t ht8] at this
  have zb : wr.cell? ⟨ga, t, none⟩ = some (.int .u32 (u (T.l.getD t 0))) := hT.get t ht8
  have HA : Hid (sums S T (t + 1) = (sums S T t).set t (S.l.getD t 0 + T.l.getD t 0)) := rfl
  generalize S.l.getD t 0 = sa at za HA
  generalize T.l.getD t 0 = ta at zb HA
  have t8 : (t : Int) < 8 := by omega
  have r2 := u_wrap
  have r5 := u_add
  have lo := u_lo
  have hi := u_hi
  go_wp2_with fail
  refine region_tail 8 (by kernel_rfl) (by kernel_rfl) ?_
  intro wy hy by_
  have hAy : Ar wy 137 gs (sums S T t) := hA.kept (heap_hid hy gs)
  have hTy : Ar wy 137 ga T.l := hT.kept (heap_hid hy ga)
  have tf := hAy.free t
  replace za := cell_hid hy za
  replace zb := cell_hid hy zb
  simp only [List.take_succ_cons, List.take_zero, List.drop_succ_cons, List.drop_zero]
  iterate 8 still_step
  refine wpStill_nil ?_
  go_wp2_with fail
  refine hK _ _ _ _ _ _ _ _ _ _ _ _ _ ?_ ?_ ?_
  · rw [HA.out]; exact hAy.set t (sa + ta)
  · exact hTy.other _ _ (fun e => hgsa e.symm)
  · exact grown_set (grown_row gT by_)

set_option maxRecDepth 1000000 in
set_option maxHeartbeats 8000000 in
theorem case8 {v0 v1 v2 v3 v5 v6 v7 v8 v9 v10 v11 v12 v13 v14 v15 v16 v17 v18 v19 v20 v23 v24 v25 v26 v27 v28 v29 v30 v31 v32 v33 v34 v35 v36 v37 v38 v39 v40 v41 v42 v43 v44 v45 v46 v47 v48 v49 v50 v51 v52 v53 v54 v55 v56 v57 v58 v59 v60 v61 v62 v63 v64 v65 v66 v67 v68 v69 v70 v71 v72 v73 v74 v75 v76 v77 v78 v79 v80 v81 v82 v83 v84 v85 v86 v87 v88 v89 v90 v91 v92 v93 v94 v95 v96 v97 v98 v99 v100 v101 v102 v103 v104 v105 v106 v107 v108 v109 v110 v111 v112 v113 v114 v115 v116 v117 v118 v119 v120 v121 v122 v123 v124 v125 v126 v127 v128 v129 v130 v131 v132 v133 v134 v135 v136 v137 v138 v139 v140 v141 v142 v143 v144 v145 v146 v147 v148 v149 v150 v151 v152 v153 v154 v155 v156 v157 v158 v159 v160 v161 v162 v163 v164 v165 v166 v167 v168 v169 v170 v171 v172 v173 v174 v175 v176 v177 v178 v179 v180 v181 v182 v183 v184 v185 v186 v187 v188 v189 v190 v191 v192 v193 v194 v195 v196 v197 v198 v199 v200 v201 v202 v203 v204 v205 v206 v207 v208 v209 v210 v211 v212 v213 v214 v215 v216 v217 v218 v219 v220 v221 v222 v223 v224 v225 v226 v227 v228 v229 v230 v231 v232 v233 v234 v235 v236 v237 v238 v239 v240 v241 v242 v243 v244 v245 v246 v247 v248 v249 v250 v251 v252 v253 v254 v255 v256 v257 v258 v259 v260 v261 v262 v263 v264 v265 v266 v267 v268 v269 v270 v271 v272 v273 v274 v275 v276 v277 : Value} {gs go t : Nat} {S : St} {wa wr : World} {K0 : Act → World → Prop} {Q0 : Exit → Act → World → Prop} (ht8 : t < 8) (hgo : gs < go) (Sa : Ar wa 137 gs S.l) (hA : Ab wr 53 go (outs S t)) (bA : Below go wa wr)
    (hK : ∀ (u239 u240 u241 u242 u243 u244 u245 u246 u247 u248 u249 u250 u251 u252 u253 u254 u255 u256 u257 u258 u259 u260 u261 u262 u263 u264 u265 u266 u267 u268 u269 u270 u271 u272 u273 u274 u275 u276 : Value) (w' : World),Ab w' 53 go (outs S (t + 1)) → Below go wa w' → K0 ⟨#[v0,v1,v2,v3,.pointer (some ⟨gs,0,none⟩),v5,v6,v7,v8,v9,v10,v11,v12,v13,v14,v15,v16,v17,v18,v19,v20,.pointer (some ⟨go,0,none⟩),.int .i64 ((t : Int) + 1),v23,v24,v25,v26,v27,v28,v29,v30,v31,v32,v33,v34,v35,v36,v37,v38,v39,v40,v41,v42,v43,v44,v45,v46,v47,v48,v49,v50,v51,v52,v53,v54,v55,v56,v57,v58,v59,v60,v61,v62,v63,v64,v65,v66,v67,v68,v69,v70,v71,v72,v73,v74,v75,v76,v77,v78,v79,v80,v81,v82,v83,v84,v85,v86,v87,v88,v89,v90,v91,v92,v93,v94,v95,v96,v97,v98,v99,v100,v101,v102,v103,v104,v105,v106,v107,v108,v109,v110,v111,v112,v113,v114,v115,v116,v117,v118,v119,v120,v121,v122,v123,v124,v125,v126,v127,v128,v129,v130,v131,v132,v133,v134,v135,v136,v137,v138,v139,v140,v141,v142,v143,v144,v145,v146,v147,v148,v149,v150,v151,v152,v153,v154,v155,v156,v157,v158,v159,v160,v161,v162,v163,v164,v165,v166,v167,v168,v169,v170,v171,v172,v173,v174,v175,v176,v177,v178,v179,v180,v181,v182,v183,v184,v185,v186,v187,v188,v189,v190,v191,v192,v193,v194,v195,v196,v197,v198,v199,v200,v201,v202,v203,v204,v205,v206,v207,v208,v209,v210,v211,v212,v213,v214,v215,v216,v217,v218,v219,v220,v221,v222,v223,v224,v225,v226,v227,v228,v229,v230,v231,v232,v233,v234,v235,v236,v237,v238,u239,u240,u241,u242,u243,u244,u245,u246,u247,u248,u249,u250,u251,u252,u253,u254,u255,u256,u257,u258,u259,u260,u261,u262,u263,u264,u265,u266,u267,u268,u269,u270,u271,u272,u273,u274,u275,u276,v277],[]⟩ w') :
    Code.wp Tryz.prog (rb 7) (Exit.then K0 Q0) ⟨#[v0,v1,v2,v3,.pointer (some ⟨gs,0,none⟩),v5,v6,v7,v8,v9,v10,v11,v12,v13,v14,v15,v16,v17,v18,v19,v20,.pointer (some ⟨go,0,none⟩),.int .i64 (t : Int),v23,v24,v25,v26,v27,v28,v29,v30,v31,v32,v33,v34,v35,v36,v37,v38,v39,v40,v41,v42,v43,v44,v45,v46,v47,v48,v49,v50,v51,v52,v53,v54,v55,v56,v57,v58,v59,v60,v61,v62,v63,v64,v65,v66,v67,v68,v69,v70,v71,v72,v73,v74,v75,v76,v77,v78,v79,v80,v81,v82,v83,v84,v85,v86,v87,v88,v89,v90,v91,v92,v93,v94,v95,v96,v97,v98,v99,v100,v101,v102,v103,v104,v105,v106,v107,v108,v109,v110,v111,v112,v113,v114,v115,v116,v117,v118,v119,v120,v121,v122,v123,v124,v125,v126,v127,v128,v129,v130,v131,v132,v133,v134,v135,v136,v137,v138,v139,v140,v141,v142,v143,v144,v145,v146,v147,v148,v149,v150,v151,v152,v153,v154,v155,v156,v157,v158,v159,v160,v161,v162,v163,v164,v165,v166,v167,v168,v169,v170,v171,v172,v173,v174,v175,v176,v177,v178,v179,v180,v181,v182,v183,v184,v185,v186,v187,v188,v189,v190,v191,v192,v193,v194,v195,v196,v197,v198,v199,v200,v201,v202,v203,v204,v205,v206,v207,v208,v209,v210,v211,v212,v213,v214,v215,v216,v217,v218,v219,v220,v221,v222,v223,v224,v225,v226,v227,v228,v229,v230,v231,v232,v233,v234,v235,v236,v237,v238,v239,v240,v241,v242,v243,v244,v245,v246,v247,v248,v249,v250,v251,v252,v253,v254,v255,v256,v257,v258,v259,v260,v261,v262,v263,v264,v265,v266,v267,v268,v269,v270,v271,v272,v273,v274,v275,v276,v277],[]⟩ wr := by
  conv => arg 2; whnf
  have za : wr.cell? ⟨gs, t, none⟩ = some (.int .u32 (u (S.l.getD t 0))) := (Sa.kept (bA.block gs hgo)).get t ht8
  have HO : Hid (outs S (t + 1) = ((((outs S t).set (4 * t) (byt (S.l.getD t 0) 3)).set (4 * t + 1) (byt (S.l.getD t 0) 2)).set (4 * t + 2) (byt (S.l.getD t 0) 1)).set (4 * t + 3) (byt (S.l.getD t 0) 0)) := rfl
  generalize S.l.getD t 0 = sa at za HO
  have t8 : (t : Int) < 8 := by omega
  have e0 := IntWalk.i64_in (4 * (t : Int)) (by omega)
  have e1 := IntWalk.i64_in (4 * (t : Int) + 1) (by omega)
  have e2 := IntWalk.i64_in (4 * (t : Int) + 2) (by omega)
  have e3 := IntWalk.i64_in (4 * (t : Int) + 3) (by omega)
  have n0' : 0 ≤ 4 * (t : Int) := by omega
  have n1 : 0 ≤ 4 * (t : Int) + 1 := by omega
  have n2 : 0 ≤ 4 * (t : Int) + 2 := by omega
  have n3 : 0 ≤ 4 * (t : Int) + 3 := by omega
  have m0 : 4 * (t : Int) < 32 := by omega
  have m1 : 4 * (t : Int) + 1 < 32 := by omega
  have m2 : 4 * (t : Int) + 2 < 32 := by omega
  have m3 : 4 * (t : Int) + 3 < 32 := by omega
  have f0 : (4 * (t : Int)).toNat = 4 * t := by omega
  have f1 : (4 * (t : Int) + 1).toNat = 4 * t + 1 := by omega
  have f2 : (4 * (t : Int) + 2).toNat = 4 * t + 2 := by omega
  have f3 : (4 * (t : Int) + 3).toNat = 4 * t + 3 := by omega
  have r0 := u8_byte0
  have r1 := u8_byte1
  have r2 := u8_byte2
  have r3 := u8_byte3
  have s0 := u_byte0
  have s1 := u_byte1
  have s2 := u_byte2
  have s3 := u_byte3
  have r4 := ub_wrap
  have r5 := ub_mod
  have hfar := far_cell (show gs ≠ go by omega)
  have lo := u_lo
  have hi := u_hi
  go_wp2_with fail
  have c0 := hA.cell (4 * t) (by rw [outs_length]; omega)
  have c1 := hA.cell (4 * t + 1) (by rw [outs_length]; omega)
  have c2 := hA.cell (4 * t + 2) (by rw [outs_length]; omega)
  have c3 := hA.cell (4 * t + 3) (by rw [outs_length]; omega)
  have z0 := hA.free (4 * t)
  have z1 := hA.free (4 * t + 1)
  have z2 := hA.free (4 * t + 2)
  have z3 := hA.free (4 * t + 3)
  go_region_held3 (fun w' => w'.cell? ⟨gs, t, none⟩ = some (.int .u32 (u sa))) (first | go_keep | (simp only [World.cell?_drew, hfar]; assumption)) (fail)
  go_wp2_with fail
  refine hK _ _ _ _ _ _ _ _ _ _ _ _ _ _ _ _ _ _ _ _ _ _ _ _ _ _ _ _ _ _ _ _ _ _ _ _ _ _ _ ?_ ?_
  · rw [HO.out]; exact ((((hA.set _ _).set _ _).set _ _).set _ _).drew
  · exact ((((bA.setCell (Nat.le_refl _) _).setCell (Nat.le_refl _) _).setCell (Nat.le_refl _) _).setCell (Nat.le_refl _) _).drew
end Go.Proofs.YtdmnjjknkcnkgaaGreatDoor
