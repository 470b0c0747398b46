/-
 Chains as plain data: what stands in blocks stays, and fits the transactions.
 The law's Few, with a definite answer (by gen_fw14.py).
-/
import Derived.Test.YtdmnjjknkcnkgaaGreatDoorMzB
namespace Go.Proofs.YtdmnjjknkcnkgaaGreatDoor
open Go.RowKit
set_option linter.unusedSimpArgs false
structure ChainB (M : Lgr) : Prop where
 len : M.ts.length = M.bl.length
 at_ : ∀ (i : Nat) (b : Blk) (t : List Txn),M.bl[i]? = some b → M.ts[i]? = some t → b.n = (i : Int) + 1 ∧ b.prev.l = hLast (M.bl.take i) ∧ b.count = (t.length : Nat) ∧ 1 ≤ t.length ∧ t.length ≤ 4 ∧ b.root.l = rootS (entsS t)
theorem ChainB.zero : ChainB ⟨0, [], [], []⟩ := ⟨rfl, fun i b t h => by simp at h⟩
theorem ChainB.cls {M : Lgr} (h : ChainB M) (ho : M.op.length ≤ 4) : ChainB (cls M) := by
 unfold Go.Proofs.YtdmnjjknkcnkgaaGreatDoor.cls
 split
 · exact h
 · rename_i hne
   have hp : 0 < M.op.length := List.length_pos_iff.2 hne
   refine ⟨by simp [h.len], fun i b t hb ht => ?_⟩
   have hb : (M.bl ++ [newB M])[i]? = some b := hb
   have ht : (M.ts ++ [M.op])[i]? = some t := ht
   show b.n = (i : Int) + 1 ∧ b.prev.l = hLast ((M.bl ++ [newB M]).take i) ∧ _
   rcases Nat.lt_trichotomy i M.bl.length with hi | hi | hi
   · rw [List.getElem?_append_left hi] at hb
     rw [List.getElem?_append_left (by rw [h.len]; exact hi)] at ht
     rw [List.take_append_of_le_length (Nat.le_of_lt hi)]
     exact h.at_ i b t hb ht
   · subst hi
     rw [List.getElem?_append_right (Nat.le_refl _), Nat.sub_self] at hb
     rw [List.getElem?_append_right (by rw [h.len]; exact Nat.le_refl _), h.len, Nat.sub_self] at ht
     obtain rfl := Option.some.inj hb
     obtain rfl := Option.some.inj ht
     refine ⟨rfl, ?_, rfl, hp, ho, rfl⟩
     rw [List.take_left']
     · rfl
     · rfl
   · rw [List.getElem?_eq_none (by simp; omega)] at hb
     cases hb
theorem ChainB.add {M : Lgr} (h : ChainB M) (ho : M.op.length < 4) (c : List Chg) : ChainB (addL M c) := by
 have h2 : ChainB ⟨M.next + 1, M.op ++ [(M.next, c)], M.bl, M.ts⟩ := ⟨h.len, h.at_⟩
 simp only [addL]
 split
 · exact h2.cls (by simp; omega)
 · exact h2
def Fore (M M' : Lgr) : Prop := M.bl.length ≤ M'.bl.length ∧ ∀ (i : Nat), i < M.bl.length → M'.bl[i]? = M.bl[i]?
theorem Fore.refl (M : Lgr) : Fore M M := ⟨Nat.le_refl _, fun _ _ => rfl⟩
theorem Fore.trans {M M' M2 : Lgr} (h : Fore M M') (k : Fore M' M2) : Fore M M2 := ⟨Nat.le_trans h.1 k.1, fun i hi => (k.2 i (Nat.lt_of_lt_of_le hi h.1)).trans (h.2 i hi)⟩
theorem Fore.cls (M : Lgr) : Fore M (cls M) := by
 unfold Go.Proofs.YtdmnjjknkcnkgaaGreatDoor.cls
 split
 · exact Fore.refl M
 · exact ⟨by simp, fun i hi => List.getElem?_append_left hi⟩
theorem Fore.add (M : Lgr) (c : List Chg) : Fore M (addL M c) := by
 simp only [addL]
 split
 · exact Fore.cls ⟨M.next + 1, M.op ++ [(M.next, c)], M.bl, M.ts⟩
 · exact Fore.refl M
theorem stepL_inv {k : Nat} {M : Lgr} (h : LInv k M) (s : Stp) (hs : StOk s) : ∃ k2, k ≤ k2 ∧ k2 ≤ k + 1 ∧ LInv k2 (stepL M s) := by
 unfold stepL
 split
 · exact ⟨k, Nat.le_refl _, Nat.le_succ _, h.cls⟩
 · exact ⟨k + 1, Nat.le_succ _, Nat.le_refl _, h.add _ (chgs_ok s hs _)⟩
theorem stepL_chain {k : Nat} {M : Lgr} (h : ChainB M) (hI : LInv k M) (s : Stp) : ChainB (stepL M s) := by
 unfold stepL
 split
 · exact h.cls (Nat.le_of_lt hI.op)
 · exact h.add hI.op _
theorem stepL_fore (M : Lgr) (s : Stp) : Fore M (stepL M s) := by
 unfold stepL
 split
 · exact Fore.cls M
 · exact Fore.add M _
theorem buildL_chain (l : List Stp) (hok : ∀ s ∈ l, StOk s) : ChainB (buildL l) := by
 have key : ∀ (m : List Stp) (M : Lgr) (k : Nat), (∀ s ∈ m, StOk s) → LInv k M → ChainB M → ChainB (m.foldl stepL M) := by
  intro m
  induction m with
  | nil => exact fun M k _ _ h => h
  | cons s m ih =>
   intro M k hs hI h
   rw [List.foldl_cons]
   obtain ⟨k2, -, -, hI2⟩ := stepL_inv hI s (hs s (List.mem_cons_self ..))
   exact ih _ k2 (fun x hx => hs x (List.mem_cons_of_mem _ hx)) hI2 (stepL_chain h hI s)
 exact key l _ 0 hok LInv.zero ChainB.zero
def stB (s : Stp) : Bool := decide (s.1.2.2.size ≤ 30) && (fewB s.2 && decide ((s.2.length : Int) ≤ 12))
def few14B (l : List Stp) : Bool := l.all stB && decide (l.length ≤ 40)
theorem few14B_no (l : List Stp) {x : Stp} (h : x ∈ l) (hx : stB x = false) : few14B l = false := by
 unfold few14B
 rw [show l.all stB = false from List.all_eq_false.2 ⟨x, h, by rw [hx]; decide⟩, Bool.false_and]
theorem few14B_end (l : List Stp) (h : ∀ s ∈ l, stB s = true) : few14B l = decide (l.length ≤ 40) := by
 unfold few14B
 rw [show l.all stB = true from List.all_eq_true.2 h, Bool.true_and]
theorem few14B_ok {l : List Stp} (h : few14B l = true) : l.length ≤ 40 ∧ ∀ s ∈ l, StOk s := by
 unfold few14B at h
 rw [Bool.and_eq_true, decide_eq_true_eq, List.all_eq_true] at h
 refine ⟨h.2, fun s hs => ?_⟩
 have := h.1 s hs
 unfold stB at this
 simp only [Bool.and_eq_true, decide_eq_true_eq] at this
 exact ⟨this.1, by have := this.2.2; omega⟩
set_option maxRecDepth 100000 in
set_option maxHeartbeats 2000000 in
theorem few14_is (w : World) (Q : Nat → Prop) (ao : Option Addr) (n c : Nat) (l : List Stp) (h : IsD DSt w Q ao n c l) :
 Calls Tryz.prog 14 #[.slice ao n c] w (Told w (few14B l)) := by
 have hln := h.len
 have hmx : n ≤ maxLen := by obtain ⟨bs, h1, -⟩ := id h; exact Nat.le_trans h1.le h1.max
 unfold maxLen at hmx
 go_enter Tryz.func14, Tryz.ntmps14
 go_wp2_with fail
 go_loopw [3] (fun i wr => ∃ j : Nat, j ≤ n ∧ i = .int .i64 (j : Nat) ∧ (∀ s ∈ l.take j, stB s = true) ∧ Below w.heap.size w wr) (fun i _ => n - (intOf i).toNat)
 case atStart => exact ⟨0, Nat.zero_le _, rfl, fun s hs => by simp at hs, Below.refl _ _⟩
 case round =>
  obtain ⟨j, hj, rfl, hk, hB⟩ := hrel
  by_cases hlt : j < n
  · have hlti : (j : Int) < (n : Int) := by omega
    obtain ⟨x, hx⟩ : ∃ x, l[j]? = some x := ⟨l[j]'(by omega), List.getElem?_eq_getElem _⟩
    have htk : l.take (j + 1) = l.take j ++ [x] := by
     obtain ⟨hj2, rfl⟩ := List.getElem?_eq_some_iff.1 hx
     rw [List.take_succ_eq_append_getElem hj2]
    have HTk := Lib.hid htk
    obtain ⟨gb, goff, bb, rfl, hgl, -, hcl, hr⟩ := (h.past hB).at hx
    obtain ⟨⟨bn, bo, bt⟩, ⟨xa, xn, xc⟩⟩ := bb
    obtain ⟨⟨xi, xo, xt⟩, xl⟩ := x
    obtain ⟨hE, hr2⟩ := hr
    obtain ⟨rfl, rfl, rfl⟩ : bn = xi ∧ bo = xo ∧ bt = xt := by simpa using hE
    have hxl : xl.length = xn := hr2.flat.len
    have hcl : ∀ k u, (ESt.f ((bn, bo, bt), ⟨xa, xn, xc⟩))[k]? = some u → wr.cell? ⟨gb, goff + (j * 4 + k), none⟩ = some u := hcl
    have y2 : wr.cell? ⟨gb, goff + j * 4 + 2, none⟩ = some (.string bt) := by have := hcl 2 _ rfl; rwa [← Nat.add_assoc] at this
    have y3 : wr.cell? ⟨gb, goff + j * 4 + 3, none⟩ = some (.slice xa xn xc) := by have := hcl 3 _ rfl; rwa [← Nat.add_assoc] at this
    have hFw := fun (w' : World) (b : Below wr.heap.size wr w') => few5_any xa xn xc xl w' (hr2.flat.past b)
    obtain ⟨fb, hfb⟩ : ∃ x, (fewB xl && decide ((xn : Int) ≤ 12)) = x := ⟨_, rfl⟩
    simp only [hfb] at hFw
    have HFB := Lib.hid hfb
    have HFB2 : Hid ((fewB xl && decide ((xl.length : Int) ≤ 12)) = fb) := Lib.hid (by rw [hxl]; exact hfb)
    have HXM := Lib.hid (List.mem_of_getElem? hx)
    clear hfb htk hcl hx
    by_cases ht : bt.size ≤ 30
    · have hti : ¬ ((30 : Int) < (bt.size : Int)) := by omega
      cases fb with
      | false =>
       go_wp2_with (go_at_call 28; refine (hFw _ (Below.refl _ _)).mono ?_; rintro e w4 ⟨rfl, b4⟩)
       go_ret
       exact ⟨by rw [few14B_no l HXM.out (by unfold stB; rw [HFB2.out, Bool.and_false])]; rfl, hB.trans (b4.mono hB.size)⟩
      | true =>
       have hxn : xn ≤ 12 := by
        have := HFB.out
        rw [Bool.and_eq_true, decide_eq_true_eq] at this
        omega
       go_wp2_with (go_at_call 28; refine (hFw _ (Below.refl _ _)).mono ?_; rintro e w4 ⟨rfl, b4⟩)
       go_roundw
       case rel =>
        refine ⟨j + 1, by omega, by go_num, fun s hs => ?_, hB.trans (b4.mono hB.size)⟩
        rw [HTk.out] at hs
        rcases List.mem_append.1 hs with hs | hs
        · exact hk s hs
        · rw [List.mem_singleton.1 hs]; unfold stB; rw [HFB2.out, Bool.and_true]; exact decide_eq_true ht
       case measure => simp [intOf]; omega
    · have hti : ((30 : Int) < (bt.size : Int)) := by omega
      go_wp2_with fail
      go_ret
      exact ⟨by rw [few14B_no l HXM.out (by unfold stB; rw [show decide (bt.size ≤ 30) = false from decide_eq_false ht, Bool.false_and])]; rfl, hB⟩
  · have hlti : ¬ (j : Int) < (n : Int) := by omega
    obtain rfl : j = n := by omega
    rw [List.take_of_length_le (Nat.le_of_eq hln)] at hk
    obtain ⟨m, hm⟩ : ∃ m, m = decide (j ≤ 40) := ⟨_, rfl⟩
    have HE := Lib.hid (few14B_end l hk)
    go_wp2_with fail
    go_ret
    exact ⟨by rw [HE.out, hln, show decide (j ≤ 40) = decide ((j : Int) ≤ 40) from decide_eq_decide.2 ⟨fun h => by omega, fun h => by omega⟩]; rfl, hB⟩
end Go.Proofs.YtdmnjjknkcnkgaaGreatDoor
