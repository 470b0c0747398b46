/-
  A disk is synced.
-/
import Derived.Test.YtpfhggalbdjjmaaDWrite
namespace Go.Proofs.Ytpfhggalbdjjmaa
open Go.RowKit
set_option linter.unusedSimpArgs false

/-- What stands on the pages of l is kept. -/
def syncs (last kept : List (List UInt8)) : List (Nat × List UInt8) → List (List UInt8)
  | [] => kept
  | x :: l => syncs last (kept.set x.1 (pad (last.getD x.1 []))) l
theorem syncs_snoc (last : List (List UInt8)) : ∀ (l : List (Nat × List UInt8)) (kept : List (List UInt8)) (x : Nat × List UInt8), syncs last kept (l ++ [x]) = (syncs last kept l).set x.1 (pad (last.getD x.1 []))
  | [], _, _ => rfl
  | y :: l, kept, x => by rw [List.cons_append, syncs, syncs_snoc last l, syncs]
theorem syncs_length (last : List (List UInt8)) : ∀ (l : List (Nat × List UInt8)) (kept : List (List UInt8)), (syncs last kept l).length = kept.length
  | [], _ => rfl
  | x :: l, kept => by rw [syncs, syncs_length last l, List.length_set]
/-- Page p behind that: as it stood, or as it reads. -/
theorem syncs_at (last : List (List UInt8)) (p : Nat) : ∀ (l : List (Nat × List UInt8)) (kept : List (List UInt8)), (∀ x ∈ l, x.1 < kept.length) →
    ((∃ x ∈ l, x.1 = p) → pad ((syncs last kept l).getD p []) = pad (last.getD p [])) ∧ ((∀ x ∈ l, x.1 ≠ p) → (syncs last kept l).getD p [] = kept.getD p [])
  | [], kept, _ => ⟨(fun ⟨x, hx, _⟩ => by cases hx), fun _ => rfl⟩
  | x :: l, kept, hk => by
    have ih := syncs_at last p l (kept.set x.1 (pad (last.getD x.1 []))) (fun y hy => by rw [List.length_set]; exact hk y (by simp [hy]))
    have hx := hk x (by simp)
    refine ⟨fun ⟨y, hy, e⟩ => ?_, fun h => ?_⟩
    · rw [syncs]
      by_cases hin : ∃ z ∈ l, z.1 = p
      · exact ih.1 hin
      · rw [ih.2 (fun z hz e => hin ⟨z, hz, e⟩)]
        rcases List.mem_cons.1 hy with rfl | hy
        · subst e
          have : (kept.set y.1 (pad (last.getD y.1 []))).getD y.1 [] = pad (last.getD y.1 []) := set_get _ _ _ hx
          rw [this, pad_pad]
        · exact absurd ⟨y, hy, e⟩ hin
    · rw [syncs, ih.2 (fun y hy => h y (by simp [hy]))]
      have hne := h x (by simp)
      simp [List.getD, List.getElem?_set_ne hne]
theorem take_snoc' {α : Type} (l : List α) (i : Nat) (x : α) (h : l[i]? = some x) : l.take (i + 1) = l.take i ++ [x] := by
  have hi := (List.getElem?_eq_some_iff.1 h).1
  rw [List.take_succ_eq_append_getElem hi]
  congr 2
  exact (List.getElem?_eq_some_iff.1 h).2
/-- What a Sync that answers OK leaves. -/
def Dk.sync (s : Dk) : Dk := { s with left := s.left - 1, kept := syncs s.last s.kept s.pend, pend := [] }
section
variable {w : World} {d L K n : Nat} {ao : Option Addr} {m c : Nat} {s : Dk}
theorem sync_dead (h : DkAt w d L K n ao m c s) (hg : s.gone = true) :
    Calls Try.prog 34 #[.pointer (some ⟨d, 0, none⟩)] w fun e w' => e = .returned (.int .i64 15) ∧ w = w' := by
  have HG := Lib.hid hg
  clear hg
  go_enter Try.func34, Try.ntmps34
  go_wp2_with fail
  refine (dead_at h).mono ?_
  rintro e w' ⟨rfl, rfl⟩
  rw [HG.out]
  go_wp2
  go_ret
  exact ⟨rfl, rfl⟩
set_option maxRecDepth 100000 in
theorem sync_last (h : DkAt w d L K n ao m c s) (hg : s.gone = false) (hl : s.left = 1) :
    Calls Try.prog 34 #[.pointer (some ⟨d, 0, none⟩)] w fun e w' => e = .returned (.int .i64 15) ∧ DkAt w' d L K n ao m c { s with left := 0, gone := true } ∧ w.grownBy w' (some d) := by
  have hr : Room s := by unfold Room; rw [hl]; rfl
  have HG := Lib.hid hg
  have HC := Lib.hid (code_last hl)
  have HS := Lib.hid (spent_last hl)
  have c0 := h.c0
  clear hg hl
  go_enter Try.func34, Try.ntmps34
  go_wp2_with fail
  refine (dead_at h).mono ?_
  rintro e w' ⟨rfl, rfl⟩
  rw [HG.out]
  go_wp2_with fail
  refine (spend_any h hr).mono ?_
  rintro e w1 ⟨rfl, h1, g1⟩
  rw [HC.out]
  rw [HS.out] at h1
  have H1 := Lib.hid h1
  clear h1 h c0
  go_wp2
  go_ret
  exact ⟨rfl, H1.out, g1⟩
set_option maxRecDepth 100000 in
set_option maxHeartbeats 2000000 in
theorem sync_ok (h : DkAt w d L K n ao m c s) (hg : s.gone = false) (hr : Room s) (hl : s.left ≠ 1) (hm : m ≤ 1000000) :
    Calls Try.prog 34 #[.pointer (some ⟨d, 0, none⟩)] w fun e w' => e = .returned (.int .i64 0) ∧ DkAt w' d L K n none 0 0 s.sync ∧ Kp w w' (ownD d L K ao) := by
  have HG := Lib.hid hg
  have HC := Lib.hid (code_more hl)
  have HS := Lib.hid (spent_more hl)
  have c0 := h.c0
  clear hg hl
  go_enter Try.func34, Try.ntmps34
  go_wp2_with fail
  refine (dead_at h).mono ?_
  rintro e w' ⟨rfl, rfl⟩
  rw [HG.out]
  go_wp2_with fail
  refine (spend_any h hr).mono ?_
  rintro e w1 ⟨rfl, h1, g1⟩
  rw [HC.out]
  rw [HS.out] at h1
  have c4 := h1.c4
  have K1 : Kp w w1 (ownD d L K ao) := Kp.ofGrown g1 (fun z e => by cases e; exact .inl rfl)
  clear h c0 g1
  go_wp2_with fail
  have h0 : DkAt w1 d L K n ao m c { s with left := s.left - 1, kept := syncs s.last s.kept (s.pend.take 0) } := h1
  have hpl : s.pend.length = m := h1.pend.len
  have HPL := Lib.hid hpl
  clear hpl c4 h1
  go_loopw [20] (fun v wr => ∃ i : Nat, i ≤ m ∧ v = .int .i64 i ∧ DkAt wr d L K n ao m c { s with left := s.left - 1, kept := syncs s.last s.kept (s.pend.take i) } ∧ Kp w wr (ownD d L K ao)) (fun v _ => (m - (intOf v).toNat))
  case atStart => exact ⟨0, Nat.zero_le _, rfl, h0, K1⟩
  case round =>
    clear h0 K1
    obtain ⟨i, hi, rfl, hD, hK⟩ := hrel
    by_cases him : i < m
    · have him2 : (i : Int) < (m : Int) := by omega
      obtain ⟨x, hx⟩ : ∃ x, s.pend[i]? = some x := ⟨_, List.getElem?_eq_getElem (by rw [HPL.out]; exact him)⟩
      obtain ⟨og, rfl, hO, hog⟩ : ∃ og, ao = some ⟨og, 0, none⟩ ∧ OwnR encWr wr 76 og m c s.pend ∧ d + 1 ≤ og := by
        rcases hD.pend.either with ⟨_, h, _⟩ | h
        · omega
        · exact h
      have hcells : ∀ j v, (wrC x)[j]? = some v → wr.cell? ((⟨og, i * 65, none⟩ : Addr).add j) = some v := fun j v hv => by
        rw [Addr.add_lit]
        refine hO.cell _ _ ?_
        have hj : j < 65 := by have := (List.getElem?_eq_some_iff.1 hv).1; rwa [wrC_length] at this
        exact (Enc.all_get encWr s.pend i j x hx hj).trans hv
      have hpx := hD.pages x (List.mem_of_getElem? hx)
      obtain ⟨xp, xb⟩ := x
      have HX := Lib.hid hx
      have hsm := hO.max
      have hle := hO.le
      clear hx
      go_wp2_with (first
        | (with_reducible refine wpList_load_cells (o := ⟨some 23, _, _, _, _, _⟩) rfl 76 _ rfl ⟨og, i * 65, none⟩ rfl (wrC (xp, xb)) hcells wr_agg (by rw [wr_size, wrC_length]) ?_)
        | (with_reducible refine wpList_alloc_blk (o := ⟨some 5, _, _, _, _, _⟩) rfl 76 rfl _ wr_zero ?_; intro w2 g h2 b2 q2)
        | ((with_reducible refine wpList_store_blk (o := ⟨none, _, _, _, _, _⟩) rfl 76 (.tmp 5) (.tmp 23) rfl g _ (wrC (xp, xb)).toArray ?_ ?_ _ h2 65 wr_size (wrC_length _) (wrC_length _) (wr_all _) ?_); (rfl); (rfl); (intro w3 h3 g3)))
      have hg1 : wr.heap.size ≤ g := q2
      have B3 : Below wr.heap.size wr w3 := b2.grown g3 b2.size (fun k hk => by cases hk; exact hg1)
      have hW : WAt w3 g (xp, xb) := ⟨h3.out⟩
      have h4 := hD.past B3
      have K3 : Kp w w3 (ownD d L K (some ⟨og, 0, none⟩)) := hK.trans (Kp.ofBelow B3 _) (fun _ _ q => q)
      have c2 := h4.c2
      have c3 := h4.c3
      have e0 := hW.c0
      have hat := h4.last.at_pg xp hpx
      have hpl := pad_length (s.last.getD xp [])
      have hxi : (xp : Int) < (n : Int) := by omega
      have HAT := Lib.hid hat
      have HPL2 := Lib.hid hpl
      clear b2 h2 g3 h3 B3 hD hK hcells hat hpl
      go_still_tail 15, (by kernel_rfl)
      refine wpStill_load_at (by rfl) 74 _ rfl ⟨L, xp * 64, none⟩ rfl (pad (s.last.getD xp [])) (HAT.out.past (Below.refl _ _).drew) _ _ Try.underlying74 (by rw [sizePg, HPL2.out]) ?_
      repeat still_step
      refine wpStill_nil ?_
      change wpList _ _ _ _ _ w3.drew
      refine wpList_store_pg rfl _ _ (.inr rfl) xp h4.drew.kept rfl hpx (pad (s.last.getD xp [])) rfl HPL2.out fun w5 hK5 g5 => ?_
      have h5 := h4.drew.putKept _ hK5 g5
      have K5 : Kp w w5 (ownD d L K (some ⟨og, 0, none⟩)) := K3.trans ((Kp.drew w3 _).trans (Kp.ofGrown g5 (fun z e => by cases e; exact .inr (.inr (.inl rfl)))) (fun _ _ q => q)) (fun _ _ q => q)
      have e5 : (syncs s.last s.kept (s.pend.take i)).set xp (pad (s.last.getD xp [])) = syncs s.last s.kept (s.pend.take (i + 1)) := by
        rw [take_snoc' _ _ _ HX.out, syncs_snoc]
      simp only [e5] at h5
      have H5 := Lib.hid h5
      clear h4 h5 hK5 g5 K3 e5 c2 c3 e0 hW
      go_wp2_with fail
      go_roundw
      case rel => exact ⟨i + 1, by omega, by go_num, H5.out, K5⟩
      case measure => simp [intOf]; omega
    · have him2 : ¬ (i : Int) < (m : Int) := by omega
      obtain rfl : i = m := by omega
      have c0 := hD.c0
      have c4 := hD.c4
      have f4 := hD.free 4
      have h6 := hD.noPend
      have K6 := hK.trans (Kp.set wr d 4 (.slice none 0 0) (S := ownD d L K ao) (.inl rfl)) (fun _ _ q => q)
      have H6 : Hid (DkAt (wr.setCell ⟨d, 4, none⟩ (.slice none 0 0)) d L K n none 0 0 s.sync) := by
        rw [List.take_of_length_le (by rw [HPL.out]; exact Nat.le_refl _)] at h6
        exact h6
      clear hD h6 hK
      go_wp2_with fail
      go_ret
      exact ⟨rfl, H6.out, K6⟩
end
end Go.Proofs.Ytpfhggalbdjjmaa
