/-
  The power comes again.
-/
import Derived.Test.YtpfhggalbdjjmaaDSync
import Derived.Test.YtpfhggalbdjjmaaEI
namespace Go.Proofs.Ytpfhggalbdjjmaa
open Go.RowKit
set_option linter.unusedSimpArgs false

/-- THE PAGES BEHIND k PICKS: what is kept, what is read. -/
def cr (kept last : List (List UInt8)) (l : List (Nat × List UInt8)) (ps : List Int) : Nat → List (List UInt8) × List (List UInt8)
  | 0 => (kept, last)
  | k + 1 => ((cr kept last l ps k).1.set (l.getD k (0, [])).1 (tkp ((cr kept last l ps k).1.getD (l.getD k (0, [])).1 []) (pad (l.getD k (0, [])).2) (ps.getD k 0)),
      (cr kept last l ps k).2.set (l.getD k (0, [])).1 (pad (tkp ((cr kept last l ps k).1.getD (l.getD k (0, [])).1 []) (pad (l.getD k (0, [])).2) (ps.getD k 0))))
theorem cr_kept (kept last : List (List UInt8)) (l : List (Nat × List UInt8)) (ps : List Int) : ∀ k, (cr kept last l ps k).1.length = kept.length
  | 0 => rfl
  | k + 1 => by rw [cr]; simp [cr_kept kept last l ps k]
theorem cr_last (kept last : List (List UInt8)) (l : List (Nat × List UInt8)) (ps : List Int) : ∀ k, (cr kept last l ps k).2.length = last.length
  | 0 => rfl
  | k + 1 => by rw [cr]; simp [cr_last kept last l ps k]
theorem cr_step (kept last : List (List UInt8)) (l : List (Nat × List UInt8)) (ps : List Int) (k xp : Nat) (xb : List UInt8) (y : Int) (hx : l[k]? = some (xp, xb)) (hy : ps.getD k 0 = y) (hp : xp < (cr kept last l ps k).1.length) :
    cr kept last l ps (k + 1) = ((cr kept last l ps k).1.set xp (tkp ((cr kept last l ps k).1.getD xp []) (pad xb) y), (cr kept last l ps k).2.set xp (pad (((cr kept last l ps k).1.set xp (tkp ((cr kept last l ps k).1.getD xp []) (pad xb) y)).getD xp []))) := by
  have hl : l.getD k (0, []) = (xp, xb) := by simp [List.getD, hx]
  rw [set_get _ _ _ hp, cr, hl, hy]
/-- What a Crash leaves. -/
def Dk.crash (s : Dk) (ps : List Int) : Dk := { left := 0, gone := false, kept := (cr s.kept s.last s.pend ps s.pend.length).1, last := (cr s.kept s.last s.pend ps s.pend.length).2, pend := [] }
section
variable {w : World} {d L K n : Nat} {ao : Option Addr} {m c : Nat} {s : Dk}
set_option maxRecDepth 100000 in
set_option maxHeartbeats 4000000 in
theorem crash_at (h : DkAt w d L K n ao m c s) (hm : m ≤ 1000000) (po : Option Addr) (pn pc : Nat) (ps : List Int) (hP : IsR EI w po pn pc ps) (hF : 0 < pn → Far (ownD d L K ao) po) :
    Calls Try.prog 18 #[.pointer (some ⟨d, 0, none⟩), .slice po pn pc] w fun e w' => e = .returned (.tuple #[]) ∧ DkAt w' d L K n none 0 0 (s.crash ps) ∧ Kp w w' (ownD d L K ao) := by
  have c4 := h.c4
  have hpl : s.pend.length = m := h.pend.len
  have HPL := Lib.hid hpl
  have h0 : DkAt w d L K n ao m c { s with kept := (cr s.kept s.last s.pend ps 0).1, last := (cr s.kept s.last s.pend ps 0).2 } := h
  have hkl : s.kept.length = n := h.kept.len
  have HKL := Lib.hid hkl
  have hdw := h.lt
  clear hpl hkl h
  go_enter Try.func18, Try.ntmps18
  go_wp2_with fail
  go_loopw [12] (fun v wr => ∃ i : Nat, i ≤ m ∧ v = .int .i64 i ∧ DkAt wr d L K n ao m c { s with kept := (cr s.kept s.last s.pend ps i).1, last := (cr s.kept s.last s.pend ps i).2 } ∧ Kp w wr (ownD d L K ao)) (fun v _ => (m - (intOf v).toNat))
  case atStart => exact ⟨0, Nat.zero_le _, rfl, h0, Kp.refl _ _⟩
  case round =>
    clear h0 c4
    obtain ⟨i, hi, rfl, hD, hK⟩ := hrel
    by_cases him : i < m
    · have him2 : (i : Int) < (m : Int) := by omega
      obtain ⟨x, hx⟩ : ∃ x, s.pend[i]? = some x := ⟨_, List.getElem?_eq_getElem (by rw [HPL.out]; exact him)⟩
      obtain ⟨og, rfl, hO, hog⟩ : ∃ og, ao = some ⟨og, 0, none⟩ ∧ OwnR encWr wr 76 og m c s.pend ∧ d + 1 ≤ og := by
        rcases hD.pend.either with ⟨_, h, _⟩ | h
        · omega
        · exact h
      have hcells : ∀ j v, (wrC x)[j]? = some v → wr.cell? ((⟨og, i * 65, none⟩ : Addr).add j) = some v := fun j v hv => by
        rw [Addr.add_lit]
        refine hO.cell _ _ ?_
        have hj : j < 65 := by have := (List.getElem?_eq_some_iff.1 hv).1; rwa [wrC_length] at this
        exact (Enc.all_get encWr s.pend i j x hx hj).trans hv
      have hpx := hD.pages x (List.mem_of_getElem? hx)
      obtain ⟨xp, xb⟩ := x
      have HX := Lib.hid hx
      have hsm := hO.max
      have hle := hO.le
      have hlt : d < wr.heap.size := hD.lt
      clear hx hO
      by_cases hip : i < pn
      · have hip2 : (i : Int) < (pn : Int) := by omega
        obtain ⟨pa, rfl⟩ := hP.has (by omega)
        have hpk : ∃ y, ps[i]? = some y := ⟨_, List.getElem?_eq_getElem (by rw [hP.len]; exact hip)⟩
        obtain ⟨y, hy⟩ := hpk
        have HPK : Hid (ps.getD i 0 = y) := by simp [Hid, List.getD, hy]
        have hc0 : wr.cell? (pa.add i) = some (.int .i64 y) := (hP.kp hK (hF (by omega))).cell pa rfl i _ (by rw [EI_all, List.getElem?_map, hy]; rfl)
        clear hy
        go_wp2_with (first
          | (with_reducible refine wpList_load_cells (o := ⟨some 16, _, _, _, _, _⟩) rfl 76 _ rfl ⟨og, i * 65, none⟩ rfl (wrC (xp, xb)) hcells wr_agg (by rw [wr_size, wrC_length]) ?_)
          | (with_reducible refine wpList_alloc_blk (o := ⟨some 5, _, _, _, _, _⟩) rfl 76 rfl _ wr_zero ?_; intro w2 g h2 b2 q2)
          | ((with_reducible refine wpList_store_blk (o := ⟨none, _, _, _, _, _⟩) rfl 76 (.tmp 5) (.tmp 16) rfl g _ (wrC (xp, xb)).toArray ?_ ?_ _ h2 65 wr_size (wrC_length _) (wrC_length _) (wr_all _) ?_); (rfl); (rfl); (intro w3 h3 g3; have hcp : w3.cell? (pa.add i) = some (.int .i64 y) := (by rw [(b2.grown g3 b2.size (fun k hk => by cases hk; exact q2)).cell (World.block_lt_of_cell? _ _ hc0)]; exact hc0))))
        have hg1 : wr.heap.size ≤ g := q2
        have B3 : Below wr.heap.size wr w3 := b2.grown g3 b2.size (fun k hk => by cases hk; exact hg1)
        have hW : WAt w3 g (xp, xb) := ⟨h3.out⟩
        have h4 := hD.past B3
        have K3 : Kp w w3 (ownD d L K (some ⟨og, 0, none⟩)) := hK.trans (Kp.ofBelow B3 _) (fun _ _ q => q)
        have c3 := h4.c3
        have e0 := hW.c0
        have hxi : (xp : Int) < (n : Int) := by omega
        clear b2 h2 g3 h3 B3 hD hK hcells
        clear hc0 hcp
        go_still_tail 10, (by kernel_rfl)
        refine wpStill_load_at (by rfl) 74 _ rfl ⟨g, 1, none⟩ rfl (pad xb) (hW.at_.past (Below.refl _ _).drew) _ _ Try.underlying74 (by rw [sizePg, pad_length]) ?_
        repeat still_step
        refine wpStill_nil ?_
        change wpList _ _ _ _ _ w3.drew
        go_wp2_with fail
        refine (take_at h4.drew.kept xp hpx (pad xb) (pad_length xb) _).mono ?_
        rintro e w5 ⟨rfl, hK5, g5⟩
        have h5 := h4.drew.putKept _ hK5 g5
        have hgK : g ≠ K := by have := hlt; have := h4.Kd; omega
        have hgL : g ≠ L := by have := hlt; have := h4.Ld; omega
        have hW5 : WAt w5 g (xp, xb) := (hW.past (Below.refl _ _).drew).grown g5 (fun e => hgK (by cases e; rfl))
        have K5 : Kp w w5 (ownD d L K (some ⟨og, 0, none⟩)) := K3.trans ((Kp.drew w3 _).trans (Kp.ofGrown g5 (fun z e => by cases e; exact .inr (.inr (.inl rfl)))) (fun _ _ q => q)) (fun _ _ q => q)
        clear h4 hK5 g5 K3 c3 e0 hW
        have c2 := h5.c2
        have c3 := h5.c3
        have e0 := hW5.c0
        have hat := h5.kept.at_pg xp hpx
        have HAT := Lib.hid hat
        clear hat
        go_wp2_with fail
        go_still_tail 15, (by kernel_rfl)
        refine wpStill_load_at (by rfl) 74 _ rfl ⟨K, xp * 64, none⟩ rfl _ (HAT.out.past (Below.refl _ _).drew) _ _ Try.underlying74 (by rw [sizePg, pad_length]) ?_
        repeat still_step
        refine wpStill_nil ?_
        change wpList _ _ _ _ _ w5.drew
        refine wpList_store_pg rfl _ _ (.inr rfl) xp h5.drew.last rfl hpx _ rfl (pad_length _) fun w6 hL6 g6 => ?_
        have h6 := h5.drew.putLast _ hL6 g6
        have K6 : Kp w w6 (ownD d L K (some ⟨og, 0, none⟩)) := K5.trans ((Kp.drew w5 _).trans (Kp.ofGrown g6 (fun z e => by cases e; exact .inr (.inl rfl))) (fun _ _ q => q)) (fun _ _ q => q)
        have hks : (cr s.kept s.last s.pend ps i).1.length = n := by rw [cr_kept]; exact HKL.out
        have e6 := cr_step s.kept s.last s.pend ps i xp xb _ HX.out HPK.out (by rw [hks]; exact hpx)
        have H6 : Hid (DkAt w6 d L K n (some ⟨og, 0, none⟩) m c { s with kept := (cr s.kept s.last s.pend ps (i + 1)).1, last := (cr s.kept s.last s.pend ps (i + 1)).2 }) := by
          rw [e6]
          exact h6
        clear h5 h6 hL6 g6 K5 e6 c2 c3 e0 hW5 hks
        go_wp2_with fail
        go_roundw
        case rel => exact ⟨i + 1, by omega, by go_num, H6.out, K6⟩
        case measure => simp [intOf]; omega
      · have hip2 : ¬ (i : Int) < (pn : Int) := by omega
        have HPK : Hid (ps.getD i 0 = 0) := by simp [Hid, List.getD, List.getElem?_eq_none (show ps.length ≤ i by rw [hP.len]; omega)]
        go_wp2_with (first
          | (with_reducible refine wpList_load_cells (o := ⟨some 16, _, _, _, _, _⟩) rfl 76 _ rfl ⟨og, i * 65, none⟩ rfl (wrC (xp, xb)) hcells wr_agg (by rw [wr_size, wrC_length]) ?_)
          | (with_reducible refine wpList_alloc_blk (o := ⟨some 5, _, _, _, _, _⟩) rfl 76 rfl _ wr_zero ?_; intro w2 g h2 b2 q2)
          | ((with_reducible refine wpList_store_blk (o := ⟨none, _, _, _, _, _⟩) rfl 76 (.tmp 5) (.tmp 16) rfl g _ (wrC (xp, xb)).toArray ?_ ?_ _ h2 65 wr_size (wrC_length _) (wrC_length _) (wr_all _) ?_); (rfl); (rfl); (intro w3 h3 g3; skip)))
        have hg1 : wr.heap.size ≤ g := q2
        have B3 : Below wr.heap.size wr w3 := b2.grown g3 b2.size (fun k hk => by cases hk; exact hg1)
        have hW : WAt w3 g (xp, xb) := ⟨h3.out⟩
        have h4 := hD.past B3
        have K3 : Kp w w3 (ownD d L K (some ⟨og, 0, none⟩)) := hK.trans (Kp.ofBelow B3 _) (fun _ _ q => q)
        have c3 := h4.c3
        have e0 := hW.c0
        have hxi : (xp : Int) < (n : Int) := by omega
        clear b2 h2 g3 h3 B3 hD hK hcells
        go_still_tail 10, (by kernel_rfl)
        refine wpStill_load_at (by rfl) 74 _ rfl ⟨g, 1, none⟩ rfl (pad xb) (hW.at_.past (Below.refl _ _).drew) _ _ Try.underlying74 (by rw [sizePg, pad_length]) ?_
        repeat still_step
        refine wpStill_nil ?_
        change wpList _ _ _ _ _ w3.drew
        go_wp2_with fail
        refine (take_at h4.drew.kept xp hpx (pad xb) (pad_length xb) _).mono ?_
        rintro e w5 ⟨rfl, hK5, g5⟩
        have h5 := h4.drew.putKept _ hK5 g5
        have hgK : g ≠ K := by have := hlt; have := h4.Kd; omega
        have hgL : g ≠ L := by have := hlt; have := h4.Ld; omega
        have hW5 : WAt w5 g (xp, xb) := (hW.past (Below.refl _ _).drew).grown g5 (fun e => hgK (by cases e; rfl))
        have K5 : Kp w w5 (ownD d L K (some ⟨og, 0, none⟩)) := K3.trans ((Kp.drew w3 _).trans (Kp.ofGrown g5 (fun z e => by cases e; exact .inr (.inr (.inl rfl)))) (fun _ _ q => q)) (fun _ _ q => q)
        clear h4 hK5 g5 K3 c3 e0 hW
        have c2 := h5.c2
        have c3 := h5.c3
        have e0 := hW5.c0
        have hat := h5.kept.at_pg xp hpx
        have HAT := Lib.hid hat
        clear hat
        go_wp2_with fail
        go_still_tail 15, (by kernel_rfl)
        refine wpStill_load_at (by rfl) 74 _ rfl ⟨K, xp * 64, none⟩ rfl _ (HAT.out.past (Below.refl _ _).drew) _ _ Try.underlying74 (by rw [sizePg, pad_length]) ?_
        repeat still_step
        refine wpStill_nil ?_
        change wpList _ _ _ _ _ w5.drew
        refine wpList_store_pg rfl _ _ (.inr rfl) xp h5.drew.last rfl hpx _ rfl (pad_length _) fun w6 hL6 g6 => ?_
        have h6 := h5.drew.putLast _ hL6 g6
        have K6 : Kp w w6 (ownD d L K (some ⟨og, 0, none⟩)) := K5.trans ((Kp.drew w5 _).trans (Kp.ofGrown g6 (fun z e => by cases e; exact .inr (.inl rfl))) (fun _ _ q => q)) (fun _ _ q => q)
        have hks : (cr s.kept s.last s.pend ps i).1.length = n := by rw [cr_kept]; exact HKL.out
        have e6 := cr_step s.kept s.last s.pend ps i xp xb _ HX.out HPK.out (by rw [hks]; exact hpx)
        have H6 : Hid (DkAt w6 d L K n (some ⟨og, 0, none⟩) m c { s with kept := (cr s.kept s.last s.pend ps (i + 1)).1, last := (cr s.kept s.last s.pend ps (i + 1)).2 }) := by
          rw [e6]
          exact h6
        clear h5 h6 hL6 g6 K5 e6 c2 c3 e0 hW5 hks
        go_wp2_with fail
        go_roundw
        case rel => exact ⟨i + 1, by omega, by go_num, H6.out, K6⟩
        case measure => simp [intOf]; omega
    · have him2 : ¬ (i : Int) < (m : Int) := by omega
      obtain rfl : i = m := by omega
      have c4 := hD.c4
      have f4 := hD.free 4
      have h6 := hD.noPend
      have K6 := hK.trans (Kp.set wr d 4 (.slice none 0 0) (S := ownD d L K ao) (.inl rfl)) (fun _ _ q => q)
      have H6 := Lib.hid h6
      have hlt := hD.lt
      clear hD h6 hK
      go_wp2_with fail
      refine (restore_at H6.out).mono ?_
      rintro e w7 ⟨rfl, h7, g7⟩
      have H7 : Hid (DkAt w7 d L K n none 0 0 (s.crash ps)) := by
        unfold Dk.crash
        rw [HPL.out]
        exact h7
      clear h7 H6
      go_wp2_with fail
      go_end0
      exact ⟨rfl, H7.out, K6.trans (Kp.ofGrown g7 (fun z e => by cases e; exact .inl rfl)) (fun _ _ q => q)⟩
end
end Go.Proofs.Ytpfhggalbdjjmaa
