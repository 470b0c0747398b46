/-
  schema.Check, whole.
-/
import Derived.Test.YtpfhggalbdjjmaaDoorSCheck
import Derived.Deep.CutRange
namespace Go.Proofs.YtpfhggalbdjjmaaDoor
open Go.RowKit Go.ChangeMaps Go.ChangeShapes Go.WideShapes Go.WideMaps Go.MapKept

/-- A schema's variable lies in block p. -/
def ScB (w : World) (p : Nat) (l : List UInt8) (ao : Option Addr) (n c : Nat) (key : Int) (only : Bool) : Prop := w.heap[p]? = some (.cells #[.string (bsOf l), .slice ao n c, .int .i64 key, .bool only] 24 (0, 0))
/-- A column's variable lies in block p. -/
def CoB (w : World) (p : Nat) (x : Co) : Prop := w.heap[p]? = some (.cells #[.string (bsOf x.name), .int .i64 x.kind, .bool x.null] 35 (0, 0))
theorem free_on (w : World) (g b n : Nat) (T : List (List UInt8)) (l : List UInt8) (hl : l.length ≤ 1000000) (hN : NmB w g 1 0 (some b)) (hS : SetIs w b n T) :
    Calls Tryd.prog 25 #[.pointer (some ⟨g, 0, none⟩), .string (bsOf l)] w fun e w' => e = .returned (.bool (spelt l && !T.contains l)) ∧ Below w.heap.size w w' := by
  cases hsp : spelt l with
  | false =>
    refine (free_not w g l hl hsp).mono ?_
    rintro e w' ⟨rfl, rfl⟩
    exact ⟨rfl, Below.refl _ _⟩
  | true => exact free_set w g b n T l hl hN hS hsp
theorem grown_trans' {a b c : World} {g : Nat} (h : a.grownBy b none) (k : b.grownBy c (some g)) : a.grownBy c (some g) :=
  grown_trans ⟨h.os, h.tape, h.output, h.size, fun i hi _ => h.block i hi (by simp)⟩ k
set_option maxRecDepth 100000 in
set_option maxHeartbeats 1000000 in
theorem check_any (w : World) (l : List UInt8) (ao : Option Addr) (n c : Nat) (cs : List Co) (key : Int) (only : Bool) (h : IsR encCo w ao n c cs) (hl : l.length ≤ 1000000) (hcs : ∀ x ∈ cs, x.name.length ≤ 1000000) (hW : WL w) :
    Calls Tryd.prog 12 #[scV l ao n c key only] w fun e w' => e = .returned (.int .i64 (scE l cs key)) ∧ Below w.heap.size w w' := by
  have hln := h.len
  have hmx := h.max
  have hle := h.le
  unfold maxLen at hmx
  have hE : scE l cs key = if (spelt l && !wordsR.contains l) = true then (if 1 ≤ n ∧ n ≤ 6 then (if colsE wordsR cs = 0 then keyE cs key else colsE wordsR cs) else 4) else 12 := by rw [← hln]; rfl
  have hpw := hW.lt
  obtain ⟨w2, hw2⟩ : ∃ w2, (w.alloc (.cells #[.string (bsOf l), .slice ao n c, .int .i64 key, .bool only] 24)).alloc (.cells #[.int .u32 0, .int .i32 0, .int .u32 0, .map none] 68) = w2 := ⟨_, rfl⟩
  obtain ⟨g, hg⟩ : ∃ g, w.heap.size + 1 = g := ⟨_, rfl⟩
  obtain ⟨p, hp⟩ : ∃ p, w.heap.size = p := ⟨_, rfl⟩
  have hs1 : (w.alloc (.cells #[.string (bsOf l), .slice ao n c, .int .i64 key, .bool only] 24)).heap.size = g := by rw [← hg]; simp
  have X2 : ScB w2 p l ao n c key only := by
    rw [← hw2, ← hp]
    exact (Below.heap_alloc _ _ w.heap.size (by simp)).trans (heap_alloc_new w _)
  have N2 : NmB w2 g 0 0 none := by
    rw [← hw2, ← hs1]
    exact heap_alloc_new _ _
  have B2 : Below p w w2 := by
    rw [← hw2, ← hp]
    exact ((Below.refl _ _).alloc (Nat.le_refl _) _).alloc (by simp) _
  have hs2 : w2.heap.size = g + 1 := by rw [← hw2]; simp; omega
  have HW2 := Lib.hid hw2
  have hgp : g = p + 1 := by omega
  have HG := Lib.hid hg
  have HP := Lib.hid hp
  clear hw2 hg hp hs1
  have hW2 : WL w2 := hW.low B2 (by rw [← HP.out]; exact hpw)
  have hpw' : 0 < p := by rw [← HP.out]; exact hpw
  clear hW hpw
  unfold scV
  have HF := free_any w2 g g false wordsR 0 l hl ⟨N2, rfl⟩ hW2 (by omega) (Nat.le_refl _) (by omega)
  unfold FreeIs at HF
  have HGP := Lib.hid hgp
  have hpg : p < g := by omega
  have hs2' : g ≤ w2.heap.size := by omega
  clear hgp hs2 N2
  have s0 : w2.cell? ⟨p, 0, none⟩ = some (.string (bsOf l)) := cell_blk X2 rfl
  obtain ⟨fb, hfb⟩ : ∃ b, (spelt l && !wordsR.contains l) = b := ⟨_, rfl⟩
  rw [hfb] at HF hE
  cases fb with
  | false =>
    have HE := Lib.hid hE
    clear hE
    go_enter Tryd.func12, Tryd.ntmps12
    go_upto_region 2 with fail
    rw [HW2.out]
    simp only [HG.out]
    simp only [HP.out]
    go_wp2_with fail
    refine HF.mono ?_
    rintro e w3 ⟨rfl, -, b3⟩
    go_wp2_with fail
    go_ret
    rw [HP.out]
    exact ⟨by rw [HE.out]; rfl, B2.trans (b3.mono (by omega))⟩
  | true =>
    have hsp : spelt l = true := by
      cases h : spelt l with
      | true => rfl
      | false => rw [h] at hfb; cases hfb
    clear hfb
    have HSP := Lib.hid hsp
    clear hsp
    go_enter Tryd.func12, Tryd.ntmps12
    go_upto_region 2 with fail
    rw [HW2.out]
    simp only [HG.out]
    simp only [HP.out]
    go_wp2_with fail
    refine HF.mono ?_
    rintro e w3 ⟨rfl, ⟨dn, N3, hdn⟩, b3⟩
    obtain rfl := hdn HSP.out
    obtain ⟨b, k, N3, S3, hb1, hb2, hb3⟩ := N3
    have X3 : ScB w3 p l ao n c key only := (b3.block p hpg).trans X2
    have B3 : Below p w w3 := B2.trans (b3.mono (by omega))
    have hs3 := b3.size
    clear HF X2 B2 b3 hW2
    have t1 : w3.cell? ⟨p, 1, none⟩ = some (.slice ao n c) := cell_blk X3 rfl
    by_cases hn1 : n < 1
    · have hn1i : (n : Int) < 1 := by omega
      have hE' := hE.trans ((if_pos trivial).trans (if_neg (by omega)))
      have HE := Lib.hid hE'
      clear hE hE'
      go_wp2_with fail
      go_ret
      rw [HP.out]
      exact ⟨by rw [HE.out]; rfl, B3⟩
    have hn1i : ¬ ((n : Int) < 1) := by omega
    by_cases hn6 : 6 < n
    · have hn6i : (6 : Int) < (n : Int) := by omega
      have hE' := hE.trans ((if_pos trivial).trans (if_neg (by omega)))
      have HE := Lib.hid hE'
      clear hE hE'
      go_wp2_with fail
      go_ret
      rw [HP.out]
      exact ⟨by rw [HE.out]; rfl, B3⟩
    have hn6i : ¬ ((6 : Int) < (n : Int)) := by omega
    have hE' := hE.trans ((if_pos trivial).trans (if_pos (by omega)))
    have HE := Lib.hid hE'
    clear hE hE'
    have H0 := Lib.hid h
    obtain ⟨bb, off, rfl, hbb, hcell⟩ := h.open (by omega) (by decide)
    have hCELL := Lib.hid hcell
    rw [HP.out] at hbb
    clear hcell h
    go_wp2_with fail
    go_loopw [23] (fun i wr => ∃ (j : Nat) (T : List (List UInt8)) (m : Nat), j ≤ n ∧ i = .int .i64 (j : Nat) ∧ NmB wr g 1 0 (some b) ∧ SetIs wr b m T ∧ m ≤ 41 + j ∧ Below g w3 wr ∧ Hid (colsE wordsR cs = colsE T (cs.drop j))) (fun i _ => n - (intOf i).toNat)
    case atStart => exact ⟨0, wordsR, k, by omega, rfl, N3, S3, by omega, Below.refl _ _, rfl⟩
    case round =>
      clear N3 S3
      obtain ⟨j, T, m, hj, rfl, Nj, Sj, hm, hB, hcol⟩ := hrel
      have Bw : Below p w wr := B3.trans (hB.mono (by omega))
      have hsr := hB.size
      by_cases hlt : j < n
      · have hlti : (j : Int) < (n : Int) := by omega
        obtain ⟨v, hv⟩ : ∃ v, cs[j]? = some v := ⟨cs[j]'(by omega), List.getElem?_eq_getElem _⟩
        have hvl := hcs v (List.mem_of_getElem? hv)
        obtain ⟨c0, c1, c2⟩ := cells_co hCELL.out j v hv
        rw [← Bw.cell hbb] at c0 c1 c2
        have hdrop : colsE T (cs.drop j) = if colE T v = 0 then colsE (v.name :: T) (cs.drop (j + 1)) else colE T v := by
          obtain ⟨hjl, rfl⟩ := List.getElem?_eq_some_iff.1 hv
          rw [List.drop_eq_getElem_cons hjl]
          rfl
        have hcol' : Hid (colsE wordsR cs = if colE T v = 0 then colsE (v.name :: T) (cs.drop (j + 1)) else colE T v) := hcol.out.trans hdrop
        have CW : CoB (wr.alloc (.cells #[.string (bsOf v.name), .int .i64 v.kind, .bool v.null] 35)) wr.heap.size v := heap_alloc_new wr _
        have BA : Below wr.heap.size wr (wr.alloc (.cells #[.string (bsOf v.name), .int .i64 v.kind, .bool v.null] 35)) := (Below.refl _ _).alloc (Nat.le_refl _) _
        have hbr := Sj.lt
        have HF := free_on _ g b m T v.name hvl (Nj.past BA) (Sj.past BA)
        have NA := Nj.past BA
        have SA := Sj.past BA
        have BwA : Below p w (wr.alloc (.cells #[.string (bsOf v.name), .int .i64 v.kind, .bool v.null] 35)) := Bw.trans (BA.mono (by omega))
        have BgA : Below g w3 (wr.alloc (.cells #[.string (bsOf v.name), .int .i64 v.kind, .bool v.null] 35)) := hB.trans (BA.mono (by omega))
        have hsA : (wr.alloc (.cells #[.string (bsOf v.name), .int .i64 v.kind, .bool v.null] 35)).heap.size = wr.heap.size + 1 := by simp
        obtain ⟨fb, hfb⟩ : ∃ x, (spelt v.name && !T.contains v.name) = x := ⟨_, rfl⟩
        have hce : colE T v = if fb = true then (if 1 ≤ v.kind ∧ v.kind ≤ 3 then 0 else 3) else 12 := by unfold colE; rw [hfb]
        rw [hfb] at HF
        clear hfb hcol hdrop hv Nj Sj BA
        obtain ⟨vn, vk, vb⟩ := v
        simp only at c0 c1 c2 CW HF NA SA BwA BgA hsA hce hcol' hvl
        cases fb with
        | false =>
          have h12 : colsE wordsR cs = 12 := by rw [hcol'.out, hce]; rfl
          have HE12 : Hid (scE l cs key = 12) := by show _ = _; rw [HE.out, h12]; rfl
          clear h12 hce hcol'
          go_wp2_with (go_at_call 25; refine HF.mono ?_; rintro e w4 ⟨rfl, b4⟩)
          go_ret
          rw [HP.out]
          exact ⟨by rw [HE12.out]; rfl, BwA.trans (b4.mono (by omega))⟩
        | true =>
          have HK := kind_any vk
          obtain ⟨kb, hkb⟩ : ∃ x, decide (1 ≤ vk ∧ vk ≤ 3) = x := ⟨_, rfl⟩
          rw [hkb] at HK
          cases kb with
          | false =>
            have hno : ¬ (1 ≤ vk ∧ vk ≤ 3) := of_decide_eq_false hkb
            have h3 : colsE wordsR cs = 3 := by rw [hcol'.out, hce, if_pos rfl, if_neg hno]; rfl
            have HE3 : Hid (scE l cs key = 3) := by show _ = _; rw [HE.out, h3]; rfl
            clear h3 hce hcol' hno hkb
            go_wp2_with (first
              | (go_at_call 25; refine HF.mono ?_; rintro e w4 ⟨rfl, b4⟩; have C4 := (b4.block _ (by omega)).trans CW; have d0 := cell_blk (i := 0) C4 rfl; have hs4 := b4.size; have HT := take_any w4 g b m 1 0 T vn (NA.past b4) (SA.past b4) (fun e => hb2 e.symm) (by omega) (by unfold maxLen; omega))
              | (go_at_call 26; refine HT.mono ?_; rintro e w5 ⟨rfl, N5, S5, G5⟩; have C5 := (G5.block _ (by omega) (by simp; omega)).trans C4; have d1 := cell_blk (i := 1) C5 rfl)
              | (go_at_call 27; refine (HK _).mono ?_; rintro e w' ⟨rfl, rfl⟩))
            go_ret
            rw [HP.out]
            exact ⟨by rw [HE3.out]; rfl, (BwA.trans (b4.mono (by omega))).trans (grown_below G5 (by omega) (by omega))⟩
          | true =>
            have hyes : 1 ≤ vk ∧ vk ≤ 3 := of_decide_eq_true hkb
            have hnx : Hid (colsE wordsR cs = colsE (vn :: T) (cs.drop (j + 1))) := by show _ = _; rw [hcol'.out, if_pos (by rw [hce, if_pos rfl, if_pos hyes])]
            clear hce hcol' hyes hkb
            go_wp2_with (first
              | (go_at_call 25; refine HF.mono ?_; rintro e w4 ⟨rfl, b4⟩; have C4 := (b4.block _ (by omega)).trans CW; have d0 := cell_blk (i := 0) C4 rfl; have hs4 := b4.size; have HT := take_any w4 g b m 1 0 T vn (NA.past b4) (SA.past b4) (fun e => hb2 e.symm) (by omega) (by unfold maxLen; omega))
              | (go_at_call 26; refine HT.mono ?_; rintro e w5 ⟨rfl, N5, S5, G5⟩; have C5 := (G5.block _ (by omega) (by simp; omega)).trans C4; have d1 := cell_blk (i := 1) C5 rfl)
              | (go_at_call 27; refine (HK _).mono ?_; rintro e w' ⟨rfl, rfl⟩))
            go_roundw
            case rel => exact ⟨j + 1, vn :: T, m + 1, by omega, by go_num, N5, S5, by omega, (BgA.trans (b4.mono (by omega))).trans (grown_below G5 (by omega) (by omega)), hnx⟩
            case measure => simp [intOf]; omega
      · have hlti : ¬ ((j : Int) < (n : Int)) := by omega
        obtain rfl : j = n := by omega
        rw [List.drop_of_length_le (by omega)] at hcol
        have h0 : colsE wordsR cs = 0 := hcol.out
        have HE0 : Hid (scE l cs key = keyE cs key) := by show _ = _; rw [HE.out, h0]; rfl
        have XR : ScB wr p l (some ⟨bb, off, none⟩) j c key only := (hB.block p hpg).trans X3
        have y0 : wr.cell? ⟨p, 0, none⟩ = some (.string (bsOf l)) := cell_blk XR rfl
        have y1 : wr.cell? ⟨p, 1, none⟩ = some (.slice (some ⟨bb, off, none⟩) j c) := cell_blk XR rfl
        have y2 : wr.cell? ⟨p, 2, none⟩ = some (.int .i64 key) := cell_blk XR rfl
        have y3 : wr.cell? ⟨p, 3, none⟩ = some (.bool only) := cell_blk XR rfl
        have HCK := checkKey_any wr l (some ⟨bb, off, none⟩) j c cs key only (H0.out.past (by rw [HP.out]; exact Bw))
        unfold scV at HCK
        clear h0 hcol
        go_wp2_with fail
        refine HCK.mono ?_
        rintro e w6 ⟨rfl, b6⟩
        go_wp2_with fail
        go_ret
        rw [HP.out]
        exact ⟨by rw [HE0.out]; rfl, Bw.trans (b6.mono (by omega))⟩
end Go.Proofs.YtpfhggalbdjjmaaDoor
