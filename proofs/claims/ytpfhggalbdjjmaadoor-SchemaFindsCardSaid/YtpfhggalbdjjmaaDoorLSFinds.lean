/-
  schema.Find; SchemaFinds, walked.
-/
import Derived.Test.YtpfhggalbdjjmaaDoorSFew
import Derived.Test.YtpfhggalbdjjmaaDoorOpenSc
import Derived.Deep.QuietTactic
import Derived.BigQuiet
namespace Go.Proofs.YtpfhggalbdjjmaaDoor
open Go.RowKit

set_option maxRecDepth 100000 in
set_option maxHeartbeats 1000000 in
theorem find_any (w : World) (l : List UInt8) (ao : Option Addr) (n c : Nat) (cs : List Co) (key : Int) (only : Bool) (nm : List UInt8) (h : IsR encCo w ao n c cs) :
    Calls Tryd.prog 18 #[scV l ao n c key only, .string (bsOf nm)] w fun e w' => e = .returned (.tuple #[.int .i64 (findI cs nm : Nat), .bool (findB cs nm)]) ∧ Below w.heap.size w w' := by
  have hln := h.len
  have hmx := h.max
  have hle := h.le
  unfold maxLen at hmx
  unfold scV
  have X := ScB.new w l ao n c key only
  have B := (Below.refl w.heap.size w).alloc (Nat.le_refl _) (.cells #[.string (bsOf l), .slice ao n c, .int .i64 key, .bool only] 24)
  go_enter Tryd.func18, Tryd.ntmps18
  go_upto_region 1 with fail
  generalize w.alloc (.cells #[.string (bsOf l), .slice ao n c, .int .i64 key, .bool only] 24) = w1 at X B ⊢
  obtain ⟨p, hp⟩ : ∃ p, w.heap.size = p := ⟨_, rfl⟩
  rw [hp] at X B
  simp only [hp]
  have HP := Lib.hid hp
  clear hp
  have y1 : w1.cell? ⟨p, 1, none⟩ = some (.slice ao n c) := cell_blk X rfl
  have hp1 := B.size
  go_wp2_with fail
  go_loopw [11] (fun i wr => ∃ j : Nat, j ≤ n ∧ i = .int .i64 (j : Nat) ∧ Below p w wr ∧ Hid (findN (cs.map Co.name) nm = (findN ((cs.drop j).map Co.name) nm).map (· + j))) (fun i _ => n - (intOf i).toNat)
  case atStart => exact ⟨0, by omega, rfl, B, by show _ = _; simp⟩
  case round =>
    obtain ⟨j, hj, rfl, hB, hfn⟩ := hrel
    have hs := hB.size
    by_cases hlt : j < n
    · have hlti : (j : Int) < (n : Int) := by omega
      obtain ⟨v, hv⟩ : ∃ v, cs[j]? = some v := ⟨cs[j]'(by omega), List.getElem?_eq_getElem _⟩
      obtain ⟨b, off, rfl, hb, hc⟩ := h.open (by omega) (by decide)
      rw [HP.out] at hb
      obtain ⟨c0, c1, c2⟩ := cells_co hc j v hv
      rw [← hB.cell hb] at c0 c1 c2
      have hdrop : findN ((cs.drop j).map Co.name) nm = if v.name = nm then some 0 else (findN ((cs.drop (j + 1)).map Co.name) nm).map (· + 1) := by
        obtain ⟨hjl, rfl⟩ := List.getElem?_eq_some_iff.1 hv
        rw [List.drop_eq_getElem_cons hjl]
        rfl
      have hfn' : Hid (findN (cs.map Co.name) nm = (if v.name = nm then some 0 else (findN ((cs.drop (j + 1)).map Co.name) nm).map (· + 1)).map (· + j)) := by
        show _ = _
        rw [hfn.out, hdrop]
      have BA := hB.alloc (by rw [← HP.out]; exact hs) (.cells #[.string (bsOf v.name), .int .i64 v.kind, .bool v.null] 35)
      clear hdrop hfn hc hv
      obtain ⟨vn, vk, vb⟩ := v
      simp only at c0 c1 c2 hfn' BA
      by_cases he : vn = nm
      · have hi : findI cs nm = j ∧ findB cs nm = true := by
          unfold findI findB
          rw [hfn'.out, if_pos he]
          simp
        have hq : ((bsOf vn).toList == (bsOf nm).toList) = true := by rw [he]; exact beq_self_eq_true _
        have HI := Lib.hid hi
        clear hi hfn' he
        go_wp2_with fail
        go_ret2
        rw [HP.out]
        exact ⟨by rw [HI.out.1, HI.out.2]; rfl, BA⟩
      · have hq : ((bsOf vn).toList == (bsOf nm).toList) = false := by
          rw [ByteArray.toList_eq, ByteArray.toList_eq, bsOf_toList, bsOf_toList, beq_eq_false_iff_ne]
          exact he
        have hnx : Hid (findN (cs.map Co.name) nm = (findN ((cs.drop (j + 1)).map Co.name) nm).map (· + (j + 1))) := by
          show _ = _
          rw [hfn'.out, if_neg he, Option.map_map]
          congr 1
          funext x
          simp
          omega
        clear hfn' he
        go_wp2_with fail
        go_roundw
        case rel => exact ⟨j + 1, by omega, by go_num, BA, hnx⟩
        case measure => simp [intOf]; omega
    · have hlti : ¬ ((j : Int) < (n : Int)) := by omega
      obtain rfl : j = n := by omega
      have hi : findI cs nm = 0 ∧ findB cs nm = false := by
        unfold findI findB
        rw [hfn.out, List.drop_of_length_le (by omega)]
        simp [findN]
      have HI := Lib.hid hi
      clear hi
      go_wp2_with fail
      go_ret2
      rw [HP.out]
      exact ⟨by rw [HI.out.1, HI.out.2]; rfl, hB⟩
theorem gAt_name (cs : List Co) (i : Nat) : (gAt cs i).name = [UInt8.ofNat (97 + i)] := by
  unfold gAt
  split <;> rfl
theorem gFin_names (cs : List Co) (key : Int) : (gFin cs key).map Co.name = (List.range (gN cs)).map fun i => [UInt8.ofNat (97 + i)] := by
  have hk := (gKey_lt cs key).1
  apply List.ext_getElem?
  intro j
  unfold gFin gCols
  rw [List.getElem?_map, List.getElem?_set, List.getElem?_map, List.getElem?_map]
  by_cases e : gKey cs key = j
  · subst e
    rw [if_pos rfl, if_pos (by simpa using hk), List.getElem?_range hk]
    show some (noNull (gAt cs (gKey cs key))).name = _
    rw [show (noNull (gAt cs (gKey cs key))).name = (gAt cs (gKey cs key)).name from rfl, gAt_name]
    rfl
  · rw [if_neg e]
    by_cases hj : j < gN cs
    · rw [List.getElem?_range hj]
      show some (gAt cs j).name = _
      rw [gAt_name]
      rfl
    · rw [List.getElem?_eq_none (by simp; omega)]
      rfl
theorem find_names : ∀ N, N ≤ 6 → ∀ k, k < N → findN ((List.range N).map fun i => [UInt8.ofNat (97 + i)]) [UInt8.ofNat (97 + k)] = some k := by decide +kernel
theorem find_zz : ∀ N, N ≤ 6 → findN ((List.range N).map fun i => [UInt8.ofNat (97 + i)]) [122, 122] = none := by decide +kernel
theorem gFin_at (cs : List Co) (key : Int) (k : Nat) (hk : k < gN cs) : ∃ x, (gFin cs key)[k]? = some x ∧ x.name = [UInt8.ofNat (97 + k)] ∧ findI (gFin cs key) x.name = k ∧ findB (gFin cs key) x.name = true := by
  have hn := gFin_names cs key
  have hl := gFin_len cs key
  have hN := gN_pos cs
  refine ⟨(gFin cs key)[k]'(by omega), List.getElem?_eq_getElem _, ?_, ?_⟩
  · have := congrArg (fun l => l[k]?) hn
    simp only [List.getElem?_map] at this
    rw [List.getElem?_eq_getElem (show k < (gFin cs key).length by omega), List.getElem?_range hk] at this
    exact Option.some.inj this
  · have hname : ((gFin cs key)[k]'(by omega)).name = [UInt8.ofNat (97 + k)] := by
      have := congrArg (fun l => l[k]?) hn
      simp only [List.getElem?_map] at this
      rw [List.getElem?_eq_getElem (show k < (gFin cs key).length by omega), List.getElem?_range hk] at this
      exact Option.some.inj this
    unfold findI findB
    rw [hname, hn, find_names _ hN.2 k hk]
    exact ⟨rfl, rfl⟩
theorem gFin_zz (cs : List Co) (key : Int) : findI (gFin cs key) [122, 122] = 0 ∧ findB (gFin cs key) [122, 122] = false := by
  unfold findI findB
  rw [gFin_names, find_zz _ (gN_pos cs).2]
  exact ⟨rfl, rfl⟩
set_option maxRecDepth 100000 in
set_option maxHeartbeats 2000000 in
theorem schemaFinds_walk (l : List UInt8) (ao : Option Addr) (n c : Nat) (key : Int) (only : Bool) (cs : List Co) (nn k : Int) (w : World) (hW : WL w) (_hl : l.length ≤ maxLen) (_hkey : (Lit.int .i64 key).wf = true) (h : IsR encCo w ao n c cs) (_hcs : ∀ x ∈ cs, (Lit.int .i64 x.kind).wf = true ∧ x.name.length ≤ maxLen) (_hn : (Lit.int .i64 nn).wf = true) (_hk : (Lit.int .i64 k).wf = true) :
    Calls Tryd.prog 8 #[scV l ao n c key only, .int .i64 nn, .int .i64 k] w (Told w true) := by
  have hln := h.len
  unfold scV
  have X := ScB.new w l ao n c key only
  have B := (Below.refl w.heap.size w).alloc (Nat.le_refl _) (.cells #[.string (bsOf l), .slice ao n c, .int .i64 key, .bool only] 24)
  go_enter Tryd.func8, Tryd.ntmps8
  go_upto_region 1 with fail
  generalize w.alloc (.cells #[.string (bsOf l), .slice ao n c, .int .i64 key, .bool only] 24) = w1 at X B ⊢
  obtain ⟨p, hp⟩ : ∃ p, w.heap.size = p := ⟨_, rfl⟩
  have hW1 := hW.past B
  have h1 := h.past B
  rw [hp] at X B
  simp only [hp]
  have HP := Lib.hid hp
  clear hp hW h
  go_wp2_with fail
  refine (known9 w1 hW1).mono ?_
  rintro e w2 ⟨rfl, b2⟩
  have X2 := X.past b2
  have B2 : Below p w w2 := B.trans (b2.mono (by have := B.size; rw [HP.out] at this; exact this))
  have h2 := h1.past b2
  have W2 := hW1.past b2
  have y0 : w2.cell? ⟨p, 0, none⟩ = some (.string (bsOf l)) := cell_blk X2 rfl
  have y1 : w2.cell? ⟨p, 1, none⟩ = some (.slice ao n c) := cell_blk X2 rfl
  have y2 : w2.cell? ⟨p, 2, none⟩ = some (.int .i64 key) := cell_blk X2 rfl
  have y3 : w2.cell? ⟨p, 3, none⟩ = some (.bool only) := cell_blk X2 rfl
  have HF := few9_any w2 l ao n c cs key only h2
  unfold scV at HF
  clear X B b2 h1 hW1
  obtain ⟨f, hf⟩ : ∃ f, fewS l cs = f := ⟨_, rfl⟩
  rw [hf] at HF
  cases f with
  | false =>
    clear hf
    go_wp2_with fail
    refine HF.mono ?_
    rintro e w3 ⟨rfl, b3⟩
    go_wp2_with fail
    go_ret
    rw [Told, HP.out]
    exact ⟨rfl, B2.trans (b3.mono (by have := B2.size; rw [HP.out] at this; exact this))⟩
  | true =>
    have hn9 : n ≤ 9 := by
      unfold fewS at hf
      simp at hf
      omega
    clear hf
    go_wp2_with fail
    refine HF.mono ?_
    rintro e w3 ⟨rfl, b3⟩
    have X3 := X2.past b3
    have B3 : Below p w w3 := B2.trans (b3.mono (by have := B2.size; rw [HP.out] at this; exact this))
    have h3 := h2.past b3
    have HG := good9_any w3 l ao n c cs key nn only h3 (by omega)
    unfold GoodIs scV at HG
    have z0 : w3.cell? ⟨p, 0, none⟩ = some (.string (bsOf l)) := cell_blk X3 rfl
    have z1 : w3.cell? ⟨p, 1, none⟩ = some (.slice ao n c) := cell_blk X3 rfl
    have z2 : w3.cell? ⟨p, 2, none⟩ = some (.int .i64 key) := cell_blk X3 rfl
    have z3 : w3.cell? ⟨p, 3, none⟩ = some (.bool only) := cell_blk X3 rfl
    clear X2 B2 h2 W2 b3 y0 y1 y2 y3 HF
    go_wp2_with fail
    refine HG.mono ?_
    rintro e w4 ⟨g, c4, rfl, O4, b4, q4⟩
    have B4 : Below p w w4 := B3.trans (b4.mono (by have := B3.size; rw [HP.out] at this; exact this))
    have hp4 : p ≤ w4.heap.size := by have := B4.size; rw [HP.out] at this; exact this
    have hNp := gN_pos cs
    have hat := gFin_at cs key
    have hzz := gFin_zz cs key
    have hKp := (gKey_lt cs key).1
    generalize gFin cs key = F at O4 hat hzz
    generalize gN cs = N at O4 hNp hat hKp ⊢
    generalize gKey cs key = K at hKp ⊢
    generalize gNm nn = NM at ⊢
    obtain ⟨kk, hkk⟩ : ∃ kk : Nat, wth k (N : Nat) = (kk : Int) := ⟨(wth k (N : Nat)).toNat, by have := wth_lo k (N : Nat) (by omega); omega⟩
    have hkN : kk < N := by have := wth_hi k (N : Nat) (by omega); omega
    have HWk : ∀ w, Calls Tryd.prog 17 #[.int .i64 k, .int .i64 (N : Nat)] w fun e w' => e = .returned (.int .i64 (kk : Nat)) ∧ w = w' := fun w => by
      have := within9_any k (N : Nat) w (by omega) (by omega)
      rw [hkk] at this
      exact this
    have hki : (kk : Int) < (N : Int) := by omega
    obtain ⟨x, hx, hxn, hfi, hfb⟩ := hat kk hkN
    have X5 := ScB.new w4 NM (some ⟨g, 0, none⟩) N c4 (K : Nat) only
    have B5 := (Below.refl w4.heap.size w4).alloc (Nat.le_refl _) (.cells #[.string (bsOf NM), .slice (some ⟨g, 0, none⟩) N c4, .int .i64 (K : Nat), .bool only] 24)
    go_upto_region 6 with fail
    generalize w4.alloc (.cells #[.string (bsOf NM), .slice (some ⟨g, 0, none⟩) N c4, .int .i64 (K : Nat), .bool only] 24) = w5 at X5 B5 ⊢
    obtain ⟨pg, hpg⟩ : ∃ pg, w4.heap.size = pg := ⟨_, rfl⟩
    rw [hpg] at X5
    simp only [hpg]
    have O5 := O4.past B5
    have B05 : Below p w w5 := B4.trans (B5.mono hp4)
    have hp5 : p ≤ w5.heap.size := by have := B05.size; rw [HP.out] at this; exact this
    clear hpg O4 B4 B5 X3 B3 h3 b4 z0 z1 z2 z3 HG hat hkk
    have g0 : w5.cell? ⟨pg, 0, none⟩ = some (.string (bsOf NM)) := cell_blk X5 rfl
    have g1 : w5.cell? ⟨pg, 1, none⟩ = some (.slice (some ⟨g, 0, none⟩) N c4) := cell_blk X5 rfl
    have g2 : w5.cell? ⟨pg, 2, none⟩ = some (.int .i64 (K : Nat)) := cell_blk X5 rfl
    have g3 : w5.cell? ⟨pg, 3, none⟩ = some (.bool only) := cell_blk X5 rfl
    obtain ⟨x0, -, -⟩ := O5.cell3 kk x hx
    have HF1 : ∀ w, OwnR encCo w 35 g N c4 F → Calls Tryd.prog 18 #[.agg #[.string (bsOf NM), .slice (some ⟨g, 0, none⟩) N c4, .int .i64 (K : Nat), .bool only], .string (bsOf x.name)] w fun e w' => e = .returned (.tuple #[.int .i64 (kk : Nat), .bool true]) ∧ Below w.heap.size w w' := fun w O => by
      have := find_any w NM (some ⟨g, 0, none⟩) N c4 F (K : Nat) only x.name O.isR
      rw [hfi, hfb] at this
      exact this
    have HF2 : ∀ w, OwnR encCo w 35 g N c4 F → Calls Tryd.prog 18 #[.agg #[.string (bsOf NM), .slice (some ⟨g, 0, none⟩) N c4, .int .i64 (K : Nat), .bool only], .string { data := #[122, 122] }] w fun e w' => e = .returned (.tuple #[.int .i64 0, .bool false]) ∧ Below w.heap.size w w' := fun w O => by
      have := find_any w NM (some ⟨g, 0, none⟩) N c4 F (K : Nat) only [122, 122] O.isR
      rw [hzz.1, hzz.2] at this
      exact this
    clear hzz hfi hfb hxn hx
    go_wp2_with (go_at_call 17; refine (HWk _).mono ?_; rintro e w' ⟨rfl, rfl⟩)
    go_region_with (go_at_call 18; refine (HF1 _ O5.drew).mono ?_; rintro e w6 ⟨rfl, b6⟩; have X6 := (X5.past (Below.refl _ _).drew).past b6; have q0 : w6.cell? ⟨pg, 0, none⟩ = some (.string (bsOf NM)) := cell_blk X6 rfl; have q1 : w6.cell? ⟨pg, 1, none⟩ = some (.slice (some ⟨g, 0, none⟩) N c4) := cell_blk X6 rfl; have q2 : w6.cell? ⟨pg, 2, none⟩ = some (.int .i64 (K : Nat)) := cell_blk X6 rfl; have q3 : w6.cell? ⟨pg, 3, none⟩ = some (.bool only) := cell_blk X6 rfl)
    all_goals
      have O6 := O5.drew.past b6
      have B06 : Below p w w6 := B05.drew.trans (b6.mono hp5)
      have HF6 := HF2 w6 O6
      clear X5 O5 B05 g0 g1 g2 g3 x0 HF1 HF2 b6
      go_wp2_with fail
      refine HF6.mono ?_
      rintro e w7 ⟨rfl, b7⟩
      go_wp2_with fail
      go_ret
      rw [Told, HP.out]
      exact ⟨rfl, B06.trans (b7.mono (by have := B06.size; rw [HP.out] at this; exact this))⟩
end Go.Proofs.YtpfhggalbdjjmaaDoor
