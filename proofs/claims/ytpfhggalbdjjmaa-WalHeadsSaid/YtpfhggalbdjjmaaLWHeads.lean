/-
  WalHeads, walked.
-/
import Derived.Test.YtpfhggalbdjjmaaRows8
import Derived.Test.YtpfhggalbdjjmaaOpenP
import Derived.Deep.CutRange
namespace Go.Proofs.Ytpfhggalbdjjmaa
open Go.RowKit

theorem take_snoc (ps : List (List UInt8)) (j : Nat) (h : j < ps.length) : ps.take j ++ [ps.getD j []] = ps.take (j + 1) := by
  rw [List.take_add_one, List.getElem?_eq_getElem h]
  simp [List.getD, h]
theorem take_len (ps : List (List UInt8)) (j : Nat) (h : j ≤ ps.length) : (ps.take j).length = j := by rw [List.length_take]; omega
theorem encR'_upto (k : Nat) : ∀ ps : List (List UInt8), (∀ p ∈ ps, p.length ≤ k) → (encR' ps).length ≤ (k + 8) * ps.length
  | [], _ => by simp [encR']
  | p :: ps, h => by
    have h1 := encR'_upto k ps fun q hq => h q (by simp [hq])
    have h2 := h p (by simp)
    rw [encR'_cons, List.length_append, le_length, List.length_append, List.length_cons, Nat.mul_succ]
    omega
/-- Records, and behind them what is none. -/
theorem split_bad : ∀ (ps : List (List UInt8)) (t : List UInt8), (∀ p ∈ ps, p.length ≤ 1000000) → t ≠ [] → ¬ cutOK t → splitB (encR' ps ++ t) = (ps, false)
  | [], t, _, h0, hc => splitB_no t h0 hc
  | p :: ps, t, h, h0, hc => by
    obtain ⟨h1, h2, h3⟩ := cut_enc p (encR' ps ++ t) (h p (by simp))
    have ih := split_bad ps t (fun q hq => h q (by simp [hq])) h0 hc
    rw [encR'_cons, List.append_assoc, List.append_assoc, splitB_yes _ h1, h2, h3, ih]
theorem cut_short (p : List UInt8) (hp : p.length ≤ 1000000) : ¬ cutOK ((le 8 p.length ++ p).take (8 + p.length - 1)) := by
  rintro ⟨h1, h2⟩
  rw [List.length_take, List.length_append, le_length] at h1 h2
  have e : cutM ((le 8 p.length ++ p).take (8 + p.length - 1)) = p.length := by
    unfold cutM
    rw [List.take_take, Nat.min_eq_left (by omega), List.take_left' (le_length 8 _)]
    exact num_le8 _ (by omega)
  rw [e] at h2
  omega
theorem cut_few (t : List UInt8) (h : t.length < 8) : ¬ cutOK t := fun h1 => by have := h1.1; omega
/-- The head that is written over. -/
def hdB (z k : Nat) : List UInt8 := [UInt8.ofNat (z % 256), UInt8.ofNat (z / 256 % 256), 0, 0, 0, 0, 0, 0, UInt8.ofNat (k % 256), 0, 0, 0, 0, 0, 0, 0]
theorem num_hdB (z k : Nat) (hz : z < 65536) (hk : k < 256) : num ((hdB z k).take 8) = z ∧ num (((hdB z k).drop 8).take 8) = k := by
  have e1 : (UInt8.ofNat (z % 256)).toNat = z % 256 := by rw [UInt8.toNat_ofNat']; omega
  have e2 : (UInt8.ofNat (z / 256 % 256)).toNat = z / 256 % 256 := by rw [UInt8.toNat_ofNat']; omega
  have e3 : (UInt8.ofNat (k % 256)).toNat = k % 256 := by rw [UInt8.toNat_ofNat']; omega
  refine ⟨?_, ?_⟩
  · show num [UInt8.ofNat (z % 256), UInt8.ofNat (z / 256 % 256), 0, 0, 0, 0, 0, 0] = z
    simp [num, e1, e2]
    omega
  · show num [UInt8.ofNat (k % 256), 0, 0, 0, 0, 0, 0, 0] = k
    simp [num, e3]
    omega
section
variable {n : Nat} {s : Dk} {ps : List (List UInt8)}
theorem heads_pg (s : Dk) (hn : 0 < s.last.length) (z k : Nat) : (s.tamper 0 0 (hdB z k)).pg 0 = hdB z k ++ (s.pg 0).drop 16 ∧ ∀ q, 1 ≤ q → (s.tamper 0 0 (hdB z k)).pg q = s.pg q := by
  refine ⟨?_, fun q hq => ?_⟩
  · show pad ((s.last.set 0 (mix (s.last.getD 0 []) 0 (hdB z k))).getD 0 []) = _
    rw [set_get _ _ _ hn, pad_of (mix_length (show 0 + 16 ≤ 64 by omega))]
    show (pad (s.last.getD 0 [])).take 0 ++ hdB z k ++ (pad (s.last.getD 0 [])).drop (0 + 16) = _
    rw [List.take_zero, List.nil_append, Nat.zero_add]
    rfl
  · show pad ((s.last.set 0 _).getD q []) = _
    simp only [List.getD_eq_getElem?_getD]
    rw [List.getElem?_set_ne (by omega)]
    rfl
/-- WHAT IS TOLD OF A DISK WHOSE HEAD WAS WRITTEN OVER. -/
theorem heads_rd (h : Holds n s ps) (hn2 : 2 ≤ n) (z k : Nat) (hz : z < 65536) (hk : k < 256) (hroom : (encR' ps).length + 1 ≤ 64 * (n - 1)) (hzz : (encR' ps).length ≤ z + 1 ∧ z ≤ (encR' ps).length + 1) (hps : z + 1 = (encR' ps).length → ps ≠ []) (hlen : ∀ p ∈ ps, p.length ≤ 1000000) :
    recL n (s.tamper 0 0 (hdB z k)) = (if z < (encR' ps).length then ps.take (ps.length - 1) else ps) ∧ (rdOK n (s.tamper 0 0 (hdB z k)) ↔ z = (encR' ps).length ∧ k = ps.length) := by
  have hl0 : 0 < s.last.length := by rw [h.pages]; omega
  obtain ⟨hp0, hpq⟩ := heads_pg s hl0 z k
  obtain ⟨n1, n2⟩ := num_hdB z k hz hk
  have e1 : hdN (s.tamper 0 0 (hdB z k)) = z := by
    unfold hdN
    rw [hp0, List.take_append_of_le_length (by show 8 ≤ 16; omega), n1]
  have e2 : hdC (s.tamper 0 0 (hdB z k)) = k := by
    unfold hdC
    rw [hp0, List.drop_append_of_le_length (by show 8 ≤ 16; omega), List.take_append_of_le_length (by show 8 ≤ 8; omega), n2]
  have e3 : rowN n (s.tamper 0 0 (hdB z k)) = (pgs s (n - 1)).take z := by
    unfold rowN
    rw [e1, if_pos (by omega), pgs_same s _ (n - 1) fun q a _ => hpq q a]
  have hrow := h.row
  have hcase : splitB ((pgs s (n - 1)).take z) = (if z < (encR' ps).length then ps.take (ps.length - 1) else ps, decide (z = (encR' ps).length)) := by
    rcases Nat.lt_trichotomy z (encR' ps).length with hlt | heq | hgt
    · rw [if_pos hlt, decide_eq_false (by omega)]
      have hne := hps (by omega)
      obtain ⟨p, hp⟩ : ∃ p, ps.getLast hne = p := ⟨_, rfl⟩
      have hmem : p ∈ ps := by rw [← hp]; exact List.getLast_mem hne
      have hsplit : ps = ps.take (ps.length - 1) ++ [p] := by
        rw [← List.dropLast_eq_take, ← hp]
        exact (List.dropLast_concat_getLast hne).symm
      generalize hq : ps.take (ps.length - 1) = qs at hsplit
      have henc : encR' ps = encR' qs ++ (le 8 p.length ++ p) := by rw [hsplit, encR'_append, encR'_cons, encR'_nil, List.append_nil]
      have hll : (encR' ps).length = (encR' qs).length + (8 + p.length) := by rw [henc, List.length_append, List.length_append, le_length]
      have e : (pgs s (n - 1)).take z = encR' qs ++ (le 8 p.length ++ p).take (8 + p.length - 1) := by
        have : (pgs s (n - 1)).take z = (encR' ps).take z := by rw [← hrow, List.take_take, Nat.min_eq_left (by omega)]
        rw [this, henc, List.take_append, List.take_of_length_le (by omega)]
        congr 2
        omega
      rw [e]
      refine split_bad qs _ (fun q hq => hlen q (by rw [hsplit]; simp [hq])) ?_ (cut_short p (hlen p hmem))
      intro hnil
      have := congrArg List.length hnil
      rw [List.length_take, List.length_append, le_length] at this
      simp at this
    · rw [if_neg (by omega), decide_eq_true heq, heq, hrow]
      exact split_enc ps hlen
    · rw [if_neg (by omega), decide_eq_false (by omega)]
      have e : (pgs s (n - 1)).take z = encR' ps ++ ((pgs s (n - 1)).drop (encR' ps).length).take 1 := by
        rw [show z = (encR' ps).length + 1 by omega, List.take_add, hrow]
      have hl1 : (((pgs s (n - 1)).drop (encR' ps).length).take 1).length = 1 := by rw [List.length_take, List.length_drop, pgs_length]; omega
      rw [e]
      refine split_bad ps _ hlen ?_ (cut_few _ (by rw [hl1]; omega))
      intro hnil
      rw [hnil] at hl1
      cases hl1
  have e4 : recL n (s.tamper 0 0 (hdB z k)) = (if z < (encR' ps).length then ps.take (ps.length - 1) else ps) := by
    unfold recL
    rw [e3, hcase]
  refine ⟨e4, ?_⟩
  unfold rdOK
  rw [e4, e1, e2, e3, hcase]
  constructor
  · rintro ⟨_, a, b⟩
    have hz := of_decide_eq_true a
    rw [if_neg (by omega)] at b
    exact ⟨hz, b.symm⟩
  · rintro ⟨a, b⟩
    refine ⟨by rw [a]; exact h.size, decide_eq_true a, ?_⟩
    rw [if_neg (by omega), b]
end

/-- The head's bytes laid into new bytes, and written over. -/
theorem tamper_hd {d n : Nat} {S : Nat → Prop} {s : Dk} (w3 : World) (gz : Nat) (o3 : OwnB w3 5 gz 16 16 (List.replicate 16 0)) (D3 : IsD w3 d n S s) (hS : ¬ S gz) (hD0 : 0 < n) (x0 x1 x8 : Int) (z k : Nat) (h0 : x0 = ((z % 256 : Nat) : Int)) (h1 : x1 = ((z / 256 % 256 : Nat) : Int)) (h8 : x8 = ((k % 256 : Nat) : Int)) :
    Calls Try.prog 21 #[.pointer (some ⟨d, 0, none⟩), .int .i64 0, .int .i64 0, .slice (some ⟨gz, 0, none⟩) 16 16]
      (((w3.setCell ⟨gz, 0, none⟩ (.int .u8 x0)).setCell ⟨gz, 1, none⟩ (.int .u8 x1)).setCell ⟨gz, 8, none⟩ (.int .u8 x8)) fun e w' => ∃ S', e = .returned (.bool true) ∧ IsD w' d n S' (s.tamper 0 0 (hdB z k)) ∧ Kp w3 w' (fun q => S q ∨ q = gz) ∧ Ext w3 S S' := by
  have b0 : Value.int .u8 x0 = bc (UInt8.ofNat (z % 256)) := by rw [h0, show ((z % 256 : Nat) : Int) = ((z : Nat) : Int) % 256 by omega]; exact bc_mod z
  have b1 : Value.int .u8 x1 = bc (UInt8.ofNat (z / 256 % 256)) := by rw [h1, show ((z / 256 % 256 : Nat) : Int) = (((z / 256) : Nat) : Int) % 256 by omega]; exact bc_mod (z / 256)
  have b8 : Value.int .u8 x8 = bc (UInt8.ofNat (k % 256)) := by rw [h8, show ((k % 256 : Nat) : Int) = ((k : Nat) : Int) % 256 by omega]; exact bc_mod k
  rw [b0, b1, b8]
  have o4 : OwnB _ _ gz 16 16 (hdB z k) := ((o3.set 0 (UInt8.ofNat (z % 256))).set 1 (UInt8.ofNat (z / 256 % 256))).set 8 (UInt8.ofNat (k % 256))
  have kk := ((Kp.set w3 gz 0 (bc (UInt8.ofNat (z % 256))) (S := fun q => q = gz) rfl).trans (Kp.set _ gz 1 (bc (UInt8.ofNat (z / 256 % 256))) (S := fun q => q = gz) rfl) (fun _ _ q => q)).trans (Kp.set _ gz 8 (bc (UInt8.ofNat (k % 256))) (S := fun q => q = gz) rfl) (fun _ _ q => q)
  have D4 := D3.kp kk (fun q hq e => hS (by rw [← e]; exact hq))
  refine (tamper_is D4 0 0 hD0 _ _ _ (hdB z k) o4.isB (fun a ha q => by cases ha; exact hS q) (by omega) (by omega)).mono ?_
  rintro e w' ⟨S', rfl, D5, k5, e5⟩
  refine ⟨S', rfl, D5, (kk.mono (T := fun q => S q ∨ q = gz) fun q _ h => .inr h).trans k5 (fun q _ h => .inl h), fun q hq => ?_⟩
  rcases e5 q hq with h | h
  · exact .inl h
  · right
    have := kk.size
    simp only [World.size_setCell] at h
    exact h
set_option maxRecDepth 100000 in
set_option maxHeartbeats 20000000 in
theorem walHeads_walk (ao : Option Addr) (m c : Nat) (ps : List (List UInt8)) (n k : Int) (w : World) (hI : IsP w ao m ps) (_hn : (Lit.int .i64 n).wf = true) (_hk : (Lit.int .i64 k).wf = true) :
    Calls Try.prog 6 #[.slice ao m c, .int .i64 n, .int .i64 k] w (Told w true) := by
  have hpl := hI.len
  have hq3 : wth n 3 = 0 ∨ wth n 3 = 1 ∨ wth n 3 = 2 := by have := wth_lo n 3 (by omega); have := wth_hi n 3 (by omega); omega
  have hr3 : wth k 3 = 0 ∨ wth k 3 = 1 ∨ wth k 3 = 2 := by have := wth_lo k 3 (by omega); have := wth_hi k 3 (by omega); omega
  go_enter Try.func6, Try.ntmps6
  go_wp2_with fail
  refine (known8 w).mono ?_
  rintro e w0 ⟨rfl, b0⟩
  go_wp2_with fail
  refine (new_is 20 w0 (by omega) (by omega)).mono ?_
  rintro e w1 ⟨d, S, rfl, D1, b1, q1⟩
  have HO := open_holds D1 (by omega) (holds_new 20)
  go_wp2_with fail
  refine HO.mono ?_
  rintro e w2 ⟨g, ro, rn, rc, rfl, L2, P2, b2, q2⟩
  have D2 := D1.past b2
  have hgS : ¬ S g := fun q => by have := D1.lt _ q; omega
  have hw0 := b0.size
  have hw1 := Nat.le_trans b0.size b1.size
  have B2 := b0.trans (b1.mono b0.size) |>.trans (b2.mono (Nat.le_trans b0.size b1.size))
  have hwS : ∀ q, S q → w.heap.size ≤ q := fun q h => Nat.le_trans hw0 (q1 q h)
  have hgw : w.heap.size ≤ g := Nat.le_trans hw1 q2
  clear P2 HO D1 b0 b1 b2
  go_wp2_with fail
  go_loopw [12, 13] (fun z i wr => ∃ (j : Nat) (S' : Nat → Prop) (s : Dk), j ≤ m ∧ j ≤ 6 ∧ (∀ p ∈ ps.take j, p.length ≤ 60) ∧ i = .int .i64 (j : Nat) ∧ z = .int .i64 ((encR' (ps.take j)).length : Nat) ∧
    IsD wr d 20 S' s ∧ Holds 20 s (ps.take j) ∧ LogAt wr g d (roomN 20) ((encR' (ps.take j)).length : Nat) ((ps.take j).length : Nat) ∧ s.left ≤ 0 ∧ -1100 * (j : Int) ≤ s.left ∧ s.pend = [] ∧ Below w.heap.size w wr ∧ (∀ q, S' q → w.heap.size ≤ q) ∧ ¬ S' g) (fun _ i _ => 6 - (intOf i).toNat)
  case atStart => exact ⟨0, S, newD 20, by omega, by omega, by simp, rfl, rfl, D2, holds_new 20, L2, by simp [newD], by simp [newD], rfl, B2, hwS, hgS⟩
  case round =>
    obtain ⟨j, S', s, hjm, hj6, hsm, rfl, rfl, D, H, L, hl, hlo, hpd, hB, hS', hg'⟩ := hrel
    clear D2 L2
    have hup := encR'_upto 60 _ hsm
    rw [take_len ps j (by omega)] at hup
    by_cases hlt : j < m ∧ j < 6
    · obtain ⟨h1, h2⟩ := hlt
      have h1i : (j : Int) < (m : Int) := by omega
      have h2i : (j : Int) < 6 := by omega
      obtain ⟨b, off, rfl, hat⟩ := hI.open (by omega)
      obtain ⟨bo, bn, bc, hcj, hbj⟩ := hat j h1
      have hcw : wr.cell? ⟨b, off + j, none⟩ = some (.slice bo bn bc) := by rw [hB.cell (World.block_lt_of_cell? w _ hcj)]; exact hcj
      have hbw := hbj.past hB
      have hbl := hbj.len
      have hblk := World.block_lt_of_cell? w _ hcj
      clear hat
      by_cases h60 : 60 < bn
      · have h60i : (60 : Int) < (bn : Int) := by omega
        go_wp2_with fail
        go_ret
        exact ⟨rfl, hB⟩
      · have h60i : ¬ ((60 : Int) < (bn : Int)) := by omega
        have hsn := take_snoc ps j (by omega)
        have HA := append_holds L hbw (by omega) (by omega) D (by omega) hg' H ⟨hl, by omega⟩ (by rw [hpd]; exact Nat.zero_le _)
        rw [hsn] at HA
        have hlen : (encR' (ps.take (j + 1))).length = (encR' (ps.take j)).length + (8 + bn) := by
          rw [← hsn, encR'_append, List.length_append, encR'_cons, encR'_nil, List.length_append, le_length, List.append_nil, hbl]
        have hsm' : ∀ p ∈ ps.take (j + 1), p.length ≤ 60 := by
          rw [← hsn]
          intro p hp
          rcases List.mem_append.1 hp with h | h
          · exact hsm p h
          · rw [List.mem_singleton.1 h]; omega
        have HSM := Lib.hid hsm'
        have HLEN := Lib.hid hlen
        clear hsn hsm' hlen
        obtain ⟨E, hE⟩ : ∃ E, (encR' (ps.take j)).length = E := ⟨_, rfl⟩
        rw [hE] at hup ⊢
        have HE := Lib.hid hE
        clear hE
        go_wp2_with fail
        refine HA.mono ?_
        rintro e w4 ⟨S4, s4, rfl, D4, k4, e4, L4, H4, hl4, hlo4, hpd4⟩
        have b4 : Below w.heap.size w w4 := hB.trans (k4.below hB.size (fun q h => by
          rcases h with h | h
          · exact hS' q h
          · subst h
            exact hgw))
        have hS4 : ∀ q, S4 q → w.heap.size ≤ q := fun q h => by
          rcases e4 q h with h | h
          · exact hS' q h
          · exact Nat.le_trans hB.size h
        have hg4 : ¬ S4 g := fun h => by
          rcases e4 g h with h | h
          · exact hg' h
          · have := L.lt; omega
        have hcw4 : w4.cell? ⟨b, off + j, none⟩ = some (.slice bo bn bc) := by rw [b4.cell hblk]; exact hcj
        clear D L H HA hcw hbw k4 e4
        go_wp2_with fail
        go_roundw
        case rel => exact ⟨j + 1, S4, s4, by omega, by omega, HSM.out, by go_num, by rw [HLEN.out, HE.out]; go_num, D4, H4, L4, hl4, by omega, hpd4, b4, hS4, hg4⟩
        case measure => simp [intOf]; omega
    · have hE8 := (encR'_len (ps.take j)).1
      rw [take_len ps j (by omega)] at hE8
      have HRD := fun (z k : Nat) h1 h2 h3 => heads_rd H (by omega) z k h1 h2 (by omega) h3
      have hSz : ¬ S' wr.heap.size := fun q => by have := D.lt _ q; omega
      clear L
      obtain ⟨E, hE⟩ : ∃ E, (encR' (ps.take j)).length = E := ⟨_, rfl⟩
      rw [hE] at hup hE8 ⊢
      simp only [hE, take_len ps j (show j ≤ ps.length by omega)] at HRD
      replace HRD := fun (z k : Nat) h1 h2 h3 h4 => HRD z k h1 h2 h3 h4 (fun p hp => Nat.le_trans (hsm p hp) (by omega))
      have HE := Lib.hid hE
      clear hE
      by_cases h0 : j = 0
      · subst h0
        obtain rfl : E = 0 := by omega
        have h1i : ¬ (((0 : Nat) : Int) < (m : Int)) := by omega
        have hmin : min (m : Int) 6 = 0 := by omega
        have hm0 : (m : Int) = 0 := by omega
        simp only [show ((0 : Nat) : Int) = 0 from rfl] at h1i ⊢
        go_upto_region 14 with fail
        clear hmin hm0
        rcases hq3 with hq | hq | hq
        · rcases hr3 with hr | hr | hr
          · skip
            have HQ := Lib.hid hq
            have HR := Lib.hid hr
            clear hq hr
            go_wp2_with (first
              | (go_at_call 16; (with_reducible refine (within8_any n 3 _ (by omega) (by omega)).mono ?_); rintro e w' ⟨rfl, rfl⟩; rw [HQ.out])
              | (go_at_call 16; (with_reducible refine (within8_any k 3 _ (by omega) (by omega)).mono ?_); rintro e w' ⟨rfl, rfl⟩; rw [HR.out]))
            go_ret
            exact ⟨rfl, hB⟩
          · skip
            have HQ := Lib.hid hq
            have HR := Lib.hid hr
            clear hq hr
            go_wp2_with (first
              | (go_at_call 16; (with_reducible refine (within8_any n 3 _ (by omega) (by omega)).mono ?_); rintro e w' ⟨rfl, rfl⟩; rw [HQ.out])
              | (go_at_call 16; (with_reducible refine (within8_any k 3 _ (by omega) (by omega)).mono ?_); rintro e w' ⟨rfl, rfl⟩; rw [HR.out]))
            go_ret
            exact ⟨rfl, hB⟩
          · skip
            have HQ := Lib.hid hq
            have HR := Lib.hid hr
            clear hq hr
            go_wp2_with (first
              | (go_at_call 16; (with_reducible refine (within8_any n 3 _ (by omega) (by omega)).mono ?_); rintro e w' ⟨rfl, rfl⟩; rw [HQ.out])
              | (go_at_call 16; (with_reducible refine (within8_any k 3 _ (by omega) (by omega)).mono ?_); rintro e w' ⟨rfl, rfl⟩; rw [HR.out]))
            go_ret
            exact ⟨rfl, hB⟩
        · rcases hr3 with hr | hr | hr
          · skip
            have HQ := Lib.hid hq
            have HR := Lib.hid hr
            clear hq hr
            go_wp2_with (first
              | (go_at_call 16; (with_reducible refine (within8_any n 3 _ (by omega) (by omega)).mono ?_); rintro e w' ⟨rfl, rfl⟩; rw [HQ.out])
              | (go_at_call 16; (with_reducible refine (within8_any k 3 _ (by omega) (by omega)).mono ?_); rintro e w' ⟨rfl, rfl⟩; rw [HR.out]))
            go_ret
            exact ⟨rfl, hB⟩
          · skip
            have HQ := Lib.hid hq
            have HR := Lib.hid hr
            clear hq hr
            go_wp2_with (first
              | (go_at_call 16; (with_reducible refine (within8_any n 3 _ (by omega) (by omega)).mono ?_); rintro e w' ⟨rfl, rfl⟩; rw [HQ.out])
              | (go_at_call 16; (with_reducible refine (within8_any k 3 _ (by omega) (by omega)).mono ?_); rintro e w' ⟨rfl, rfl⟩; rw [HR.out])
              | (at_make; refine wpList_full_ob rfl _ _ 31 rfl 5 byteTy .i64 .i64 _ _ 16 rfl rfl rfl rfl (by omega) ?_; intro w3 o3 b3; have z0 := o3.cell 0 0 rfl; have z1 := o3.cell 1 0 rfl; have z8 := o3.cell 8 0 rfl; have fz := o3.free))
            refine (tamper_hd w3 _ o3 (D.past b3) hSz (by omega) _ _ _ 0 0 ?_ ?_ ?_).mono ?_
            · omega
            · omega
            · omega
            rintro e w4 ⟨S4, rfl, D4, k4, e4⟩
            obtain ⟨hrec, hok⟩ := HRD 0 0 (by omega) (by omega) (by omega) (fun h => absurd h (by omega))
            have hok' := hok.2 ⟨rfl, rfl⟩
            have HS := scan_any D4 H.alive (by omega)
            rw [hrec, decide_eq_true hok', if_neg (by omega)] at HS
            have B4 := hB.trans ((b3.mono (Nat.le_refl _)).mono hB.size) |>.trans (k4.below (Nat.le_trans hB.size b3.size) (fun q h => by
              rcases h with h | h
              · exact hS' q h
              · subst h
                exact hB.size))
            go_wp2_with fail
            refine HS.mono ?_
            rintro e w5 ⟨ro5, rn5, rc5, rfl, P5, b5⟩
            have hrn : rn5 = 0 := by rw [← P5.len]; exact take_len ps _ (by omega)
            have hrq : ((rn5 : Int) == (0 : Int)) = true := by simp; omega
            have HOp := open_ok_any (D4.past b5) H.alive (by omega) hok'
            have B5 := B4.trans (b5.mono B4.size)
            clear hrec hok HS P5 b5 hrn D4 k4 e4 o3 z0 z1 z8 fz
            go_wp2_with fail
            refine HOp.mono ?_
            rintro e w6 ⟨g6, ro6, rn6, rc6, rfl, L6, P6, b6, q6⟩
            go_wp2_with fail
            go_ret
            exact ⟨rfl, B5.trans (b6.mono B5.size)⟩
          · skip
            have HQ := Lib.hid hq
            have HR := Lib.hid hr
            clear hq hr
            go_wp2_with (first
              | (go_at_call 16; (with_reducible refine (within8_any n 3 _ (by omega) (by omega)).mono ?_); rintro e w' ⟨rfl, rfl⟩; rw [HQ.out])
              | (go_at_call 16; (with_reducible refine (within8_any k 3 _ (by omega) (by omega)).mono ?_); rintro e w' ⟨rfl, rfl⟩; rw [HR.out])
              | (at_make; refine wpList_full_ob rfl _ _ 31 rfl 5 byteTy .i64 .i64 _ _ 16 rfl rfl rfl rfl (by omega) ?_; intro w3 o3 b3; have z0 := o3.cell 0 0 rfl; have z1 := o3.cell 1 0 rfl; have z8 := o3.cell 8 0 rfl; have fz := o3.free))
            refine (tamper_hd w3 _ o3 (D.past b3) hSz (by omega) _ _ _ 0 (0 + 1) ?_ ?_ ?_).mono ?_
            · omega
            · omega
            · omega
            rintro e w4 ⟨S4, rfl, D4, k4, e4⟩
            obtain ⟨hrec, hok⟩ := HRD 0 (0 + 1) (by omega) (by omega) (by omega) (fun h => absurd h (by omega))
            have hok' := fun h => (show False by have := hok.1 h; omega)
            have HS := scan_any D4 H.alive (by omega)
            rw [hrec, decide_eq_false hok', if_neg (by omega)] at HS
            have B4 := hB.trans ((b3.mono (Nat.le_refl _)).mono hB.size) |>.trans (k4.below (Nat.le_trans hB.size b3.size) (fun q h => by
              rcases h with h | h
              · exact hS' q h
              · subst h
                exact hB.size))
            go_wp2_with fail
            refine HS.mono ?_
            rintro e w5 ⟨ro5, rn5, rc5, rfl, P5, b5⟩
            have hrn : rn5 = 0 := by rw [← P5.len]; exact take_len ps _ (by omega)
            have hrq : ((rn5 : Int) == (0 : Int)) = true := by simp; omega
            have HOp := open_bad_any (D4.past b5) H.alive (by omega) hok'
            have B5 := B4.trans (b5.mono B4.size)
            clear hrec hok HS P5 b5 hrn D4 k4 e4 o3 z0 z1 z8 fz
            go_wp2_with fail
            refine HOp.mono ?_
            rintro e w6 ⟨rfl, b6⟩
            go_wp2_with fail
            go_ret
            exact ⟨rfl, B5.trans (b6.mono B5.size)⟩
        · rcases hr3 with hr | hr | hr
          · skip
            have HQ := Lib.hid hq
            have HR := Lib.hid hr
            clear hq hr
            go_wp2_with (first
              | (go_at_call 16; (with_reducible refine (within8_any n 3 _ (by omega) (by omega)).mono ?_); rintro e w' ⟨rfl, rfl⟩; rw [HQ.out])
              | (go_at_call 16; (with_reducible refine (within8_any k 3 _ (by omega) (by omega)).mono ?_); rintro e w' ⟨rfl, rfl⟩; rw [HR.out]))
            go_ret
            exact ⟨rfl, hB⟩
          · skip
            have HQ := Lib.hid hq
            have HR := Lib.hid hr
            clear hq hr
            go_wp2_with (first
              | (go_at_call 16; (with_reducible refine (within8_any n 3 _ (by omega) (by omega)).mono ?_); rintro e w' ⟨rfl, rfl⟩; rw [HQ.out])
              | (go_at_call 16; (with_reducible refine (within8_any k 3 _ (by omega) (by omega)).mono ?_); rintro e w' ⟨rfl, rfl⟩; rw [HR.out])
              | (at_make; refine wpList_full_ob rfl _ _ 31 rfl 5 byteTy .i64 .i64 _ _ 16 rfl rfl rfl rfl (by omega) ?_; intro w3 o3 b3; have z0 := o3.cell 0 0 rfl; have z1 := o3.cell 1 0 rfl; have z8 := o3.cell 8 0 rfl; have fz := o3.free))
            refine (tamper_hd w3 _ o3 (D.past b3) hSz (by omega) _ _ _ (0 + 1) 0 ?_ ?_ ?_).mono ?_
            · omega
            · omega
            · omega
            rintro e w4 ⟨S4, rfl, D4, k4, e4⟩
            obtain ⟨hrec, hok⟩ := HRD (0 + 1) 0 (by omega) (by omega) (by omega) (fun h => absurd h (by omega))
            have hok' := fun h => (show False by have := hok.1 h; omega)
            have HS := scan_any D4 H.alive (by omega)
            rw [hrec, decide_eq_false hok', if_neg (by omega)] at HS
            have B4 := hB.trans ((b3.mono (Nat.le_refl _)).mono hB.size) |>.trans (k4.below (Nat.le_trans hB.size b3.size) (fun q h => by
              rcases h with h | h
              · exact hS' q h
              · subst h
                exact hB.size))
            go_wp2_with fail
            refine HS.mono ?_
            rintro e w5 ⟨ro5, rn5, rc5, rfl, P5, b5⟩
            have hrn : rn5 = 0 := by rw [← P5.len]; exact take_len ps _ (by omega)
            have hrq : ((rn5 : Int) == (0 : Int)) = true := by simp; omega
            have HOp := open_bad_any (D4.past b5) H.alive (by omega) hok'
            have B5 := B4.trans (b5.mono B4.size)
            clear hrec hok HS P5 b5 hrn D4 k4 e4 o3 z0 z1 z8 fz
            go_wp2_with fail
            refine HOp.mono ?_
            rintro e w6 ⟨rfl, b6⟩
            go_wp2_with fail
            go_ret
            exact ⟨rfl, B5.trans (b6.mono B5.size)⟩
          · skip
            have HQ := Lib.hid hq
            have HR := Lib.hid hr
            clear hq hr
            go_wp2_with (first
              | (go_at_call 16; (with_reducible refine (within8_any n 3 _ (by omega) (by omega)).mono ?_); rintro e w' ⟨rfl, rfl⟩; rw [HQ.out])
              | (go_at_call 16; (with_reducible refine (within8_any k 3 _ (by omega) (by omega)).mono ?_); rintro e w' ⟨rfl, rfl⟩; rw [HR.out])
              | (at_make; refine wpList_full_ob rfl _ _ 31 rfl 5 byteTy .i64 .i64 _ _ 16 rfl rfl rfl rfl (by omega) ?_; intro w3 o3 b3; have z0 := o3.cell 0 0 rfl; have z1 := o3.cell 1 0 rfl; have z8 := o3.cell 8 0 rfl; have fz := o3.free))
            refine (tamper_hd w3 _ o3 (D.past b3) hSz (by omega) _ _ _ (0 + 1) (0 + 1) ?_ ?_ ?_).mono ?_
            · omega
            · omega
            · omega
            rintro e w4 ⟨S4, rfl, D4, k4, e4⟩
            obtain ⟨hrec, hok⟩ := HRD (0 + 1) (0 + 1) (by omega) (by omega) (by omega) (fun h => absurd h (by omega))
            have hok' := fun h => (show False by have := hok.1 h; omega)
            have HS := scan_any D4 H.alive (by omega)
            rw [hrec, decide_eq_false hok', if_neg (by omega)] at HS
            have B4 := hB.trans ((b3.mono (Nat.le_refl _)).mono hB.size) |>.trans (k4.below (Nat.le_trans hB.size b3.size) (fun q h => by
              rcases h with h | h
              · exact hS' q h
              · subst h
                exact hB.size))
            go_wp2_with fail
            refine HS.mono ?_
            rintro e w5 ⟨ro5, rn5, rc5, rfl, P5, b5⟩
            have hrn : rn5 = 0 := by rw [← P5.len]; exact take_len ps _ (by omega)
            have hrq : ((rn5 : Int) == (0 : Int)) = true := by simp; omega
            have HOp := open_bad_any (D4.past b5) H.alive (by omega) hok'
            have B5 := B4.trans (b5.mono B4.size)
            clear hrec hok HS P5 b5 hrn D4 k4 e4 o3 z0 z1 z8 fz
            go_wp2_with fail
            refine HOp.mono ?_
            rintro e w6 ⟨rfl, b6⟩
            go_wp2_with fail
            go_ret
            exact ⟨rfl, B5.trans (b6.mono B5.size)⟩
      · have hE0 : ((E : Int) == 0) = false := by simp; omega
        have hj0 : ((j : Int) == 0) = false := by simp; omega
        have hne : ps.take j ≠ [] := fun h => by have := take_len ps j (by omega); rw [h] at this; simp at this; omega
        by_cases h1 : j < m
        · have h1i : (j : Int) < (m : Int) := by omega
          have h2i : ¬ ((j : Int) < 6) := by omega
          have hmin : min (m : Int) 6 = (j : Int) := by omega
          go_upto_region 14 with fail
          clear hmin
          rcases hq3 with hq | hq | hq
          · rcases hr3 with hr | hr | hr
            · skip
              have HQ := Lib.hid hq
              have HR := Lib.hid hr
              clear hq hr
              go_wp2_with (first
                | (go_at_call 16; (with_reducible refine (within8_any n 3 _ (by omega) (by omega)).mono ?_); rintro e w' ⟨rfl, rfl⟩; rw [HQ.out])
                | (go_at_call 16; (with_reducible refine (within8_any k 3 _ (by omega) (by omega)).mono ?_); rintro e w' ⟨rfl, rfl⟩; rw [HR.out])
                | (at_make; refine wpList_full_ob rfl _ _ 31 rfl 5 byteTy .i64 .i64 _ _ 16 rfl rfl rfl rfl (by omega) ?_; intro w3 o3 b3; have z0 := o3.cell 0 0 rfl; have z1 := o3.cell 1 0 rfl; have z8 := o3.cell 8 0 rfl; have fz := o3.free))
              refine (tamper_hd w3 _ o3 (D.past b3) hSz (by omega) _ _ _ (E - 1) (j - 1) ?_ ?_ ?_).mono ?_
              · omega
              · omega
              · omega
              rintro e w4 ⟨S4, rfl, D4, k4, e4⟩
              obtain ⟨hrec, hok⟩ := HRD (E - 1) (j - 1) (by omega) (by omega) (by omega) (fun _ => hne)
              have hok' := fun h => (show False by have := hok.1 h; omega)
              have HS := scan_any D4 H.alive (by omega)
              rw [hrec, decide_eq_false hok', if_pos (by omega)] at HS
              have B4 := hB.trans ((b3.mono (Nat.le_refl _)).mono hB.size) |>.trans (k4.below (Nat.le_trans hB.size b3.size) (fun q h => by
                rcases h with h | h
                · exact hS' q h
                · subst h
                  exact hB.size))
              go_wp2_with fail
              refine HS.mono ?_
              rintro e w5 ⟨ro5, rn5, rc5, rfl, P5, b5⟩
              have hrn : rn5 = j - 1 := by rw [← P5.len]; rw [List.length_take, take_len ps j (by omega)]; omega
              have hrq : ((rn5 : Int) == (j : Int) - 1) = true := by simp; omega
              have HOp := open_bad_any (D4.past b5) H.alive (by omega) hok'
              have B5 := B4.trans (b5.mono B4.size)
              clear hrec hok HS P5 b5 hrn D4 k4 e4 o3 z0 z1 z8 fz
              go_wp2_with fail
              refine HOp.mono ?_
              rintro e w6 ⟨rfl, b6⟩
              go_wp2_with fail
              go_ret
              exact ⟨rfl, B5.trans (b6.mono B5.size)⟩
            · skip
              have HQ := Lib.hid hq
              have HR := Lib.hid hr
              clear hq hr
              go_wp2_with (first
                | (go_at_call 16; (with_reducible refine (within8_any n 3 _ (by omega) (by omega)).mono ?_); rintro e w' ⟨rfl, rfl⟩; rw [HQ.out])
                | (go_at_call 16; (with_reducible refine (within8_any k 3 _ (by omega) (by omega)).mono ?_); rintro e w' ⟨rfl, rfl⟩; rw [HR.out])
                | (at_make; refine wpList_full_ob rfl _ _ 31 rfl 5 byteTy .i64 .i64 _ _ 16 rfl rfl rfl rfl (by omega) ?_; intro w3 o3 b3; have z0 := o3.cell 0 0 rfl; have z1 := o3.cell 1 0 rfl; have z8 := o3.cell 8 0 rfl; have fz := o3.free))
              refine (tamper_hd w3 _ o3 (D.past b3) hSz (by omega) _ _ _ (E - 1) j ?_ ?_ ?_).mono ?_
              · omega
              · omega
              · omega
              rintro e w4 ⟨S4, rfl, D4, k4, e4⟩
              obtain ⟨hrec, hok⟩ := HRD (E - 1) j (by omega) (by omega) (by omega) (fun _ => hne)
              have hok' := fun h => (show False by have := hok.1 h; omega)
              have HS := scan_any D4 H.alive (by omega)
              rw [hrec, decide_eq_false hok', if_pos (by omega)] at HS
              have B4 := hB.trans ((b3.mono (Nat.le_refl _)).mono hB.size) |>.trans (k4.below (Nat.le_trans hB.size b3.size) (fun q h => by
                rcases h with h | h
                · exact hS' q h
                · subst h
                  exact hB.size))
              go_wp2_with fail
              refine HS.mono ?_
              rintro e w5 ⟨ro5, rn5, rc5, rfl, P5, b5⟩
              have hrn : rn5 = j - 1 := by rw [← P5.len]; rw [List.length_take, take_len ps j (by omega)]; omega
              have hrq : ((rn5 : Int) == (j : Int) - 1) = true := by simp; omega
              have HOp := open_bad_any (D4.past b5) H.alive (by omega) hok'
              have B5 := B4.trans (b5.mono B4.size)
              clear hrec hok HS P5 b5 hrn D4 k4 e4 o3 z0 z1 z8 fz
              go_wp2_with fail
              refine HOp.mono ?_
              rintro e w6 ⟨rfl, b6⟩
              go_wp2_with fail
              go_ret
              exact ⟨rfl, B5.trans (b6.mono B5.size)⟩
            · skip
              have HQ := Lib.hid hq
              have HR := Lib.hid hr
              clear hq hr
              go_wp2_with (first
                | (go_at_call 16; (with_reducible refine (within8_any n 3 _ (by omega) (by omega)).mono ?_); rintro e w' ⟨rfl, rfl⟩; rw [HQ.out])
                | (go_at_call 16; (with_reducible refine (within8_any k 3 _ (by omega) (by omega)).mono ?_); rintro e w' ⟨rfl, rfl⟩; rw [HR.out])
                | (at_make; refine wpList_full_ob rfl _ _ 31 rfl 5 byteTy .i64 .i64 _ _ 16 rfl rfl rfl rfl (by omega) ?_; intro w3 o3 b3; have z0 := o3.cell 0 0 rfl; have z1 := o3.cell 1 0 rfl; have z8 := o3.cell 8 0 rfl; have fz := o3.free))
              refine (tamper_hd w3 _ o3 (D.past b3) hSz (by omega) _ _ _ (E - 1) (j + 1) ?_ ?_ ?_).mono ?_
              · omega
              · omega
              · omega
              rintro e w4 ⟨S4, rfl, D4, k4, e4⟩
              obtain ⟨hrec, hok⟩ := HRD (E - 1) (j + 1) (by omega) (by omega) (by omega) (fun _ => hne)
              have hok' := fun h => (show False by have := hok.1 h; omega)
              have HS := scan_any D4 H.alive (by omega)
              rw [hrec, decide_eq_false hok', if_pos (by omega)] at HS
              have B4 := hB.trans ((b3.mono (Nat.le_refl _)).mono hB.size) |>.trans (k4.below (Nat.le_trans hB.size b3.size) (fun q h => by
                rcases h with h | h
                · exact hS' q h
                · subst h
                  exact hB.size))
              go_wp2_with fail
              refine HS.mono ?_
              rintro e w5 ⟨ro5, rn5, rc5, rfl, P5, b5⟩
              have hrn : rn5 = j - 1 := by rw [← P5.len]; rw [List.length_take, take_len ps j (by omega)]; omega
              have hrq : ((rn5 : Int) == (j : Int) - 1) = true := by simp; omega
              have HOp := open_bad_any (D4.past b5) H.alive (by omega) hok'
              have B5 := B4.trans (b5.mono B4.size)
              clear hrec hok HS P5 b5 hrn D4 k4 e4 o3 z0 z1 z8 fz
              go_wp2_with fail
              refine HOp.mono ?_
              rintro e w6 ⟨rfl, b6⟩
              go_wp2_with fail
              go_ret
              exact ⟨rfl, B5.trans (b6.mono B5.size)⟩
          · rcases hr3 with hr | hr | hr
            · skip
              have HQ := Lib.hid hq
              have HR := Lib.hid hr
              clear hq hr
              go_wp2_with (first
                | (go_at_call 16; (with_reducible refine (within8_any n 3 _ (by omega) (by omega)).mono ?_); rintro e w' ⟨rfl, rfl⟩; rw [HQ.out])
                | (go_at_call 16; (with_reducible refine (within8_any k 3 _ (by omega) (by omega)).mono ?_); rintro e w' ⟨rfl, rfl⟩; rw [HR.out])
                | (at_make; refine wpList_full_ob rfl _ _ 31 rfl 5 byteTy .i64 .i64 _ _ 16 rfl rfl rfl rfl (by omega) ?_; intro w3 o3 b3; have z0 := o3.cell 0 0 rfl; have z1 := o3.cell 1 0 rfl; have z8 := o3.cell 8 0 rfl; have fz := o3.free))
              refine (tamper_hd w3 _ o3 (D.past b3) hSz (by omega) _ _ _ E (j - 1) ?_ ?_ ?_).mono ?_
              · omega
              · omega
              · omega
              rintro e w4 ⟨S4, rfl, D4, k4, e4⟩
              obtain ⟨hrec, hok⟩ := HRD E (j - 1) (by omega) (by omega) (by omega) (fun h => absurd h (by omega))
              have hok' := fun h => (show False by have := hok.1 h; omega)
              have HS := scan_any D4 H.alive (by omega)
              rw [hrec, decide_eq_false hok', if_neg (by omega)] at HS
              have B4 := hB.trans ((b3.mono (Nat.le_refl _)).mono hB.size) |>.trans (k4.below (Nat.le_trans hB.size b3.size) (fun q h => by
                rcases h with h | h
                · exact hS' q h
                · subst h
                  exact hB.size))
              go_wp2_with fail
              refine HS.mono ?_
              rintro e w5 ⟨ro5, rn5, rc5, rfl, P5, b5⟩
              have hrn : rn5 = j := by rw [← P5.len]; exact take_len ps _ (by omega)
              have hrq : ((rn5 : Int) == (j : Int)) = true := by simp; omega
              have HOp := open_bad_any (D4.past b5) H.alive (by omega) hok'
              have B5 := B4.trans (b5.mono B4.size)
              clear hrec hok HS P5 b5 hrn D4 k4 e4 o3 z0 z1 z8 fz
              go_wp2_with fail
              refine HOp.mono ?_
              rintro e w6 ⟨rfl, b6⟩
              go_wp2_with fail
              go_ret
              exact ⟨rfl, B5.trans (b6.mono B5.size)⟩
            · skip
              have HQ := Lib.hid hq
              have HR := Lib.hid hr
              clear hq hr
              go_wp2_with (first
                | (go_at_call 16; (with_reducible refine (within8_any n 3 _ (by omega) (by omega)).mono ?_); rintro e w' ⟨rfl, rfl⟩; rw [HQ.out])
                | (go_at_call 16; (with_reducible refine (within8_any k 3 _ (by omega) (by omega)).mono ?_); rintro e w' ⟨rfl, rfl⟩; rw [HR.out])
                | (at_make; refine wpList_full_ob rfl _ _ 31 rfl 5 byteTy .i64 .i64 _ _ 16 rfl rfl rfl rfl (by omega) ?_; intro w3 o3 b3; have z0 := o3.cell 0 0 rfl; have z1 := o3.cell 1 0 rfl; have z8 := o3.cell 8 0 rfl; have fz := o3.free))
              refine (tamper_hd w3 _ o3 (D.past b3) hSz (by omega) _ _ _ E j ?_ ?_ ?_).mono ?_
              · omega
              · omega
              · omega
              rintro e w4 ⟨S4, rfl, D4, k4, e4⟩
              obtain ⟨hrec, hok⟩ := HRD E j (by omega) (by omega) (by omega) (fun h => absurd h (by omega))
              have hok' := hok.2 ⟨rfl, rfl⟩
              have HS := scan_any D4 H.alive (by omega)
              rw [hrec, decide_eq_true hok', if_neg (by omega)] at HS
              have B4 := hB.trans ((b3.mono (Nat.le_refl _)).mono hB.size) |>.trans (k4.below (Nat.le_trans hB.size b3.size) (fun q h => by
                rcases h with h | h
                · exact hS' q h
                · subst h
                  exact hB.size))
              go_wp2_with fail
              refine HS.mono ?_
              rintro e w5 ⟨ro5, rn5, rc5, rfl, P5, b5⟩
              have hrn : rn5 = j := by rw [← P5.len]; exact take_len ps _ (by omega)
              have hrq : ((rn5 : Int) == (j : Int)) = true := by simp; omega
              have HOp := open_ok_any (D4.past b5) H.alive (by omega) hok'
              have B5 := B4.trans (b5.mono B4.size)
              clear hrec hok HS P5 b5 hrn D4 k4 e4 o3 z0 z1 z8 fz
              go_wp2_with fail
              refine HOp.mono ?_
              rintro e w6 ⟨g6, ro6, rn6, rc6, rfl, L6, P6, b6, q6⟩
              go_wp2_with fail
              go_ret
              exact ⟨rfl, B5.trans (b6.mono B5.size)⟩
            · skip
              have HQ := Lib.hid hq
              have HR := Lib.hid hr
              clear hq hr
              go_wp2_with (first
                | (go_at_call 16; (with_reducible refine (within8_any n 3 _ (by omega) (by omega)).mono ?_); rintro e w' ⟨rfl, rfl⟩; rw [HQ.out])
                | (go_at_call 16; (with_reducible refine (within8_any k 3 _ (by omega) (by omega)).mono ?_); rintro e w' ⟨rfl, rfl⟩; rw [HR.out])
                | (at_make; refine wpList_full_ob rfl _ _ 31 rfl 5 byteTy .i64 .i64 _ _ 16 rfl rfl rfl rfl (by omega) ?_; intro w3 o3 b3; have z0 := o3.cell 0 0 rfl; have z1 := o3.cell 1 0 rfl; have z8 := o3.cell 8 0 rfl; have fz := o3.free))
              refine (tamper_hd w3 _ o3 (D.past b3) hSz (by omega) _ _ _ E (j + 1) ?_ ?_ ?_).mono ?_
              · omega
              · omega
              · omega
              rintro e w4 ⟨S4, rfl, D4, k4, e4⟩
              obtain ⟨hrec, hok⟩ := HRD E (j + 1) (by omega) (by omega) (by omega) (fun h => absurd h (by omega))
              have hok' := fun h => (show False by have := hok.1 h; omega)
              have HS := scan_any D4 H.alive (by omega)
              rw [hrec, decide_eq_false hok', if_neg (by omega)] at HS
              have B4 := hB.trans ((b3.mono (Nat.le_refl _)).mono hB.size) |>.trans (k4.below (Nat.le_trans hB.size b3.size) (fun q h => by
                rcases h with h | h
                · exact hS' q h
                · subst h
                  exact hB.size))
              go_wp2_with fail
              refine HS.mono ?_
              rintro e w5 ⟨ro5, rn5, rc5, rfl, P5, b5⟩
              have hrn : rn5 = j := by rw [← P5.len]; exact take_len ps _ (by omega)
              have hrq : ((rn5 : Int) == (j : Int)) = true := by simp; omega
              have HOp := open_bad_any (D4.past b5) H.alive (by omega) hok'
              have B5 := B4.trans (b5.mono B4.size)
              clear hrec hok HS P5 b5 hrn D4 k4 e4 o3 z0 z1 z8 fz
              go_wp2_with fail
              refine HOp.mono ?_
              rintro e w6 ⟨rfl, b6⟩
              go_wp2_with fail
              go_ret
              exact ⟨rfl, B5.trans (b6.mono B5.size)⟩
          · rcases hr3 with hr | hr | hr
            · skip
              have HQ := Lib.hid hq
              have HR := Lib.hid hr
              clear hq hr
              go_wp2_with (first
                | (go_at_call 16; (with_reducible refine (within8_any n 3 _ (by omega) (by omega)).mono ?_); rintro e w' ⟨rfl, rfl⟩; rw [HQ.out])
                | (go_at_call 16; (with_reducible refine (within8_any k 3 _ (by omega) (by omega)).mono ?_); rintro e w' ⟨rfl, rfl⟩; rw [HR.out])
                | (at_make; refine wpList_full_ob rfl _ _ 31 rfl 5 byteTy .i64 .i64 _ _ 16 rfl rfl rfl rfl (by omega) ?_; intro w3 o3 b3; have z0 := o3.cell 0 0 rfl; have z1 := o3.cell 1 0 rfl; have z8 := o3.cell 8 0 rfl; have fz := o3.free))
              refine (tamper_hd w3 _ o3 (D.past b3) hSz (by omega) _ _ _ (E + 1) (j - 1) ?_ ?_ ?_).mono ?_
              · omega
              · omega
              · omega
              rintro e w4 ⟨S4, rfl, D4, k4, e4⟩
              obtain ⟨hrec, hok⟩ := HRD (E + 1) (j - 1) (by omega) (by omega) (by omega) (fun h => absurd h (by omega))
              have hok' := fun h => (show False by have := hok.1 h; omega)
              have HS := scan_any D4 H.alive (by omega)
              rw [hrec, decide_eq_false hok', if_neg (by omega)] at HS
              have B4 := hB.trans ((b3.mono (Nat.le_refl _)).mono hB.size) |>.trans (k4.below (Nat.le_trans hB.size b3.size) (fun q h => by
                rcases h with h | h
                · exact hS' q h
                · subst h
                  exact hB.size))
              go_wp2_with fail
              refine HS.mono ?_
              rintro e w5 ⟨ro5, rn5, rc5, rfl, P5, b5⟩
              have hrn : rn5 = j := by rw [← P5.len]; exact take_len ps _ (by omega)
              have hrq : ((rn5 : Int) == (j : Int)) = true := by simp; omega
              have HOp := open_bad_any (D4.past b5) H.alive (by omega) hok'
              have B5 := B4.trans (b5.mono B4.size)
              clear hrec hok HS P5 b5 hrn D4 k4 e4 o3 z0 z1 z8 fz
              go_wp2_with fail
              refine HOp.mono ?_
              rintro e w6 ⟨rfl, b6⟩
              go_wp2_with fail
              go_ret
              exact ⟨rfl, B5.trans (b6.mono B5.size)⟩
            · skip
              have HQ := Lib.hid hq
              have HR := Lib.hid hr
              clear hq hr
              go_wp2_with (first
                | (go_at_call 16; (with_reducible refine (within8_any n 3 _ (by omega) (by omega)).mono ?_); rintro e w' ⟨rfl, rfl⟩; rw [HQ.out])
                | (go_at_call 16; (with_reducible refine (within8_any k 3 _ (by omega) (by omega)).mono ?_); rintro e w' ⟨rfl, rfl⟩; rw [HR.out])
                | (at_make; refine wpList_full_ob rfl _ _ 31 rfl 5 byteTy .i64 .i64 _ _ 16 rfl rfl rfl rfl (by omega) ?_; intro w3 o3 b3; have z0 := o3.cell 0 0 rfl; have z1 := o3.cell 1 0 rfl; have z8 := o3.cell 8 0 rfl; have fz := o3.free))
              refine (tamper_hd w3 _ o3 (D.past b3) hSz (by omega) _ _ _ (E + 1) j ?_ ?_ ?_).mono ?_
              · omega
              · omega
              · omega
              rintro e w4 ⟨S4, rfl, D4, k4, e4⟩
              obtain ⟨hrec, hok⟩ := HRD (E + 1) j (by omega) (by omega) (by omega) (fun h => absurd h (by omega))
              have hok' := fun h => (show False by have := hok.1 h; omega)
              have HS := scan_any D4 H.alive (by omega)
              rw [hrec, decide_eq_false hok', if_neg (by omega)] at HS
              have B4 := hB.trans ((b3.mono (Nat.le_refl _)).mono hB.size) |>.trans (k4.below (Nat.le_trans hB.size b3.size) (fun q h => by
                rcases h with h | h
                · exact hS' q h
                · subst h
                  exact hB.size))
              go_wp2_with fail
              refine HS.mono ?_
              rintro e w5 ⟨ro5, rn5, rc5, rfl, P5, b5⟩
              have hrn : rn5 = j := by rw [← P5.len]; exact take_len ps _ (by omega)
              have hrq : ((rn5 : Int) == (j : Int)) = true := by simp; omega
              have HOp := open_bad_any (D4.past b5) H.alive (by omega) hok'
              have B5 := B4.trans (b5.mono B4.size)
              clear hrec hok HS P5 b5 hrn D4 k4 e4 o3 z0 z1 z8 fz
              go_wp2_with fail
              refine HOp.mono ?_
              rintro e w6 ⟨rfl, b6⟩
              go_wp2_with fail
              go_ret
              exact ⟨rfl, B5.trans (b6.mono B5.size)⟩
            · skip
              have HQ := Lib.hid hq
              have HR := Lib.hid hr
              clear hq hr
              go_wp2_with (first
                | (go_at_call 16; (with_reducible refine (within8_any n 3 _ (by omega) (by omega)).mono ?_); rintro e w' ⟨rfl, rfl⟩; rw [HQ.out])
                | (go_at_call 16; (with_reducible refine (within8_any k 3 _ (by omega) (by omega)).mono ?_); rintro e w' ⟨rfl, rfl⟩; rw [HR.out])
                | (at_make; refine wpList_full_ob rfl _ _ 31 rfl 5 byteTy .i64 .i64 _ _ 16 rfl rfl rfl rfl (by omega) ?_; intro w3 o3 b3; have z0 := o3.cell 0 0 rfl; have z1 := o3.cell 1 0 rfl; have z8 := o3.cell 8 0 rfl; have fz := o3.free))
              refine (tamper_hd w3 _ o3 (D.past b3) hSz (by omega) _ _ _ (E + 1) (j + 1) ?_ ?_ ?_).mono ?_
              · omega
              · omega
              · omega
              rintro e w4 ⟨S4, rfl, D4, k4, e4⟩
              obtain ⟨hrec, hok⟩ := HRD (E + 1) (j + 1) (by omega) (by omega) (by omega) (fun h => absurd h (by omega))
              have hok' := fun h => (show False by have := hok.1 h; omega)
              have HS := scan_any D4 H.alive (by omega)
              rw [hrec, decide_eq_false hok', if_neg (by omega)] at HS
              have B4 := hB.trans ((b3.mono (Nat.le_refl _)).mono hB.size) |>.trans (k4.below (Nat.le_trans hB.size b3.size) (fun q h => by
                rcases h with h | h
                · exact hS' q h
                · subst h
                  exact hB.size))
              go_wp2_with fail
              refine HS.mono ?_
              rintro e w5 ⟨ro5, rn5, rc5, rfl, P5, b5⟩
              have hrn : rn5 = j := by rw [← P5.len]; exact take_len ps _ (by omega)
              have hrq : ((rn5 : Int) == (j : Int)) = true := by simp; omega
              have HOp := open_bad_any (D4.past b5) H.alive (by omega) hok'
              have B5 := B4.trans (b5.mono B4.size)
              clear hrec hok HS P5 b5 hrn D4 k4 e4 o3 z0 z1 z8 fz
              go_wp2_with fail
              refine HOp.mono ?_
              rintro e w6 ⟨rfl, b6⟩
              go_wp2_with fail
              go_ret
              exact ⟨rfl, B5.trans (b6.mono B5.size)⟩
        · have h1i : ¬ ((j : Int) < (m : Int)) := by omega
          have hmin : min (m : Int) 6 = (j : Int) := by omega
          go_upto_region 14 with fail
          clear hmin
          rcases hq3 with hq | hq | hq
          · rcases hr3 with hr | hr | hr
            · skip
              have HQ := Lib.hid hq
              have HR := Lib.hid hr
              clear hq hr
              go_wp2_with (first
                | (go_at_call 16; (with_reducible refine (within8_any n 3 _ (by omega) (by omega)).mono ?_); rintro e w' ⟨rfl, rfl⟩; rw [HQ.out])
                | (go_at_call 16; (with_reducible refine (within8_any k 3 _ (by omega) (by omega)).mono ?_); rintro e w' ⟨rfl, rfl⟩; rw [HR.out])
                | (at_make; refine wpList_full_ob rfl _ _ 31 rfl 5 byteTy .i64 .i64 _ _ 16 rfl rfl rfl rfl (by omega) ?_; intro w3 o3 b3; have z0 := o3.cell 0 0 rfl; have z1 := o3.cell 1 0 rfl; have z8 := o3.cell 8 0 rfl; have fz := o3.free))
              refine (tamper_hd w3 _ o3 (D.past b3) hSz (by omega) _ _ _ (E - 1) (j - 1) ?_ ?_ ?_).mono ?_
              · omega
              · omega
              · omega
              rintro e w4 ⟨S4, rfl, D4, k4, e4⟩
              obtain ⟨hrec, hok⟩ := HRD (E - 1) (j - 1) (by omega) (by omega) (by omega) (fun _ => hne)
              have hok' := fun h => (show False by have := hok.1 h; omega)
              have HS := scan_any D4 H.alive (by omega)
              rw [hrec, decide_eq_false hok', if_pos (by omega)] at HS
              have B4 := hB.trans ((b3.mono (Nat.le_refl _)).mono hB.size) |>.trans (k4.below (Nat.le_trans hB.size b3.size) (fun q h => by
                rcases h with h | h
                · exact hS' q h
                · subst h
                  exact hB.size))
              go_wp2_with fail
              refine HS.mono ?_
              rintro e w5 ⟨ro5, rn5, rc5, rfl, P5, b5⟩
              have hrn : rn5 = j - 1 := by rw [← P5.len]; rw [List.length_take, take_len ps j (by omega)]; omega
              have hrq : ((rn5 : Int) == (j : Int) - 1) = true := by simp; omega
              have HOp := open_bad_any (D4.past b5) H.alive (by omega) hok'
              have B5 := B4.trans (b5.mono B4.size)
              clear hrec hok HS P5 b5 hrn D4 k4 e4 o3 z0 z1 z8 fz
              go_wp2_with fail
              refine HOp.mono ?_
              rintro e w6 ⟨rfl, b6⟩
              go_wp2_with fail
              go_ret
              exact ⟨rfl, B5.trans (b6.mono B5.size)⟩
            · skip
              have HQ := Lib.hid hq
              have HR := Lib.hid hr
              clear hq hr
              go_wp2_with (first
                | (go_at_call 16; (with_reducible refine (within8_any n 3 _ (by omega) (by omega)).mono ?_); rintro e w' ⟨rfl, rfl⟩; rw [HQ.out])
                | (go_at_call 16; (with_reducible refine (within8_any k 3 _ (by omega) (by omega)).mono ?_); rintro e w' ⟨rfl, rfl⟩; rw [HR.out])
                | (at_make; refine wpList_full_ob rfl _ _ 31 rfl 5 byteTy .i64 .i64 _ _ 16 rfl rfl rfl rfl (by omega) ?_; intro w3 o3 b3; have z0 := o3.cell 0 0 rfl; have z1 := o3.cell 1 0 rfl; have z8 := o3.cell 8 0 rfl; have fz := o3.free))
              refine (tamper_hd w3 _ o3 (D.past b3) hSz (by omega) _ _ _ (E - 1) j ?_ ?_ ?_).mono ?_
              · omega
              · omega
              · omega
              rintro e w4 ⟨S4, rfl, D4, k4, e4⟩
              obtain ⟨hrec, hok⟩ := HRD (E - 1) j (by omega) (by omega) (by omega) (fun _ => hne)
              have hok' := fun h => (show False by have := hok.1 h; omega)
              have HS := scan_any D4 H.alive (by omega)
              rw [hrec, decide_eq_false hok', if_pos (by omega)] at HS
              have B4 := hB.trans ((b3.mono (Nat.le_refl _)).mono hB.size) |>.trans (k4.below (Nat.le_trans hB.size b3.size) (fun q h => by
                rcases h with h | h
                · exact hS' q h
                · subst h
                  exact hB.size))
              go_wp2_with fail
              refine HS.mono ?_
              rintro e w5 ⟨ro5, rn5, rc5, rfl, P5, b5⟩
              have hrn : rn5 = j - 1 := by rw [← P5.len]; rw [List.length_take, take_len ps j (by omega)]; omega
              have hrq : ((rn5 : Int) == (j : Int) - 1) = true := by simp; omega
              have HOp := open_bad_any (D4.past b5) H.alive (by omega) hok'
              have B5 := B4.trans (b5.mono B4.size)
              clear hrec hok HS P5 b5 hrn D4 k4 e4 o3 z0 z1 z8 fz
              go_wp2_with fail
              refine HOp.mono ?_
              rintro e w6 ⟨rfl, b6⟩
              go_wp2_with fail
              go_ret
              exact ⟨rfl, B5.trans (b6.mono B5.size)⟩
            · skip
              have HQ := Lib.hid hq
              have HR := Lib.hid hr
              clear hq hr
              go_wp2_with (first
                | (go_at_call 16; (with_reducible refine (within8_any n 3 _ (by omega) (by omega)).mono ?_); rintro e w' ⟨rfl, rfl⟩; rw [HQ.out])
                | (go_at_call 16; (with_reducible refine (within8_any k 3 _ (by omega) (by omega)).mono ?_); rintro e w' ⟨rfl, rfl⟩; rw [HR.out])
                | (at_make; refine wpList_full_ob rfl _ _ 31 rfl 5 byteTy .i64 .i64 _ _ 16 rfl rfl rfl rfl (by omega) ?_; intro w3 o3 b3; have z0 := o3.cell 0 0 rfl; have z1 := o3.cell 1 0 rfl; have z8 := o3.cell 8 0 rfl; have fz := o3.free))
              refine (tamper_hd w3 _ o3 (D.past b3) hSz (by omega) _ _ _ (E - 1) (j + 1) ?_ ?_ ?_).mono ?_
              · omega
              · omega
              · omega
              rintro e w4 ⟨S4, rfl, D4, k4, e4⟩
              obtain ⟨hrec, hok⟩ := HRD (E - 1) (j + 1) (by omega) (by omega) (by omega) (fun _ => hne)
              have hok' := fun h => (show False by have := hok.1 h; omega)
              have HS := scan_any D4 H.alive (by omega)
              rw [hrec, decide_eq_false hok', if_pos (by omega)] at HS
              have B4 := hB.trans ((b3.mono (Nat.le_refl _)).mono hB.size) |>.trans (k4.below (Nat.le_trans hB.size b3.size) (fun q h => by
                rcases h with h | h
                · exact hS' q h
                · subst h
                  exact hB.size))
              go_wp2_with fail
              refine HS.mono ?_
              rintro e w5 ⟨ro5, rn5, rc5, rfl, P5, b5⟩
              have hrn : rn5 = j - 1 := by rw [← P5.len]; rw [List.length_take, take_len ps j (by omega)]; omega
              have hrq : ((rn5 : Int) == (j : Int) - 1) = true := by simp; omega
              have HOp := open_bad_any (D4.past b5) H.alive (by omega) hok'
              have B5 := B4.trans (b5.mono B4.size)
              clear hrec hok HS P5 b5 hrn D4 k4 e4 o3 z0 z1 z8 fz
              go_wp2_with fail
              refine HOp.mono ?_
              rintro e w6 ⟨rfl, b6⟩
              go_wp2_with fail
              go_ret
              exact ⟨rfl, B5.trans (b6.mono B5.size)⟩
          · rcases hr3 with hr | hr | hr
            · skip
              have HQ := Lib.hid hq
              have HR := Lib.hid hr
              clear hq hr
              go_wp2_with (first
                | (go_at_call 16; (with_reducible refine (within8_any n 3 _ (by omega) (by omega)).mono ?_); rintro e w' ⟨rfl, rfl⟩; rw [HQ.out])
                | (go_at_call 16; (with_reducible refine (within8_any k 3 _ (by omega) (by omega)).mono ?_); rintro e w' ⟨rfl, rfl⟩; rw [HR.out])
                | (at_make; refine wpList_full_ob rfl _ _ 31 rfl 5 byteTy .i64 .i64 _ _ 16 rfl rfl rfl rfl (by omega) ?_; intro w3 o3 b3; have z0 := o3.cell 0 0 rfl; have z1 := o3.cell 1 0 rfl; have z8 := o3.cell 8 0 rfl; have fz := o3.free))
              refine (tamper_hd w3 _ o3 (D.past b3) hSz (by omega) _ _ _ E (j - 1) ?_ ?_ ?_).mono ?_
              · omega
              · omega
              · omega
              rintro e w4 ⟨S4, rfl, D4, k4, e4⟩
              obtain ⟨hrec, hok⟩ := HRD E (j - 1) (by omega) (by omega) (by omega) (fun h => absurd h (by omega))
              have hok' := fun h => (show False by have := hok.1 h; omega)
              have HS := scan_any D4 H.alive (by omega)
              rw [hrec, decide_eq_false hok', if_neg (by omega)] at HS
              have B4 := hB.trans ((b3.mono (Nat.le_refl _)).mono hB.size) |>.trans (k4.below (Nat.le_trans hB.size b3.size) (fun q h => by
                rcases h with h | h
                · exact hS' q h
                · subst h
                  exact hB.size))
              go_wp2_with fail
              refine HS.mono ?_
              rintro e w5 ⟨ro5, rn5, rc5, rfl, P5, b5⟩
              have hrn : rn5 = j := by rw [← P5.len]; exact take_len ps _ (by omega)
              have hrq : ((rn5 : Int) == (j : Int)) = true := by simp; omega
              have HOp := open_bad_any (D4.past b5) H.alive (by omega) hok'
              have B5 := B4.trans (b5.mono B4.size)
              clear hrec hok HS P5 b5 hrn D4 k4 e4 o3 z0 z1 z8 fz
              go_wp2_with fail
              refine HOp.mono ?_
              rintro e w6 ⟨rfl, b6⟩
              go_wp2_with fail
              go_ret
              exact ⟨rfl, B5.trans (b6.mono B5.size)⟩
            · skip
              have HQ := Lib.hid hq
              have HR := Lib.hid hr
              clear hq hr
              go_wp2_with (first
                | (go_at_call 16; (with_reducible refine (within8_any n 3 _ (by omega) (by omega)).mono ?_); rintro e w' ⟨rfl, rfl⟩; rw [HQ.out])
                | (go_at_call 16; (with_reducible refine (within8_any k 3 _ (by omega) (by omega)).mono ?_); rintro e w' ⟨rfl, rfl⟩; rw [HR.out])
                | (at_make; refine wpList_full_ob rfl _ _ 31 rfl 5 byteTy .i64 .i64 _ _ 16 rfl rfl rfl rfl (by omega) ?_; intro w3 o3 b3; have z0 := o3.cell 0 0 rfl; have z1 := o3.cell 1 0 rfl; have z8 := o3.cell 8 0 rfl; have fz := o3.free))
              refine (tamper_hd w3 _ o3 (D.past b3) hSz (by omega) _ _ _ E j ?_ ?_ ?_).mono ?_
              · omega
              · omega
              · omega
              rintro e w4 ⟨S4, rfl, D4, k4, e4⟩
              obtain ⟨hrec, hok⟩ := HRD E j (by omega) (by omega) (by omega) (fun h => absurd h (by omega))
              have hok' := hok.2 ⟨rfl, rfl⟩
              have HS := scan_any D4 H.alive (by omega)
              rw [hrec, decide_eq_true hok', if_neg (by omega)] at HS
              have B4 := hB.trans ((b3.mono (Nat.le_refl _)).mono hB.size) |>.trans (k4.below (Nat.le_trans hB.size b3.size) (fun q h => by
                rcases h with h | h
                · exact hS' q h
                · subst h
                  exact hB.size))
              go_wp2_with fail
              refine HS.mono ?_
              rintro e w5 ⟨ro5, rn5, rc5, rfl, P5, b5⟩
              have hrn : rn5 = j := by rw [← P5.len]; exact take_len ps _ (by omega)
              have hrq : ((rn5 : Int) == (j : Int)) = true := by simp; omega
              have HOp := open_ok_any (D4.past b5) H.alive (by omega) hok'
              have B5 := B4.trans (b5.mono B4.size)
              clear hrec hok HS P5 b5 hrn D4 k4 e4 o3 z0 z1 z8 fz
              go_wp2_with fail
              refine HOp.mono ?_
              rintro e w6 ⟨g6, ro6, rn6, rc6, rfl, L6, P6, b6, q6⟩
              go_wp2_with fail
              go_ret
              exact ⟨rfl, B5.trans (b6.mono B5.size)⟩
            · skip
              have HQ := Lib.hid hq
              have HR := Lib.hid hr
              clear hq hr
              go_wp2_with (first
                | (go_at_call 16; (with_reducible refine (within8_any n 3 _ (by omega) (by omega)).mono ?_); rintro e w' ⟨rfl, rfl⟩; rw [HQ.out])
                | (go_at_call 16; (with_reducible refine (within8_any k 3 _ (by omega) (by omega)).mono ?_); rintro e w' ⟨rfl, rfl⟩; rw [HR.out])
                | (at_make; refine wpList_full_ob rfl _ _ 31 rfl 5 byteTy .i64 .i64 _ _ 16 rfl rfl rfl rfl (by omega) ?_; intro w3 o3 b3; have z0 := o3.cell 0 0 rfl; have z1 := o3.cell 1 0 rfl; have z8 := o3.cell 8 0 rfl; have fz := o3.free))
              refine (tamper_hd w3 _ o3 (D.past b3) hSz (by omega) _ _ _ E (j + 1) ?_ ?_ ?_).mono ?_
              · omega
              · omega
              · omega
              rintro e w4 ⟨S4, rfl, D4, k4, e4⟩
              obtain ⟨hrec, hok⟩ := HRD E (j + 1) (by omega) (by omega) (by omega) (fun h => absurd h (by omega))
              have hok' := fun h => (show False by have := hok.1 h; omega)
              have HS := scan_any D4 H.alive (by omega)
              rw [hrec, decide_eq_false hok', if_neg (by omega)] at HS
              have B4 := hB.trans ((b3.mono (Nat.le_refl _)).mono hB.size) |>.trans (k4.below (Nat.le_trans hB.size b3.size) (fun q h => by
                rcases h with h | h
                · exact hS' q h
                · subst h
                  exact hB.size))
              go_wp2_with fail
              refine HS.mono ?_
              rintro e w5 ⟨ro5, rn5, rc5, rfl, P5, b5⟩
              have hrn : rn5 = j := by rw [← P5.len]; exact take_len ps _ (by omega)
              have hrq : ((rn5 : Int) == (j : Int)) = true := by simp; omega
              have HOp := open_bad_any (D4.past b5) H.alive (by omega) hok'
              have B5 := B4.trans (b5.mono B4.size)
              clear hrec hok HS P5 b5 hrn D4 k4 e4 o3 z0 z1 z8 fz
              go_wp2_with fail
              refine HOp.mono ?_
              rintro e w6 ⟨rfl, b6⟩
              go_wp2_with fail
              go_ret
              exact ⟨rfl, B5.trans (b6.mono B5.size)⟩
          · rcases hr3 with hr | hr | hr
            · skip
              have HQ := Lib.hid hq
              have HR := Lib.hid hr
              clear hq hr
              go_wp2_with (first
                | (go_at_call 16; (with_reducible refine (within8_any n 3 _ (by omega) (by omega)).mono ?_); rintro e w' ⟨rfl, rfl⟩; rw [HQ.out])
                | (go_at_call 16; (with_reducible refine (within8_any k 3 _ (by omega) (by omega)).mono ?_); rintro e w' ⟨rfl, rfl⟩; rw [HR.out])
                | (at_make; refine wpList_full_ob rfl _ _ 31 rfl 5 byteTy .i64 .i64 _ _ 16 rfl rfl rfl rfl (by omega) ?_; intro w3 o3 b3; have z0 := o3.cell 0 0 rfl; have z1 := o3.cell 1 0 rfl; have z8 := o3.cell 8 0 rfl; have fz := o3.free))
              refine (tamper_hd w3 _ o3 (D.past b3) hSz (by omega) _ _ _ (E + 1) (j - 1) ?_ ?_ ?_).mono ?_
              · omega
              · omega
              · omega
              rintro e w4 ⟨S4, rfl, D4, k4, e4⟩
              obtain ⟨hrec, hok⟩ := HRD (E + 1) (j - 1) (by omega) (by omega) (by omega) (fun h => absurd h (by omega))
              have hok' := fun h => (show False by have := hok.1 h; omega)
              have HS := scan_any D4 H.alive (by omega)
              rw [hrec, decide_eq_false hok', if_neg (by omega)] at HS
              have B4 := hB.trans ((b3.mono (Nat.le_refl _)).mono hB.size) |>.trans (k4.below (Nat.le_trans hB.size b3.size) (fun q h => by
                rcases h with h | h
                · exact hS' q h
                · subst h
                  exact hB.size))
              go_wp2_with fail
              refine HS.mono ?_
              rintro e w5 ⟨ro5, rn5, rc5, rfl, P5, b5⟩
              have hrn : rn5 = j := by rw [← P5.len]; exact take_len ps _ (by omega)
              have hrq : ((rn5 : Int) == (j : Int)) = true := by simp; omega
              have HOp := open_bad_any (D4.past b5) H.alive (by omega) hok'
              have B5 := B4.trans (b5.mono B4.size)
              clear hrec hok HS P5 b5 hrn D4 k4 e4 o3 z0 z1 z8 fz
              go_wp2_with fail
              refine HOp.mono ?_
              rintro e w6 ⟨rfl, b6⟩
              go_wp2_with fail
              go_ret
              exact ⟨rfl, B5.trans (b6.mono B5.size)⟩
            · skip
              have HQ := Lib.hid hq
              have HR := Lib.hid hr
              clear hq hr
              go_wp2_with (first
                | (go_at_call 16; (with_reducible refine (within8_any n 3 _ (by omega) (by omega)).mono ?_); rintro e w' ⟨rfl, rfl⟩; rw [HQ.out])
                | (go_at_call 16; (with_reducible refine (within8_any k 3 _ (by omega) (by omega)).mono ?_); rintro e w' ⟨rfl, rfl⟩; rw [HR.out])
                | (at_make; refine wpList_full_ob rfl _ _ 31 rfl 5 byteTy .i64 .i64 _ _ 16 rfl rfl rfl rfl (by omega) ?_; intro w3 o3 b3; have z0 := o3.cell 0 0 rfl; have z1 := o3.cell 1 0 rfl; have z8 := o3.cell 8 0 rfl; have fz := o3.free))
              refine (tamper_hd w3 _ o3 (D.past b3) hSz (by omega) _ _ _ (E + 1) j ?_ ?_ ?_).mono ?_
              · omega
              · omega
              · omega
              rintro e w4 ⟨S4, rfl, D4, k4, e4⟩
              obtain ⟨hrec, hok⟩ := HRD (E + 1) j (by omega) (by omega) (by omega) (fun h => absurd h (by omega))
              have hok' := fun h => (show False by have := hok.1 h; omega)
              have HS := scan_any D4 H.alive (by omega)
              rw [hrec, decide_eq_false hok', if_neg (by omega)] at HS
              have B4 := hB.trans ((b3.mono (Nat.le_refl _)).mono hB.size) |>.trans (k4.below (Nat.le_trans hB.size b3.size) (fun q h => by
                rcases h with h | h
                · exact hS' q h
                · subst h
                  exact hB.size))
              go_wp2_with fail
              refine HS.mono ?_
              rintro e w5 ⟨ro5, rn5, rc5, rfl, P5, b5⟩
              have hrn : rn5 = j := by rw [← P5.len]; exact take_len ps _ (by omega)
              have hrq : ((rn5 : Int) == (j : Int)) = true := by simp; omega
              have HOp := open_bad_any (D4.past b5) H.alive (by omega) hok'
              have B5 := B4.trans (b5.mono B4.size)
              clear hrec hok HS P5 b5 hrn D4 k4 e4 o3 z0 z1 z8 fz
              go_wp2_with fail
              refine HOp.mono ?_
              rintro e w6 ⟨rfl, b6⟩
              go_wp2_with fail
              go_ret
              exact ⟨rfl, B5.trans (b6.mono B5.size)⟩
            · skip
              have HQ := Lib.hid hq
              have HR := Lib.hid hr
              clear hq hr
              go_wp2_with (first
                | (go_at_call 16; (with_reducible refine (within8_any n 3 _ (by omega) (by omega)).mono ?_); rintro e w' ⟨rfl, rfl⟩; rw [HQ.out])
                | (go_at_call 16; (with_reducible refine (within8_any k 3 _ (by omega) (by omega)).mono ?_); rintro e w' ⟨rfl, rfl⟩; rw [HR.out])
                | (at_make; refine wpList_full_ob rfl _ _ 31 rfl 5 byteTy .i64 .i64 _ _ 16 rfl rfl rfl rfl (by omega) ?_; intro w3 o3 b3; have z0 := o3.cell 0 0 rfl; have z1 := o3.cell 1 0 rfl; have z8 := o3.cell 8 0 rfl; have fz := o3.free))
              refine (tamper_hd w3 _ o3 (D.past b3) hSz (by omega) _ _ _ (E + 1) (j + 1) ?_ ?_ ?_).mono ?_
              · omega
              · omega
              · omega
              rintro e w4 ⟨S4, rfl, D4, k4, e4⟩
              obtain ⟨hrec, hok⟩ := HRD (E + 1) (j + 1) (by omega) (by omega) (by omega) (fun h => absurd h (by omega))
              have hok' := fun h => (show False by have := hok.1 h; omega)
              have HS := scan_any D4 H.alive (by omega)
              rw [hrec, decide_eq_false hok', if_neg (by omega)] at HS
              have B4 := hB.trans ((b3.mono (Nat.le_refl _)).mono hB.size) |>.trans (k4.below (Nat.le_trans hB.size b3.size) (fun q h => by
                rcases h with h | h
                · exact hS' q h
                · subst h
                  exact hB.size))
              go_wp2_with fail
              refine HS.mono ?_
              rintro e w5 ⟨ro5, rn5, rc5, rfl, P5, b5⟩
              have hrn : rn5 = j := by rw [← P5.len]; exact take_len ps _ (by omega)
              have hrq : ((rn5 : Int) == (j : Int)) = true := by simp; omega
              have HOp := open_bad_any (D4.past b5) H.alive (by omega) hok'
              have B5 := B4.trans (b5.mono B4.size)
              clear hrec hok HS P5 b5 hrn D4 k4 e4 o3 z0 z1 z8 fz
              go_wp2_with fail
              refine HOp.mono ?_
              rintro e w6 ⟨rfl, b6⟩
              go_wp2_with fail
              go_ret
              exact ⟨rfl, B5.trans (b6.mono B5.size)⟩
end Go.Proofs.Ytpfhggalbdjjmaa
