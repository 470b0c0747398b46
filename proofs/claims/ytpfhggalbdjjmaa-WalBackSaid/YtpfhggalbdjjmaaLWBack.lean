/-
  WalBack, walked.
-/
import Derived.Test.YtpfhggalbdjjmaaRows8
import Derived.Test.YtpfhggalbdjjmaaOpenBo
namespace Go.Proofs.Ytpfhggalbdjjmaa
open Go.RowKit

theorem encR'_up : ∀ ps : List (List UInt8), (∀ p ∈ ps, p.length ≤ 150) → (encR' ps).length ≤ 158 * ps.length
  | [], _ => by simp [encR']
  | p :: ps, h => by
    have h1 := encR'_up ps fun q hq => h q (by simp [hq])
    have h2 := h p (by simp)
    rw [encR'_cons, List.length_append, le_length, List.length_append, List.length_cons]
    omega
theorem take_snoc (ps : List (List UInt8)) (j : Nat) (h : j < ps.length) : ps.take j ++ [ps.getD j []] = ps.take (j + 1) := by
  rw [List.take_add_one, List.getElem?_eq_getElem h]
  simp [List.getD, h]
theorem take_len (ps : List (List UInt8)) (j : Nat) (h : j ≤ ps.length) : (ps.take j).length = j := by rw [List.length_take]; omega

set_option maxRecDepth 100000 in
set_option maxHeartbeats 2000000 in
theorem walBack_walk (ao : Option Addr) (m c : Nat) (ps : List (List UInt8)) (ao2 : Option Addr) (m2 c2 : Nat) (bs : List Bool) (w : World) (hI : IsP w ao m ps) (hmc : m ≤ c) (_hc : c ≤ maxLen) (hE : IsR EBo w ao2 m2 c2 bs) :
    Calls Try.prog 5 #[.slice ao m c, .slice ao2 m2 c2] w (Told w true) := by
  have hpl := hI.len
  go_enter Try.func5, Try.ntmps5
  go_wp2_with fail
  refine (known8 w).mono ?_
  rintro e w0 ⟨rfl, b0⟩
  go_wp2_with fail
  refine (new_is 60 w0 (by omega) (by omega)).mono ?_
  rintro e w1 ⟨d, S, rfl, D1, b1, q1⟩
  have HO := open_holds D1 (by omega) (holds_new 60)
  go_wp2_with fail
  refine HO.mono ?_
  rintro e w2 ⟨g, ro, rn, rc, rfl, L2, P2, b2, q2⟩
  have D2 := D1.past b2
  have hgS : ¬ S g := fun q => by have := D1.lt _ q; omega
  have hw0 := b0.size
  have hw1 := Nat.le_trans b0.size b1.size
  have B2 := b0.trans (b1.mono b0.size) |>.trans (b2.mono (Nat.le_trans b0.size b1.size))
  have hwS : ∀ q, S q → w.heap.size ≤ q := fun q h => Nat.le_trans hw0 (q1 q h)
  have hgw : w.heap.size ≤ g := Nat.le_trans hw1 q2
  clear P2 HO D1 b0 b1 b2
  go_wp2_with fail
  go_loopw [7, 10, 11] (fun a nn i wr => ∃ (j : Nat) (S' : Nat → Prop) (s : Dk) (gl : Nat), j ≤ 20 ∧ j ≤ m ∧ (∀ p ∈ ps.take j, p.length ≤ 150) ∧ i = .int .i64 (j : Nat) ∧ nn = .int .i64 (j : Nat) ∧ a = .pointer (some ⟨gl, 0, none⟩) ∧
    IsD wr d 60 S' s ∧ Holds 60 s (ps.take j) ∧ LogAt wr gl d (roomN 60) ((encR' (ps.take j)).length : Nat) ((ps.take j).length : Nat) ∧ s.left ≤ 0 ∧ -1100 * (j : Int) ≤ s.left ∧ s.pend = [] ∧ Below w.heap.size w wr ∧ (∀ q, S' q → w.heap.size ≤ q) ∧ ¬ S' gl ∧ w.heap.size ≤ gl) (fun _ _ i _ => 20 - (intOf i).toNat)
  case atStart => exact ⟨0, S, newD 60, g, by omega, by omega, by simp, rfl, rfl, rfl, D2, holds_new 60, L2, by simp [newD], by simp [newD], rfl, B2, hwS, hgS, hgw⟩
  case round =>
    obtain ⟨j, S', s, gl, hj, hjm, hsm, rfl, rfl, rfl, D, H, L, hl, hlo, hpd, hB, hS', hg', hgl⟩ := hrel
    clear D2 L2
    have hup := encR'_up _ hsm
    rw [take_len ps j (by omega)] at hup
    by_cases hlt : j < m ∧ j < 20
    · obtain ⟨h1, h2⟩ := hlt
      have h1i : (j : Int) < (m : Int) := by omega
      have h2i : (j : Int) < 20 := by omega
      obtain ⟨b, off, rfl, hat⟩ := hI.open (by omega)
      obtain ⟨bo, bn, bc, hcj, hbj⟩ := hat j h1
      have hcw : wr.cell? ⟨b, off + j, none⟩ = some (.slice bo bn bc) := by rw [hB.cell (World.block_lt_of_cell? w _ hcj)]; exact hcj
      have hbw := hbj.past hB
      have hbl := hbj.len
      clear hat hcj
      by_cases h150 : 150 < bn
      · have h150i : (150 : Int) < (bn : Int) := by omega
        go_wp2_with fail
        go_ret
        exact ⟨rfl, hB⟩
      · have h150i : ¬ ((150 : Int) < (bn : Int)) := by omega
        have hsn := take_snoc ps j (by omega)
        have HA := append_holds L hbw (by omega) (by omega) D (by omega) hg' H ⟨hl, by omega⟩ (by rw [hpd]; exact Nat.zero_le _)
        rw [hsn] at HA
        have hsm' : ∀ p ∈ ps.take (j + 1), p.length ≤ 150 := by
          rw [← hsn]
          intro p hp
          rcases List.mem_append.1 hp with h | h
          · exact hsm p h
          · rw [List.mem_singleton.1 h]; omega
        have HSM := Lib.hid hsm'
        clear hsn hsm'
        go_wp2_with fail
        refine HA.mono ?_
        rintro e w4 ⟨S4, s4, rfl, D4, k4, e4, L4, H4, hl4, hlo4, hpd4⟩
        have b4 : Below w.heap.size w w4 := hB.trans (k4.below hB.size (fun q h => by
          rcases h with h | h
          · exact hS' q h
          · subst h
            exact hgl))
        have hS4 : ∀ q, S4 q → w.heap.size ≤ q := fun q h => by
          rcases e4 q h with h | h
          · exact hS' q h
          · exact Nat.le_trans hB.size h
        have hg4 : ¬ S4 gl := fun h => by
          rcases e4 gl h with h | h
          · exact hg' h
          · have := L.lt; omega
        have hgl4 := L.lt
        clear D L H HA hcw hbw k4 e4 hgl4
        by_cases h3 : j < m2
        · have h3i : (j : Int) < (m2 : Int) := by omega
          obtain ⟨b2, off2, rfl, _, hcell⟩ := hE.open (by omega) (by decide)
          obtain ⟨x, hx⟩ : ∃ x, bs[j]? = some x := ⟨bs[j]'(by have := hE.len; omega), List.getElem?_eq_getElem _⟩
          have hcj := hcell j (.bool x) (by rw [EBo_all, List.getElem?_map, hx]; rfl)
          have hcx : w4.cell? ⟨b2, off2 + j, none⟩ = some (.bool x) := by rw [b4.cell (World.block_lt_of_cell? w _ hcj)]; exact hcj
          clear hcell hx hcj
          cases x with
          | false =>
            go_wp2_with fail
            go_roundw
            case rel => exact ⟨j + 1, S4, s4, gl, by omega, by omega, HSM.out, by go_num, by go_num, rfl, D4, H4, L4, hl4, by omega, hpd4, b4, hS4, hg4, hgl⟩
            case measure => simp [intOf]; omega
          | true =>
            have HO := open_holds D4 (by omega) H4
            go_wp2_with fail
            refine HO.mono ?_
            rintro e w5 ⟨g5, ro5, rn5, rc5, rfl, L5, P5, b5, q5⟩
            obtain rfl : rn5 = j + 1 := by rw [← P5.len, take_len ps (j + 1) (by omega)]
            have B5 := b4.trans (b5.mono b4.size)
            obtain ⟨a3, hs3', I3⟩ := IsP_head (hI.past B5) hmc (j + 1) (by omega) (by omega)
            have hs3 : ∀ w' : World, (Instr.slice 22 (.slice (some ⟨b, off, none⟩) m c) none (some (.int .i64 ((j : Int) + 1))) none).run Try.prog w' = .ok (.slice a3 (j + 1) c) w' := hs3'
            clear hs3'
            have HR := fun ca cb => rows_eq w5 ro5 a3 (j + 1) ca cb _ P5.isP I3 (by omega)
            have D5 := D4.past b5
            have hg5 : ¬ S4 g5 := fun q => by have := D4.lt _ q; omega
            have hgl5 : w.heap.size ≤ g5 := Nat.le_trans b4.size q5
            clear P5 I3 HO b5 D4 L4 b4
            go_wp2_with fail
            refine (HR _ _).mono ?_
            rintro e w6 ⟨rfl, b6⟩
            go_wp2_with fail
            go_roundw
            case rel => exact ⟨j + 1, S4, s4, g5, by omega, by omega, HSM.out, by go_num, by go_num, rfl, D5.past b6, H4, L5.past b6, hl4, by omega, hpd4, B5.trans (b6.mono B5.size), hS4, hg5, hgl5⟩
            case measure => simp [intOf]; omega
        · have h3i : ¬ ((j : Int) < (m2 : Int)) := by omega
          go_wp2_with fail
          go_roundw
          case rel => exact ⟨j + 1, S4, s4, gl, by omega, by omega, HSM.out, by go_num, by go_num, rfl, D4, H4, L4, hl4, by omega, hpd4, b4, hS4, hg4, hgl⟩
          case measure => simp [intOf]; omega
    · have hend : ¬ ((j : Int) < (m : Int)) ∨ ¬ ((j : Int) < 20) := by omega
      have hs := D.small
      have HS := scan_any D H.alive (by omega)
      rw [H.recL hs, decide_eq_true (H.ok hs)] at HS
      have key : ∀ w5 ro5 rn5 rc5, Recs w5 wr.heap.size ro5 rn5 rc5 (ps.take j) → Below wr.heap.size wr w5 → ∃ a3, (∀ w' : World, (Instr.slice 22 (.slice ao m c) none (some (.int .i64 j)) none).run Try.prog w' = .ok (.slice a3 j c) w') ∧ rn5 = j ∧
          (∀ ca cb, Calls Try.prog 19 #[.slice ro5 j ca, .slice a3 j cb] w5 (Told w5 true)) ∧ LogAt w5 gl d (roomN 60) ((encR' (ps.take j)).length : Nat) (j : Nat) ∧ Below w.heap.size w w5 := by
        intro w5 ro5 rn5 rc5 P5 b5
        obtain rfl : rn5 = j := by rw [← P5.len, take_len ps j (by omega)]
        have B5 := hB.trans (b5.mono hB.size)
        obtain ⟨a3, hs3, I3⟩ := IsP_head (hI.past B5) hmc rn5 (by omega) (by omega)
        refine ⟨a3, hs3, rfl, fun ca cb => rows_eq w5 ro5 a3 rn5 ca cb _ P5.isP I3 (by omega), ?_, B5⟩
        have := L.past b5
        rwa [take_len ps rn5 (by omega)] at this
      clear D L H hs hS' hg' hsm
      by_cases h1 : j < m
      · have h1i : (j : Int) < (m : Int) := by omega
        have h2i : ¬ ((j : Int) < 20) := by omega
        clear hend
        go_wp2_with fail
        refine HS.mono ?_
        rintro e w5 ⟨ro5, rn5, rc5, rfl, P5, b5⟩
        obtain ⟨a3, hs3, rfl, HR, L5, B5⟩ := key w5 ro5 rn5 rc5 P5 b5
        clear key P5 b5
        go_wp2_with fail
        refine (HR _ _).mono ?_
        rintro e w6 ⟨rfl, b6⟩
        have hcnt := count_any w6 gl d _ _ _ (L5.past b6) (by omega)
        go_wp2_with (go_at_call 17; refine hcnt.mono ?_; rintro e w' ⟨rfl, rfl⟩)
        go_ret
        exact ⟨rfl, B5.trans (b6.mono B5.size)⟩
      · have h1i : ¬ ((j : Int) < (m : Int)) := by omega
        clear hend
        go_wp2_with fail
        refine HS.mono ?_
        rintro e w5 ⟨ro5, rn5, rc5, rfl, P5, b5⟩
        obtain ⟨a3, hs3, rfl, HR, L5, B5⟩ := key w5 ro5 rn5 rc5 P5 b5
        clear key P5 b5
        go_wp2_with fail
        refine (HR _ _).mono ?_
        rintro e w6 ⟨rfl, b6⟩
        have hcnt := count_any w6 gl d _ _ _ (L5.past b6) (by omega)
        go_wp2_with (go_at_call 17; refine hcnt.mono ?_; rintro e w' ⟨rfl, rfl⟩)
        go_ret
        exact ⟨rfl, B5.trans (b6.mono B5.size)⟩
end Go.Proofs.Ytpfhggalbdjjmaa
