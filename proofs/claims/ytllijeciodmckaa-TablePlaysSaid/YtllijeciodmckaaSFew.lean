/-
  schema's law's Few; schema.Find.
-/
import Derived.Test.YtllijeciodmckaaSGood
namespace Go.Proofs.Ytllijeciodmckaa
open Go.RowKit

def fewS (l : List UInt8) (cs : List Co) : Bool := cs.all (fun c => decide (c.name.length ≤ 30)) && decide (cs.length ≤ 9) && decide (l.length ≤ 30)
set_option maxRecDepth 100000 in
set_option maxHeartbeats 1000000 in
theorem few9_any (w : World) (l : List UInt8) (ao : Option Addr) (n c : Nat) (cs : List Co) (key : Int) (only : Bool) (h : IsR encCo w ao n c cs) :
    Calls Try.prog 15 #[scV l ao n c key only] w fun e w' => e = .returned (.bool (fewS l cs)) ∧ Below w.heap.size w w' := by
  have hln := h.len
  have hmx := h.max
  have hle := h.le
  unfold maxLen at hmx
  unfold scV
  have X := ScB.new w l ao n c key only
  have B := (Below.refl w.heap.size w).alloc (Nat.le_refl _) (.cells #[.string (bsOf l), .slice ao n c, .int .i64 key, .bool only] 40)
  go_enter Try.func15, Try.ntmps15
  go_upto_region 1 with fail
  generalize w.alloc (.cells #[.string (bsOf l), .slice ao n c, .int .i64 key, .bool only] 40) = w1 at X B ⊢
  obtain ⟨p, hp⟩ : ∃ p, w.heap.size = p := ⟨_, rfl⟩
  rw [hp] at X
  simp only [hp]
  have HP := Lib.hid hp
  clear hp
  have y1 : w1.cell? ⟨p, 1, none⟩ = some (.slice ao n c) := cell_blk X rfl
  have y0 : w1.cell? ⟨p, 0, none⟩ = some (.string (bsOf l)) := cell_blk X rfl
  go_wp2_with fail
  go_loopw [3] (fun i wr => ∃ j : Nat, j ≤ n ∧ i = .int .i64 (j : Nat) ∧ w1 = wr ∧ Hid ((cs.take j).all (fun c => decide (c.name.length ≤ 30)) = true)) (fun i _ => n - (intOf i).toNat)
  case atStart => exact ⟨0, by omega, rfl, rfl, rfl⟩
  case round =>
    obtain ⟨j, hj, rfl, rfl, hall⟩ := hrel
    by_cases hlt : j < n
    · have hlti : (j : Int) < (n : Int) := by omega
      obtain ⟨v, hv⟩ : ∃ v, cs[j]? = some v := ⟨cs[j]'(by omega), List.getElem?_eq_getElem _⟩
      obtain ⟨b, off, rfl, hb, hc⟩ := h.open (by omega) (by decide)
      obtain ⟨c0, -, -⟩ := cells_co hc j v hv
      rw [← B.cell hb] at c0
      have hsz := bsOf_size v.name
      have hnext : Hid (v.name.length ≤ 30 → (cs.take (j + 1)).all (fun c => decide (c.name.length ≤ 30)) = true) := fun h30 => by
        have hjl : j < cs.length := by omega
        rw [List.take_add_one, hv, List.all_append, hall.out]
        simp [h30]
      have hstop : Hid (¬ v.name.length ≤ 30 → fewS l cs = false) := fun h30 => by
        have : cs.all (fun c => decide (c.name.length ≤ 30)) = false := by
          rw [List.all_eq_false]
          exact ⟨v, List.mem_of_getElem? hv, by simpa using h30⟩
        unfold fewS
        rw [this]
        rfl
      obtain ⟨vn, vk, vb⟩ := v
      simp only at c0 hsz hnext hstop
      have HSZ := Lib.hid hsz
      by_cases h30 : (30 : Int) < ((bsOf vn).size : Int)
      · have hr := hstop.out (by have := HSZ.out; omega)
        have HR := Lib.hid hr
        clear hsz hr hc hv
        go_wp2_with fail
        go_ret
        rw [HP.out] at B
        exact ⟨by rw [HR.out]; rfl, by rw [HP.out]; exact B⟩
      · have hr := hnext.out (by have := HSZ.out; omega)
        have HR := Lib.hid hr
        clear hsz hr hc hv
        go_wp2_with fail
        go_roundw
        case rel => exact ⟨j + 1, by omega, by go_num, trivial, HR.out⟩
        case measure => simp [intOf]; omega
    · have hlti : ¬ ((j : Int) < (n : Int)) := by omega
      obtain rfl : j = n := by omega
      rw [List.take_of_length_le (by omega)] at hall
      have hsz := Lib.hid (bsOf_size l)
      by_cases h9 : j ≤ 9
      · have h9i : (j : Int) ≤ 9 := by omega
        obtain ⟨x, hx⟩ : ∃ x, decide (((bsOf l).size : Int) ≤ 30) = x := ⟨_, rfl⟩
        have hf : Hid (fewS l cs = x) := by
          show _ = _
          unfold fewS
          rw [hall.out, decide_eq_true (show cs.length ≤ 9 by omega), ← hx, hsz.out]
          simp
          omega
        go_wp2_with fail
        go_ret
        exact ⟨by rw [hf.out, ← hx]; rfl, by rw [HP.out]; rw [HP.out] at B; exact B⟩
      · have h9i : ¬ ((j : Int) ≤ 9) := by omega
        have hf : Hid (fewS l cs = false) := by
          show _ = _
          unfold fewS
          rw [decide_eq_false (show ¬ cs.length ≤ 9 by omega)]
          simp
        go_wp2_with fail
        go_ret
        exact ⟨by rw [hf.out]; rfl, by rw [HP.out]; rw [HP.out] at B; exact B⟩
/-- The first column of a name. -/
def findN : List (List UInt8) → List UInt8 → Option Nat
  | [], _ => none
  | c :: r, nm => if c = nm then some 0 else (findN r nm).map (· + 1)
def findI (cs : List Co) (nm : List UInt8) : Nat := ((findN (cs.map Co.name) nm).getD 0)
def findB (cs : List Co) (nm : List UInt8) : Bool := (findN (cs.map Co.name) nm).isSome
theorem bsOf_inj {a b : List UInt8} (h : bsOf a = bsOf b) : a = b := by
  have := congrArg (fun s : ByteArray => s.data.toList) h
  simpa [bsOf] using this
end Go.Proofs.Ytllijeciodmckaa
