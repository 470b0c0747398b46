/-
  What the laws of wal stand on: Open and Append of a disk that holds a log; the chapter's example.
-/
import Derived.Test.YtfmbagpgkjlejaaWGrow
namespace Go.Proofs.Ytfmbagpgkjlejaa
open Go.RowKit

theorem pg_newD (n q : Nat) : (newD n).pg q = pad [] := by
  unfold Dk.pg newD
  simp only [List.getD_eq_getElem?_getD, List.getElem?_replicate]
  split <;> rfl
theorem holds_new (n : Nat) : Holds n (newD n) [] :=
  ⟨rfl, by simp [newD], by simp [encR'], by rw [pg_newD]; rfl, by simp [encR']⟩
/-- A log is told, and its records; which disk it is of. -/
def OpenOK (w : World) (d n : Nat) (ps : List (List UInt8)) (en : Ending) (w' : World) : Prop :=
  OpenIs w d (roomN n) ((encR' ps).length : Nat) (ps.length : Nat) ps en w'
/-- One record more. -/
def AppOK (w : World) (g d n : Nat) (S : Nat → Prop) (s : Dk) (ps : List (List UInt8)) (en : Ending) (w' : World) : Prop :=
  ∃ S' s', en = .returned (.int .i64 0) ∧ IsD w' d n S' s' ∧ Kp w w' (fun q => S q ∨ q = g) ∧ Ext w S S' ∧ LogAt w' g d (roomN n) ((encR' ps).length : Nat) (ps.length : Nat) ∧ Holds n s' ps ∧ s'.left ≤ 0 ∧ s.left - 1100 ≤ s'.left ∧ s'.pend = []
section
variable {w : World} {g d n m c : Nat} {ao : Option Addr} {b : List UInt8} {S : Nat → Prop} {s : Dk} {ps : List (List UInt8)}
theorem open_holds (h : IsD w d n S s) (hn2 : 2 ≤ n) (H : Holds n s ps) : Calls Try.prog 15 #[.pointer (some ⟨d, 0, none⟩)] w (OpenOK w d n ps) := by
  have hs := h.small
  have := open_ok_any h H.alive hn2 (H.ok hs)
  rw [H.hdN hs, H.recL hs] at this
  exact this
theorem append_holds (L : LogAt w g d (roomN n) ((encR' ps).length : Nat) (ps.length : Nat)) (hb : IsB w ao m c b) (hm : m ≤ 65536) (hroom : (encR' ps).length + (8 + m) ≤ 64 * (n - 1)) (hD : IsD w d n S s) (hn2 : 2 ≤ n) (hgS : ¬ S g)
    (H : Holds n s ps) (hq : s.left ≤ 0 ∧ -300000 ≤ s.left) (hp : s.pend.length ≤ 40000) : Calls Try.prog 16 #[.pointer (some ⟨g, 0, none⟩), .slice ao m c] w (AppOK w g d n S s (ps ++ [b])) := by
  have hs := hD.small
  have hl := hb.len
  have hE := (encR'_len ps).1
  have h := append_any (encR' ps).length ps.length L (by omega) hb hm (by omega) hD hn2 hgS H.alive (by omega) hp
  have hN : chN (apX s (encR' ps).length b).length ≤ 1030 := by
    unfold apX chN
    rw [List.length_append, List.length_take, pg_length, List.length_append, le_length, hl]
    omega
  have hw : ¬ (1 ≤ s.left ∧ s.left ≤ chN (apX s (encR' ps).length b).length) := by omega
  have HG := H.grow hn2 b (by omega) (by omega) hw (by omega)
  have hrun : apRun s (apP (encR' ps).length) (apX s (encR' ps).length b) (apHd (encR' ps).length ps.length b) = (apS s (apP (encR' ps).length) (apX s (encR' ps).length b) (apHd (encR' ps).length ps.length b) 4, 0) := by
    rw [apRun, if_neg hw, if_neg (by omega), if_neg (by omega), if_neg (by omega)]
  rw [hrun] at h
  have hlen : (encR' (ps ++ [b])).length = (encR' ps).length + (8 + m) := by
    rw [encR'_append, List.length_append, encR'_cons, encR'_nil, List.length_append, le_length, List.append_nil, hl]
  have hwl := wrF_left s (apX s (encR' ps).length b) (apP (encR' ps).length) (List.range (chN (apX s (encR' ps).length b).length)) (by rw [List.length_range]; exact hw)
  rw [List.length_range] at hwl
  generalize hX : apX s (encR' ps).length b = X at hwl HG h hN
  generalize apHd (encR' ps).length ps.length b = HD at HG h
  have e1 : (apS s (apP (encR' ps).length) X HD 1).left = s.left - chN X.length := hwl.1
  have e2 : ((apS s (apP (encR' ps).length) X HD 2).put 0 HD).left ≠ 1 := by show (apS s (apP (encR' ps).length) X HD 1).left - 1 ≠ 1; rw [e1]; omega
  have e4 : (apS s (apP (encR' ps).length) X HD 4).left = s.left - chN X.length - 3 := by
    show ((apS s (apP (encR' ps).length) X HD 2).put 0 HD).spent.left - 1 = _
    rw [spent_more e2]
    show (apS s (apP (encR' ps).length) X HD 1).left - 1 - 1 - 1 = _
    rw [e1]
    omega
  refine h.mono ?_
  rintro en w' ⟨S', rfl, D', k', e', L'⟩
  refine ⟨S', _, rfl, D', k', e', ?_, HG, by rw [e4]; omega, by rw [e4]; omega, rfl⟩
  rw [if_pos rfl, if_pos rfl] at L'
  rw [hlen, List.length_append, List.length_cons, List.length_nil]
  exact L'
end
end Go.Proofs.Ytfmbagpgkjlejaa
