/-
  The contracts of code.Int, code.Byte, code.Text: each answers new memory: the bytes that were handed in, and behind them what the document says.
-/
import Derived.Test.YtpphlmbhonaglaaLow
namespace Go.Proofs.Ytpphlmbhonaglaa
open Go.RowKit

set_option maxHeartbeats 400000 in
theorem int_any (ao : Option Addr) (n cap : Nat) (l : List UInt8) (x : Int) (w : World) (h : IsB w ao n cap l) (hn : n ≤ 900000) :
    Calls Try.prog 53 #[.slice ao n cap, .int .i64 x] w (Fresh w (n + 8) (l ++ le 8 (XU x))) := by
  go_enter Try.func53, Try.ntmps53
  go_wp2_with (first | (go_at_call 52; refine (longer_any ao n cap l 8 _ h (by omega) (by omega)).mono ?_; rintro e w1 ⟨g1, c1, rfl, h1, hb1, hg1⟩) | (go_at_call 51; refine (low_any g1 n c1 l x 8 _ rfl _ h1 (by omega) (by omega)).mono ?_; rintro e w2 ⟨g2, c2, rfl, h2, hp2, hg2⟩))
  go_ret
  exact ⟨g2, c2, rfl, h2, hb1.trans (hp2.below hg1 hb1.size), by have := hb1.size; omega⟩

set_option maxHeartbeats 400000 in
theorem byte_any (ao : Option Addr) (n cap : Nat) (l : List UInt8) (x : Int) (w : World) (h : IsB w ao n cap l) (hn : n ≤ 900000) :
    Calls Try.prog 25 #[.slice ao n cap, .int .i64 x] w (Fresh w (n + 1) (l ++ le 1 (XU x))) := by
  go_enter Try.func25, Try.ntmps25
  go_wp2_with (first | (go_at_call 52; refine (longer_any ao n cap l 1 _ h (by omega) (by omega)).mono ?_; rintro e w1 ⟨g1, c1, rfl, h1, hb1, hg1⟩) | (go_at_call 51; refine (low_any g1 n c1 l x 1 _ rfl _ h1 (by omega) (by omega)).mono ?_; rintro e w2 ⟨g2, c2, rfl, h2, hp2, hg2⟩))
  go_ret
  exact ⟨g2, c2, rfl, h2, hb1.trans (hp2.below hg1 hb1.size), by have := hb1.size; omega⟩

/-- What stands for a text of the bytes s. -/
def tx (s : List UInt8) : List UInt8 := le 2 (s.take 65535).length ++ s.take 65535

theorem cut_list (s : ByteArray) (k : Nat) : (s.extract 0 k).data.toList = s.data.toList.take k := by
  rw [Lib.extract_data]; simp

set_option maxHeartbeats 400000 in
theorem text_any (ao : Option Addr) (n cap : Nat) (l : List UInt8) (s : ByteArray) (w : World) (h : IsB w ao n cap l) (hn : n ≤ 800000) :
    Calls Try.prog 54 #[.slice ao n cap, .string s] w (Fresh w (n + (tx s.data.toList).length) (l ++ tx s.data.toList)) := by
  obtain ⟨k, e1, e2, hk, h1⟩ : ∃ k : Nat, min (s.size : Int) 65535 = (k : Int) ∧ min k s.size = k ∧ k ≤ 65535 ∧ Hid (tx s.data.toList = le 2 k ++ s.data.toList.take k) := by
    have hl : s.data.toList.length = s.size := by simp
    refine ⟨min s.size 65535, by omega, by omega, by omega, ?_⟩
    have e : s.data.toList.take 65535 = s.data.toList.take (min s.size 65535) := by
      rcases Nat.le_total s.size 65535 with h | h
      · rw [Nat.min_eq_left h, List.take_of_length_le (by omega), List.take_of_length_le (by omega)]
      · rw [Nat.min_eq_right h]
    unfold Hid tx
    rw [e, List.length_take, hl]
    congr 1
    congr 1
    omega
  have hks : Hid ((s.data.toList.take k).length = k) := by
    have hl : s.data.toList.length = s.size := by simp
    unfold Hid
    rw [List.length_take]
    omega
  have hsz : Hid ((tx s.data.toList).length = 2 + k) := by unfold Hid; rw [h1.out, List.length_append, le_length, hks.out]
  have hcut : Hid (byteCells (s.extract 0 k) = bcs (s.data.toList.take k)) := by unfold Hid; rw [byteCells_bcs, cut_list]
  have hsrc : ∀ w', Src Try.prog 1 9 (.string (s.extract 0 k)) k (bcs (s.data.toList.take k)) w' := fun w' => by
    have := Src.ofString (P := Try.prog) w' Try.underlying9 (s.extract 0 k)
    rw [hcut.out] at this
    have e : (s.extract 0 k).size = k := by simpa using e2
    rw [e] at this
    exact this
  have HS := Lib.hid hsrc
  clear hsrc
  go_enter Try.func54, Try.ntmps54
  go_wp2_with (first | (go_at_call 52; refine (longer_any ao n cap l (2 + k) _ h (by omega) (by omega)).mono ?_; rintro e w1 ⟨g1, c1, rfl, h2, hb1, hg1⟩) | (go_at_call 51; refine (low_any g1 n c1 l k 2 _ rfl _ h2 (by omega) (by omega)).mono ?_; rintro e w2 ⟨g2, c2, rfl, h3, hp2, hg2⟩) | (at_builtin; refine wpList_append_ob rfl _ _ 24 9 rfl 5 byteTy g2 (n + 2) c2 _ rfl h3 _ rfl k _ (HS.out _) (n + (2 + k)) (by omega) _ rfl (by omega) ?_; intro g3 c3 w3 h4 hp3 hg3))
  go_ret
  have hx : XU (k : Int) = k := by unfold XU; omega
  rw [hx, List.append_assoc, ← h1.out, ← hsz.out] at h4
  rw [← hsz.out]
  have s1 := hb1.size
  have s2 := hp2.size
  exact ⟨g3, c3, rfl, h4, (hb1.trans (hp2.below hg1 s1)).trans (hp3.below (by omega) (by omega)), by omega⟩
end Go.Proofs.Ytpphlmbhonaglaa
