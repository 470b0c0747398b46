/-
  What a disk's methods do, its blocks told by a set alone.
-/
import Derived.Test.YtpfhggalbdjjmaaDTamper
namespace Go.Proofs.Ytpfhggalbdjjmaa
open Go.RowKit

section
variable {w : World} {d n : Nat} {S : Nat → Prop} {s : Dk}
theorem new_is (n : Nat) (w : World) (h2 : 2 ≤ n) (hn : n ≤ 4096) :
    Calls Try.prog 8 #[.int .i64 n] w fun e w' => ∃ d S, e = .returned (.tuple #[.pointer (some ⟨d, 0, none⟩), .int .i64 0]) ∧ IsD w' d n S (newD n) ∧ Below w.heap.size w w' ∧ ∀ k, S k → w.heap.size ≤ k := by
  refine (newD_any n w h2 hn).mono ?_
  rintro e w' ⟨d, L, K, rfl, h, b, hL, hK⟩
  refine ⟨d, ownD d L K none, rfl, ⟨L, K, none, 0, 0, h, fun k => Iff.rfl⟩, b, ?_⟩
  rintro k (rfl | rfl | rfl | hk)
  · have := h.Ld; omega
  · exact hL
  · exact hK
  · cases hk
theorem dead_is (h : IsD w d n S s) : Calls Try.prog 22 #[.pointer (some ⟨d, 0, none⟩)] w fun e w' => e = .returned (.bool s.gone) ∧ w = w' := by
  obtain ⟨L, K, ao, m, c, h, hS⟩ := h
  exact dead_at h
theorem pages_is (h : IsD w d n S s) : Calls Try.prog 49 #[.pointer (some ⟨d, 0, none⟩)] w fun e w' => e = .returned (.int .i64 n) ∧ w = w' := by
  obtain ⟨L, K, ao, m, c, h, hS⟩ := h
  exact pages_at h
theorem read_is (h : IsD w d n S s) (hg : s.gone = false) (p : Nat) (hp : p < n) : Calls Try.prog 47 #[.pointer (some ⟨d, 0, none⟩), .int .i64 p] w (ReadIs w (s.pg p)) := by
  obtain ⟨L, K, ao, m, c, h, hS⟩ := h
  exact read_at h hg p hp
theorem write_is (h : IsD w d n S s) (hg : s.gone = false) (hr : Room s) (hm : s.pend.length ≤ 100000) (p : Nat) (hp : p < n) (bo : Option Addr) (bn bc' : Nat) (b : List UInt8) (hb : IsB w bo bn bc' b) (hbn : bn ≤ 64) :
    Calls Try.prog 10 #[.pointer (some ⟨d, 0, none⟩), .int .i64 p, .slice bo bn bc'] w fun e w' => ∃ S', e = .returned (.int .i64 s.code) ∧ IsD w' d n S' (s.put p b).spent ∧ Kp w w' S ∧ Ext w S S' := by
  obtain ⟨L, K, ao, m, c, h, hS⟩ := h
  refine (write_at h hg hr (by rw [← h.pend.len]; exact hm) p hp bo bn bc' b hb hbn).mono ?_
  rintro e w' ⟨ao', m', c', rfl, h', k, x⟩
  refine ⟨ownD d L K ao', rfl, ⟨L, K, ao', m', c', h', fun k => Iff.rfl⟩, k.mono fun k _ hk => (hS k).2 hk, fun k hk => ?_⟩
  rcases x k hk with h1 | h1
  · exact .inl ((hS k).2 h1)
  · exact .inr h1
theorem write_dead_is (h : IsD w d n S s) (hg : s.gone = true) (p : Int) (bo : Option Addr) (bn bc' : Nat) :
    Calls Try.prog 10 #[.pointer (some ⟨d, 0, none⟩), .int .i64 p, .slice bo bn bc'] w fun e w' => e = .returned (.int .i64 15) ∧ w = w' := by
  obtain ⟨L, K, ao, m, c, h, hS⟩ := h
  exact write_dead h hg p bo bn bc'
theorem write_none_is (h : IsD w d n S s) (hg : s.gone = false) (p : Int) (hp : p < 0 ∨ (n : Int) ≤ p) (bo : Option Addr) (bn bc' : Nat) :
    Calls Try.prog 10 #[.pointer (some ⟨d, 0, none⟩), .int .i64 p, .slice bo bn bc'] w fun e w' => e = .returned (.int .i64 1) ∧ w = w' := by
  obtain ⟨L, K, ao, m, c, h, hS⟩ := h
  exact write_none h hg p hp bo bn bc'
/-- The blocks of a disk without Writes that are not synced. -/
theorem own_none {w' : World} {d L K n : Nat} {ao : Option Addr} {s' : Dk} (hS : ∀ k, S k ↔ ownD d L K ao k) (h : DkAt w' d L K n none 0 0 s') (k : Kp w w' (ownD d L K ao)) : ∃ S', IsD w' d n S' s' ∧ Kp w w' S ∧ Ext w S S' := by
  refine ⟨ownD d L K none, ⟨L, K, none, 0, 0, h, fun k => Iff.rfl⟩, k.mono fun k _ hk => (hS k).2 hk, ?_⟩
  rintro k (rfl | rfl | rfl | hk)
  · exact .inl ((hS _).2 (.inl rfl))
  · exact .inl ((hS _).2 (.inr (.inl rfl)))
  · exact .inl ((hS _).2 (.inr (.inr (.inl rfl))))
  · cases hk
theorem sync_is (h : IsD w d n S s) (hg : s.gone = false) (hr : Room s) (hl : s.left ≠ 1) (hm : s.pend.length ≤ 1000000) :
    Calls Try.prog 34 #[.pointer (some ⟨d, 0, none⟩)] w fun e w' => ∃ S', e = .returned (.int .i64 0) ∧ IsD w' d n S' s.sync ∧ Kp w w' S ∧ Ext w S S' := by
  obtain ⟨L, K, ao, m, c, h, hS⟩ := h
  refine (sync_ok h hg hr hl (by rw [← h.pend.len]; exact hm)).mono ?_
  rintro e w' ⟨rfl, h', k⟩
  obtain ⟨S', h1⟩ := own_none hS h' k
  exact ⟨S', rfl, h1⟩
theorem sync_last_is (h : IsD w d n S s) (hg : s.gone = false) (hl : s.left = 1) :
    Calls Try.prog 34 #[.pointer (some ⟨d, 0, none⟩)] w fun e w' => ∃ S', e = .returned (.int .i64 15) ∧ IsD w' d n S' { s with left := 0, gone := true } ∧ Kp w w' S ∧ Ext w S S' := by
  obtain ⟨L, K, ao, m, c, h, hS⟩ := h
  refine (sync_last h hg hl).mono ?_
  rintro e w' ⟨rfl, h', g⟩
  exact ⟨S, rfl, ⟨L, K, ao, m, c, h', hS⟩, Kp.ofGrown g (fun z e => by cases e; exact (hS _).2 (.inl rfl)), Ext.refl _ _⟩
theorem sync_dead_is (h : IsD w d n S s) (hg : s.gone = true) : Calls Try.prog 34 #[.pointer (some ⟨d, 0, none⟩)] w fun e w' => e = .returned (.int .i64 15) ∧ w = w' := by
  obtain ⟨L, K, ao, m, c, h, hS⟩ := h
  exact sync_dead h hg
theorem stop_is (h : IsD w d n S s) (x : Int) : Calls Try.prog 15 #[.pointer (some ⟨d, 0, none⟩), .int .i64 x] w fun e w' => ∃ S', e = .returned (.tuple #[]) ∧ IsD w' d n S' { s with left := max x 0 } ∧ Kp w w' S ∧ Ext w S S' := by
  obtain ⟨L, K, ao, m, c, h, hS⟩ := h
  refine (stopD_at h x).mono ?_
  rintro e w' ⟨rfl, h', g⟩
  exact ⟨S, rfl, ⟨L, K, ao, m, c, h', hS⟩, Kp.ofGrown g (fun z e => by cases e; exact (hS _).2 (.inl rfl)), Ext.refl _ _⟩
theorem crash_is (h : IsD w d n S s) (hm : s.pend.length ≤ 1000000) (po : Option Addr) (pn pc : Nat) (ps : List Int) (hP : IsR EI w po pn pc ps) (hF : Far S po) :
    Calls Try.prog 18 #[.pointer (some ⟨d, 0, none⟩), .slice po pn pc] w fun e w' => ∃ S', e = .returned (.tuple #[]) ∧ IsD w' d n S' (s.crash ps) ∧ Kp w w' S ∧ Ext w S S' := by
  obtain ⟨L, K, ao, m, c, h, hS⟩ := h
  refine (crash_at h (by rw [← h.pend.len]; exact hm) po pn pc ps hP (fun _ a ha q => hF a ha ((hS _).2 q))).mono ?_
  rintro e w' ⟨rfl, h', k⟩
  obtain ⟨S', h1⟩ := own_none hS h' k
  exact ⟨S', rfl, h1⟩
/-- The same, the picks handed in: they lie where they lie, if there are any. -/
theorem crash_in (h : IsD w d n S s) (hm : s.pend.length ≤ 1000000) (po : Option Addr) (pn pc : Nat) (ps : List Int) (hP : IsR EI w po pn pc ps) (hF : 0 < pn → Far S po) :
    Calls Try.prog 18 #[.pointer (some ⟨d, 0, none⟩), .slice po pn pc] w fun e w' => ∃ S', e = .returned (.tuple #[]) ∧ IsD w' d n S' (s.crash ps) ∧ Kp w w' S ∧ Ext w S S' := by
  obtain ⟨L, K, ao, m, c, h, hS⟩ := h
  refine (crash_at h (by rw [← h.pend.len]; exact hm) po pn pc ps hP (fun h0 a ha q => hF h0 a ha ((hS _).2 q))).mono ?_
  rintro e w' ⟨rfl, h', k⟩
  obtain ⟨S', h1⟩ := own_none hS h' k
  exact ⟨S', rfl, h1⟩
theorem tamper_is (h : IsD w d n S s) (p i : Nat) (hp : p < n) (bo : Option Addr) (bn bc' : Nat) (b : List UInt8) (hb : IsB w bo bn bc' b) (hF : Far S bo) (hi : i < 64) (hbn : i + bn ≤ 64) :
    Calls Try.prog 21 #[.pointer (some ⟨d, 0, none⟩), .int .i64 p, .int .i64 i, .slice bo bn bc'] w fun e w' => ∃ S', e = .returned (.bool true) ∧ IsD w' d n S' (s.tamper p i b) ∧ Kp w w' S ∧ Ext w S S' := by
  obtain ⟨L, K, ao, m, c, h, hS⟩ := h
  refine (tamper_yes h p i hp bo bn bc' b hb (fun a ha q => hF a ha ((hS _).2 q)) hi hbn).mono ?_
  rintro e w' ⟨rfl, h', k⟩
  exact ⟨S, rfl, ⟨L, K, ao, m, c, h', hS⟩, k.mono fun k _ hk => (hS k).2 hk, Ext.refl _ _⟩
theorem tamper_none_is (h : IsD w d n S s) (p i : Int) (hp : p < 0 ∨ (n : Int) ≤ p) (bo : Option Addr) (bn bc' : Nat) :
    Calls Try.prog 21 #[.pointer (some ⟨d, 0, none⟩), .int .i64 p, .int .i64 i, .slice bo bn bc'] w fun e w' => e = .returned (.bool false) ∧ w = w' := by
  obtain ⟨L, K, ao, m, c, h, hS⟩ := h
  exact tamper_none h p i hp bo bn bc'
theorem tamper_out_is (h : IsD w d n S s) (p : Nat) (i : Int) (hp : p < n) (bo : Option Addr) (bn bc' : Nat) (hbn : bn ≤ 1000000) (hi : i < 0 ∨ 64 - (bn : Int) < i) :
    Calls Try.prog 21 #[.pointer (some ⟨d, 0, none⟩), .int .i64 p, .int .i64 i, .slice bo bn bc'] w fun e w' => e = .returned (.bool false) ∧ w = w' := by
  obtain ⟨L, K, ao, m, c, h, hS⟩ := h
  exact tamper_out h p i hp bo bn bc' hbn hi
end
/-- The count of small disks. -/
theorem room_of {s : Dk} (h0 : -1000000 ≤ s.left) (h1 : s.left ≤ 1000000) : Room s := by
  unfold Room
  rw [IntKind.wrap_i64]
  omega
/-- One byte of a row of the call's own is written. -/
theorem OwnB.set {w : World} {e : TypeId} {g n c : Nat} {l : List UInt8} (h : OwnB w e g n c l) (j : Nat) (u : UInt8) : OwnB (w.setCell ⟨g, j, none⟩ (bc u)) e g n c (l.set j u) := by
  obtain ⟨cur, hg, hs, ht⟩ := h.row
  refine ⟨by simp [h.len], h.le, h.max, _, heap_setCell_same w g j cur e (bc u) hg, by simp [hs], ?_⟩
  rw [Array.toList_setIfInBounds, List.take_set, ht]
  simp [bcs, List.map_set]
theorem OwnB.cell_any {w : World} {e : TypeId} {g n c : Nat} {l : List UInt8} (h : OwnB w e g n c l) (j : Nat) (hj : j < n) : ∃ v, w.cell? ⟨g, j, none⟩ = some v := by
  have hl := h.len
  exact ⟨_, h.cell j _ (List.getElem?_eq_getElem (by omega))⟩
theorem OwnB.free {w : World} {e : TypeId} {g n c : Nat} {l : List UInt8} (h : OwnB w e g n c l) (j : Nat) : w.frozen? ⟨g, j, none⟩ = false := by
  obtain ⟨cur, hg, _⟩ := h.row
  exact frozen_of_row w g j _ _ hg
theorem ints_lit (w : World) (T : TypeId) (ps : List Int) (m : Nat) (hm : ps.length = m) (hM : m ≤ 1000000) (cs : Array Value) (hc : cs.toList = ps.map (Value.int .i64)) : IsR EI (w.alloc (.cells cs T)) (some ⟨w.heap.size, 0, none⟩) m m ps :=
  ⟨hm, Nat.le_refl _, by unfold maxLen; omega, (fun h => by cases h), fun a ha j u hu => by
    obtain rfl := Option.some.inj ha
    rw [EI_all, ← hc] at hu
    rw [Addr.add_lit, Nat.zero_add, cell_of_row _ _ _ _ T (0, 0) (heap_alloc_new w _), ← Array.getElem?_toList]
    exact hu⟩
end Go.Proofs.Ytpfhggalbdjjmaa
