/-
  What a Crash leaves of a page that was written again and again: each half is the elder one's, or a newer one's; rows of slices of the call's own.
-/
import Derived.Test.YtfajggiinoeaiaaLDHalves
import Derived.Test.YtfajggiinoeaiaaLDTampers
import Derived.Test.YtfajggiinoeaiaaIsP
namespace Go.Proofs.Ytfajggiinoeaiaa
open Go.RowKit

/-- Thirty-two bytes from i on. -/
def seg (i : Nat) (r : List UInt8) : List UInt8 := (r.drop i).take 32
theorem tk_length {x y : List UInt8} (hx : x.length = 64) (hy : y.length = 64) (pick : Int) : (tk x y pick).length = 64 := by
  unfold tk
  by_cases h : pick / 2 ^ 1 % 2 = 1
  · rw [half_yes h]; exact mix_length (by simp [hy])
  · rw [half_no h]
    by_cases h : pick / 2 ^ 0 % 2 = 1
    · rw [half_yes h]; exact mix_length (by simp [hy])
    · rw [half_no h]; exact hx
theorem seg_get (i : Nat) (r : List UInt8) (j : Nat) : (seg i r)[j]? = if j < 32 then r[i + j]? else none := by
  unfold seg
  by_cases h : j < 32
  · rw [if_pos h, List.getElem?_take_of_lt h, List.getElem?_drop]
  · rw [if_neg h, List.getElem?_eq_none (by simp; omega)]
theorem tk_seg {x y : List UInt8} (hx : x.length = 64) (hy : y.length = 64) (pick : Int) (i : Nat) (hi : i = 0 ∨ i = 32) : seg i (tk x y pick) = seg i y ∨ seg i (tk x y pick) = seg i x := by
  by_cases hc : pick / 2 ^ (i / 32) % 2 = 1
  · refine .inl (List.ext_getElem? fun j => ?_)
    rw [seg_get, seg_get]
    by_cases h : j < 32
    · rw [if_pos h, if_pos h, tk_get hx hy pick (i + j) (by omega), show (i + j) / 32 = i / 32 by omega, if_pos hc]
    · rw [if_neg h, if_neg h]
  · refine .inr (List.ext_getElem? fun j => ?_)
    rw [seg_get, seg_get]
    by_cases h : j < 32
    · rw [if_pos h, if_pos h, tk_get hx hy pick (i + j) (by omega), show (i + j) / 32 = i / 32 by omega, if_neg hc]
    · rw [if_neg h, if_neg h]
/-- Each half of z is one of the rows'. -/
def Halved (rows : List (List UInt8)) (z : List UInt8) : Prop := z.length = 64 ∧ (∃ r ∈ rows, seg 0 r = seg 0 z) ∧ ∃ r ∈ rows, seg 32 r = seg 32 z
/-- THE DISK s, k newer Writes on page 2 behind what was synced. -/
structure St (X : List UInt8) (Ys : List (List UInt8)) (k : Nat) (s : Dk) : Prop where
  gone : s.gone = false
  left : s.left = -3 - (k : Int)
  kl : s.kept.length = 4
  ll : s.last.length = 4
  k2 : s.kept.getD 2 [] = X
  p1 : s.pg 1 = X
  p2 : k = 0 → s.pg 2 = X
  pend : s.pend = (Ys.take k).map fun y => (2, y)
theorem st_first (X : List UInt8) (Ys : List (List UInt8)) (hX : X.length = 64) : St X Ys 0 ((((newD 4).put 1 X).spent.put 2 X).spent).sync := by
  refine ⟨rfl, rfl, rfl, rfl, ?_, ?_, fun _ => ?_, rfl⟩
  · show pad (pad X) = X
    rw [pad_pad, pad_of hX]
  · show pad (pad X) = X
    rw [pad_pad, pad_of hX]
  · show pad (pad X) = X
    rw [pad_pad, pad_of hX]
theorem St.next {X : List UInt8} {Ys : List (List UInt8)} {k : Nat} {s : Dk} (h : St X Ys k s) (y : List UInt8) (hy : Ys[k]? = some y) (hl : y.length = 64) : St X Ys (k + 1) (s.put 2 y).spent := by
  have hne : (s.put 2 y).left ≠ 1 := by show s.left ≠ 1; rw [h.left]; omega
  rw [spent_more hne]
  refine ⟨h.gone, ?_, h.kl, ?_, h.k2, ?_, fun e => by omega, ?_⟩
  · show s.left - 1 = _
    rw [h.left]
    omega
  · show (s.last.set 2 _).length = 4
    rw [List.length_set, h.ll]
  · show pad ((s.last.set 2 (pad y)).getD 1 []) = X
    rw [← h.p1]
    unfold Dk.pg
    congr 1
    simp [List.getD, List.getElem?_set_ne (show 2 ≠ 1 by omega)]
  · show s.pend ++ [(2, pad y)] = _
    rw [h.pend, take_snoc' _ _ _ hy, List.map_append, pad_of hl]
    rfl
theorem St.crs {X : List UInt8} {Ys : List (List UInt8)} {m : Nat} {s : Dk} (h : St X Ys m s) (hX : X.length = 64) (hY : ∀ y ∈ Ys, y.length = 64) (hm : m = Ys.length) (ps : List Int) :
    ∀ k, k ≤ m → Halved (X :: Ys) ((cr s.kept s.last s.pend ps k).1.getD 2 []) ∧ (cr s.kept s.last s.pend ps k).2.getD 1 [] = s.last.getD 1 [] ∧ (0 < k → pad ((cr s.kept s.last s.pend ps k).2.getD 2 []) = (cr s.kept s.last s.pend ps k).1.getD 2 [])
  | 0, _ => ⟨by show Halved _ (s.kept.getD 2 []); rw [h.k2]; exact ⟨hX, ⟨X, by simp, rfl⟩, ⟨X, by simp, rfl⟩⟩, rfl, fun h => by omega⟩
  | k + 1, hk => by
    obtain ⟨⟨z1, z2, z3⟩, h2, _⟩ := h.crs hX hY hm ps k (by omega)
    obtain ⟨y, hy⟩ : ∃ y, Ys[k]? = some y := ⟨_, List.getElem?_eq_getElem (by omega)⟩
    have hyl := hY y (List.mem_of_getElem? hy)
    have hpx : s.pend[k]? = some (2, y) := by rw [h.pend, List.getElem?_map, List.getElem?_take_of_lt (by omega), hy]; rfl
    have hlk : 2 < (cr s.kept s.last s.pend ps k).1.length := by rw [cr_kept, h.kl]; omega
    have hll : 2 < (cr s.kept s.last s.pend ps k).2.length := by rw [cr_last, h.ll]; omega
    rw [cr_step s.kept s.last s.pend ps k 2 y _ hpx rfl hlk, pad_of hyl]
    have e1 : ((cr s.kept s.last s.pend ps k).1.set 2 (tk ((cr s.kept s.last s.pend ps k).1.getD 2 []) y (ps.getD k 0))).getD 2 [] = tk ((cr s.kept s.last s.pend ps k).1.getD 2 []) y (ps.getD k 0) := set_get _ _ _ hlk
    refine ⟨?_, ?_, fun _ => ?_⟩
    · show Halved _ (((cr s.kept s.last s.pend ps k).1.set 2 _).getD 2 [])
      rw [e1]
      refine ⟨tk_length z1 hyl _, ?_, ?_⟩
      · rcases tk_seg z1 hyl (ps.getD k 0) 0 (.inl rfl) with e | e
        · exact ⟨y, by simp [List.mem_of_getElem? hy], e.symm⟩
        · obtain ⟨r, hr, er⟩ := z2; exact ⟨r, hr, er.trans e.symm⟩
      · rcases tk_seg z1 hyl (ps.getD k 0) 32 (.inr rfl) with e | e
        · exact ⟨y, by simp [List.mem_of_getElem? hy], e.symm⟩
        · obtain ⟨r, hr, er⟩ := z3; exact ⟨r, hr, er.trans e.symm⟩
    · show ((cr s.kept s.last s.pend ps k).2.set 2 _).getD 1 [] = _
      rw [← h2]
      simp [List.getD, List.getElem?_set_ne (show 2 ≠ 1 by omega)]
    · show pad (((cr s.kept s.last s.pend ps k).2.set 2 _).getD 2 []) = ((cr s.kept s.last s.pend ps k).1.set 2 _).getD 2 []
      rw [set_get _ _ _ hll, e1, pad_pad, pad_of (tk_length z1 hyl _)]
theorem St.crash {X : List UInt8} {Ys : List (List UInt8)} {m : Nat} {s : Dk} (h : St X Ys m s) (hX : X.length = 64) (hY : ∀ y ∈ Ys, y.length = 64) (hm : m = Ys.length) (ps : List Int) : (s.crash ps).pg 1 = X ∧ Halved (X :: Ys) ((s.crash ps).pg 2) := by
  have hlen : s.pend.length = m := by rw [h.pend]; simp [hm]
  obtain ⟨h1, h2, h3⟩ := h.crs hX hY hm ps m (Nat.le_refl _)
  have e : s.crash ps = { left := 0, gone := false, kept := (cr s.kept s.last s.pend ps m).1, last := (cr s.kept s.last s.pend ps m).2, pend := [] } := by
    unfold Dk.crash
    rw [hlen]
  rw [e]
  refine ⟨?_, ?_⟩
  · show pad ((cr s.kept s.last s.pend ps m).2.getD 1 []) = X
    rw [h2]
    exact h.p1
  · show Halved _ (pad ((cr s.kept s.last s.pend ps m).2.getD 2 []))
    by_cases hz : m = 0
    · subst hz
      have e2 : pad ((cr s.kept s.last s.pend ps 0).2.getD 2 []) = X := h.p2 rfl
      rw [e2]
      exact ⟨hX, ⟨X, by simp, rfl⟩, ⟨X, by simp, rfl⟩⟩
    · rw [h3 (by omega)]
      exact h1
/-- Whether one of the first k rows has z's bytes from i on. -/
def hit (rows : List (List UInt8)) (z : List UInt8) (i k : Nat) : Bool := (rows.take k).any fun r => seg i r == seg i z
theorem hit_succ (rows : List (List UInt8)) (z : List UInt8) (i k : Nat) (r : List UInt8) (h : rows[k]? = some r) : hit rows z i (k + 1) = (hit rows z i k || (seg i r == seg i z)) := by
  unfold hit
  rw [take_snoc' _ _ _ h]
  simp
theorem hit_all {rows : List (List UInt8)} {z : List UInt8} {i : Nat} (h : ∃ r ∈ rows, seg i r = seg i z) : hit rows z i rows.length = true := by
  obtain ⟨r, hr, e⟩ := h
  unfold hit
  rw [List.take_length, List.any_eq_true]
  exact ⟨r, hr, by simp [e]⟩

/-- A slice of sixty-four bytes in a block, or nil, in a cell. -/
def encSl : Enc (Option Nat) where
  sz := 1
  f g := [match g with | some g => .slice (some ⟨g, 0, none⟩) 64 64 | none => .slice none 0 0]
  len _ := rfl
  one g u hu := by
    obtain rfl := List.mem_singleton.1 hu
    cases g <;> rfl
theorem sl_info : (Try.prog.info? 22).map (fun i => (i.zero, i.size, i.bytes)) = some (some (.slice none 0 0), 1, 24) := by kernel_rfl
theorem sl_ty : RowTy encSl Try.prog 23 22 none := by
  obtain ⟨i, h1, h2, h3, h4⟩ := info_parts sl_info
  exact ⟨Try.underlying23, i, _, h1, h2, h3, rfl, by omega⟩
/-- ROWS OF THE CALL's OWN, each in a block of its own, none of S. -/
structure Rws (w : World) (S : Nat → Prop) (rg c k : Nat) (gs : List (Option Nat)) (rows : List (List UInt8)) : Prop where
  own : OwnR encSl w 22 rg k c gs
  far : ¬ S rg
  each : ∀ j, j < k → ∃ g, gs[j]? = some (some g) ∧ OwnB w 5 g 64 64 (rows.getD j []) ∧ ¬ S g ∧ g ≠ rg
section
variable {w w' : World} {S S' : Nat → Prop} {rg c k : Nat} {gs : List (Option Nat)} {rows : List (List UInt8)}
theorem Rws.kp (h : Rws w S rg c k gs rows) (hk : Kp w w' S) (x : Ext w S S') : Rws w' S' rg c k gs rows :=
  ⟨h.own.kp hk h.far, fun q => by rcases x _ q with h1 | h1; exact h.far h1; have := h.own.lt; omega, fun j hj => by
    obtain ⟨g, h1, h2, h3, h4⟩ := h.each j hj
    exact ⟨g, h1, h2.kp hk h3, (fun q => by rcases x _ q with h5 | h5; exact h3 h5; have := h2.lt; omega), h4⟩⟩
theorem Rws.past (h : Rws w S rg c k gs rows) (b : Below w.heap.size w w') : Rws w' S rg c k gs rows :=
  ⟨h.own.past b, h.far, fun j hj => by
    obtain ⟨g, h1, h2, h3, h4⟩ := h.each j hj
    exact ⟨g, h1, h2.below b h2.lt, h3, h4⟩⟩
theorem Rws.grown (h : Rws w S rg c k gs rows) {z : Nat} (b : w.grownBy w' (some z)) (hz : z ≠ rg) (hj : ∀ (j g : Nat), gs[j]? = some (some g) → g ≠ z) : Rws w' S rg c k gs rows :=
  ⟨h.own.grown b (fun e => hz (by cases e; rfl)), h.far, fun j hj' => by
    obtain ⟨g, h1, h2, h3, h4⟩ := h.each j hj'
    exact ⟨g, h1, h2.grown b (fun e => hj j g h1 (by cases e; rfl)), h3, h4⟩⟩
theorem Rws.cellAt (h : Rws w S rg c k gs rows) (j : Nat) (hj : j < k) : ∃ g, w.cell? ⟨rg, j, none⟩ = some (.slice (some ⟨g, 0, none⟩) 64 64) ∧ OwnB w 5 g 64 64 (rows.getD j []) := by
  obtain ⟨g, h1, h2, _, _⟩ := h.each j hj
  refine ⟨g, ?_, h2⟩
  refine h.own.cell j _ ?_
  have := Enc.all_get encSl gs j 0 (some g) h1 (by show 0 < 1; omega)
  rw [show j * encSl.sz + 0 = j from Nat.mul_one j] at this
  rw [this]
  rfl
end
end Go.Proofs.Ytfajggiinoeaiaa
