/-
  Whether a name is free, and taking it.
-/
import Derived.Test.YtpfhggalbdjjmaaDoorSFree
namespace Go.Proofs.YtpfhggalbdjjmaaDoor
open Go.RowKit Go.ChangeMaps Go.ChangeShapes Go.WideShapes Go.WideMaps Go.MapKept
open Go.Maps (Keyed string_keyed)

/-- THE NAMES T ARE TAKEN IN BLOCK g (all that was made lies from B on); the words were laid, or not yet. -/
def Nms (w : World) (B g : Nat) (dn : Bool) (T : List (List UInt8)) (k : Nat) : Prop :=
  match dn with
  | false => NmB w g 0 0 none ∧ T = wordsB.reverse
  | true => ∃ b n, NmB w g 1 0 (some b) ∧ SetIs w b n T ∧ B ≤ b ∧ b ≠ g ∧ n ≤ 41 + k
theorem Nms.past {w w' : World} {B g : Nat} {dn : Bool} {T : List (List UInt8)} {k : Nat} (h : Nms w B g dn T k) (b : Below w.heap.size w w') : Nms w' B g dn T k := by
  cases dn with
  | false => exact ⟨h.1.past b, h.2⟩
  | true =>
    obtain ⟨x, n, h1, h2, h3⟩ := h
    exact ⟨x, n, h1.past b, h2.past b, h3⟩
theorem WL.low {w w' : World} {B : Nat} (h : WL w) (b : Below B w w') (hB : 0 < B) : WL w' := by
  obtain ⟨t, fr, h⟩ := h
  exact ⟨t, fr, (b.block _ hB).trans h⟩
/-- A name is free, or not. -/
def FreeIs (w : World) (B g : Nat) (T : List (List UInt8)) (k : Nat) (l : List UInt8) (en : Ending) (w' : World) : Prop :=
  en = .returned (.bool (spelt l && !T.contains l)) ∧ (∃ dn, Nms w' B g dn T k ∧ (spelt l = true → dn = true)) ∧ Below B w w'
set_option maxRecDepth 100000 in
set_option maxHeartbeats 1600000 in
/-- The words are laid: the name is held against the set. -/
theorem free_set (w : World) (g b n : Nat) (T : List (List UInt8)) (l : List UInt8) (hl : l.length ≤ 1000000) (hN : NmB w g 1 0 (some b)) (hS : SetIs w b n T) (hsp : spelt l = true) :
    Calls Tryd.prog 25 #[.pointer (some ⟨g, 0, none⟩), .string (bsOf l)] w fun e w' => e = .returned (.bool (!T.contains l)) ∧ Below w.heap.size w w' := by
  have c0 := hN.c0
  have c3 := hN.c3
  have K : Keyed Tryd.prog 9 := string_keyed Tryd.underlying9
  have hkey : keyOf Tryd.prog 9 (.string (bsOf l)) = some (.string l) := by
    have := keyOf_string_mk (P := Tryd.prog) (k := 9) Tryd.underlying9 (s := bsOf l) (by rw [bsOf_size]; unfold maxLen; omega)
    rwa [bsOf_toList] at this
  obtain ⟨D, hD, hT⟩ := hS
  have hT' := hT l
  have HS := isSpelt_any l hl
  rw [hsp] at HS
  obtain ⟨x, hx⟩ : ∃ x, T.contains l = x := ⟨_, rfl⟩
  rw [hx] at hT' ⊢
  have HT := Lib.hid hT'
  clear hT hT' hx hsp
  go_enter Tryd.func25, Tryd.ntmps25
  go_wp2_with (first
    | (go_at_call 52; refine (HS _).mono ?_; rintro e w' ⟨rfl, rfl⟩)
    | (go_at_call 53; refine (do_done ⟨g, 0, none⟩ 1 rfl _ _ c0).mono ?_; rintro e w' ⟨rfl, rfl⟩)
    | (at_lookup; refine wpList_lookup_own_unit _ rfl _ _ 66 rfl 9 54 K map_ty (zero_unit _) b n D rfl hD _ (.string l) rfl hkey ?_; rw [HT.out]))
  go_ret
  exact ⟨rfl, (Below.refl _ _).alloc (Nat.le_refl _) _⟩
set_option maxRecDepth 100000 in
set_option maxHeartbeats 1600000 in
/-- The words are not laid yet. -/
theorem free_first (w : World) (g : Nat) (l : List UInt8) (hl : l.length ≤ 1000000) (hN : NmB w g 0 0 none) (hW : WL w) (hg : 0 ≠ g) (hsp : spelt l = true) :
    Calls Tryd.prog 25 #[.pointer (some ⟨g, 0, none⟩), .string (bsOf l)] w fun e w' => e = .returned (.bool (!wordsB.reverse.contains l)) ∧ (∃ b, NmB w' g 1 0 (some b) ∧ SetIs w' b 41 wordsB.reverse ∧ w.heap.size ≤ b) ∧ w.grownBy w' (some g) := by
  have K : Keyed Tryd.prog 9 := string_keyed Tryd.underlying9
  have hkey : keyOf Tryd.prog 9 (.string (bsOf l)) = some (.string l) := by
    have := keyOf_string_mk (P := Tryd.prog) (k := 9) Tryd.underlying9 (s := bsOf l) (by rw [bsOf_size]; unfold maxLen; omega)
    rwa [bsOf_toList] at this
  have HS := isSpelt_any l hl
  rw [hsp] at HS
  have HD := ndo_first w g hN hW hg
  obtain ⟨T, hT⟩ : ∃ T, wordsB.reverse = T := ⟨_, rfl⟩
  unfold WordsIs at HD
  rw [hT] at HD ⊢
  clear hT hsp
  obtain ⟨x, hx⟩ : ∃ x, T.contains l = x := ⟨_, rfl⟩
  have HX := Lib.hid hx
  rw [hx]
  clear hx
  go_enter Tryd.func25, Tryd.ntmps25
  go_wp2_with (first
    | (go_at_call 52; refine (HS _).mono ?_; rintro e w' ⟨rfl, rfl⟩)
    | (go_at_call 53; refine HD.mono ?_; rintro e w2 ⟨b, rfl, N2, ⟨D, hD, hT⟩, hb, G2⟩; have c3 := N2.c3; have hT' := hT l; rw [HX.out] at hT'; have HT := Lib.hid hT'; clear hT')
    | (at_lookup; refine wpList_lookup_own_unit _ rfl _ _ 66 rfl 9 54 K map_ty (zero_unit _) b 41 D rfl hD _ (.string l) rfl hkey ?_; rw [HT.out]))
  go_ret
  have ba := (Below.refl w2.heap.size w2).alloc (Nat.le_refl _) (.cells #[] 54)
  exact ⟨rfl, ⟨b, N2.past ba, SetIs.past ⟨D, hD, hT⟩ ba, hb⟩, grown_alloc G2⟩
set_option maxRecDepth 100000 in
theorem free_not (w : World) (g : Nat) (l : List UInt8) (hl : l.length ≤ 1000000) (hsp : spelt l = false) :
    Calls Tryd.prog 25 #[.pointer (some ⟨g, 0, none⟩), .string (bsOf l)] w fun e w' => e = .returned (.bool false) ∧ w = w' := by
  have HS := isSpelt_any l hl
  rw [hsp] at HS
  clear hsp
  go_enter Tryd.func25, Tryd.ntmps25
  go_wp2_with (go_at_call 52; refine (HS _).mono ?_; rintro e w' ⟨rfl, rfl⟩)
  go_ret
  exact ⟨rfl, rfl⟩
theorem free_any (w : World) (B g : Nat) (dn : Bool) (T : List (List UInt8)) (k : Nat) (l : List UInt8) (hl : l.length ≤ 1000000) (h : Nms w B g dn T k) (hW : WL w) (hg : 0 < B) (hBg : B ≤ g) (hB : B ≤ w.heap.size) :
    Calls Tryd.prog 25 #[.pointer (some ⟨g, 0, none⟩), .string (bsOf l)] w (FreeIs w B g T k l) := by
  cases hsp : spelt l with
  | false =>
    refine (free_not w g l hl hsp).mono ?_
    rintro e w' ⟨rfl, rfl⟩
    exact ⟨by rw [hsp]; rfl, ⟨dn, h, fun q => by rw [hsp] at q; cases q⟩, Below.refl _ _⟩
  | true =>
    cases dn with
    | true =>
      obtain ⟨b, n, hN, hS, h3⟩ := h
      refine (free_set w g b n T l hl hN hS hsp).mono ?_
      rintro e w' ⟨rfl, bx⟩
      exact ⟨by rw [hsp]; rfl, ⟨true, ⟨b, n, hN.past bx, hS.past bx, h3⟩, fun _ => rfl⟩, bx.mono hB⟩
    | false =>
      obtain ⟨hN, rfl⟩ := h
      refine (free_first w g l hl hN hW (by omega) hsp).mono ?_
      rintro e w' ⟨rfl, ⟨b, hN', hS', hb⟩, G⟩
      exact ⟨by rw [hsp]; rfl, ⟨true, ⟨b, 41, hN', hS', Nat.le_trans hB hb, fun e => by have := hN.lt; omega, by omega⟩, fun _ => rfl⟩, grown_below G hBg hB⟩
theorem take_is (w : World) (B g : Nat) (T : List (List UInt8)) (k : Nat) (l : List UInt8) (hl : l.length ≤ 1000000) (h : Nms w B g true T k) (hk : k ≤ 1000) (hB : B ≤ w.heap.size) :
    Calls Tryd.prog 26 #[.pointer (some ⟨g, 0, none⟩), .string (bsOf l)] w fun e w' => e = .returned (.tuple #[]) ∧ Nms w' B g true (l :: T) (k + 1) ∧ Below B w w' := by
  obtain ⟨b, n, hN, hS, h1, h2, h3⟩ := h
  refine (take_any w g b n 1 0 T l hN hS (fun e => h2 e.symm) (by omega) (by unfold maxLen; omega)).mono ?_
  rintro e w' ⟨rfl, hN', hS', G⟩
  exact ⟨rfl, ⟨b, n + 1, hN', hS', h1, h2, by omega⟩, grown_below G h1 hB⟩
end Go.Proofs.YtpfhggalbdjjmaaDoor
