/-
  code.New, (*code.Reader).Int.
-/
import Derived.Test.YtpfhggalbdjjmaaTake
namespace Go.Proofs.Ytpfhggalbdjjmaa
open Go.RowKit

/-- What reading a number of k bytes answers, leaves, and the error behind it. -/
def vN (k : Nat) (l : List UInt8) (e : Int) : Int := if e = 0 then wrap64 (num (tk k l)) else 0
def dN (k : Nat) (l : List UInt8) (e : Int) : List UInt8 := if e = 0 then dr k l else l
def eN (k : Nat) (l : List UInt8) (e : Int) : Int := if e = 0 then er k l e else e
set_option maxHeartbeats 400000 in
theorem readInt_any (g : Nat) (D : Option Nat) (l : List UInt8) (e : Int) (w : World) (h : Rd w g D l e) :
    Calls Try.prog 76 #[.pointer (some ⟨g, 0, none⟩)] w (Said w g D (wrap64 (num (tk 8 l))) (dr 8 l) (er 8 l e)) := by
  go_enter Try.func76, Try.ntmps76
  go_wp2_with (go_at_call 78; refine (number_any g D l e 8 _ rfl (by omega) _ h).mono ?_; rintro en w1 ⟨rfl, h1, k1⟩)
  go_ret
  exact ⟨rfl, h1, k1⟩

theorem rd_err {w : World} {g : Nat} {D : Option Nat} {l : List UInt8} {e : Int} (h : Rd w g D l e) : w.cell? ⟨g, 4, none⟩ = some (.int .i64 e) := by
  obtain ⟨ao, n, cap, d, hb, _⟩ := h
  exact cell_blk hb rfl

set_option maxHeartbeats 400000 in
theorem soundInt_any (g : Nat) (D : Option Nat) (l : List UInt8) (e : Int) (w : World) (h : Rd w g D l e) :
    Calls Try.prog 75 #[.pointer (some ⟨g, 0, none⟩), .func (.func 76) #[.pointer (some ⟨g, 0, none⟩)] #[]] w (Said w g D (vN 8 l e) (dN 8 l e) (eN 8 l e)) := by
  have hc := rd_err h
  unfold vN dN eN
  by_cases he : e = 0
  · subst he
    rw [if_pos rfl, if_pos rfl, if_pos rfl]
    go_enter Try.func75, Try.ntmps75
    go_wp2_with (go_at_call 76; refine (readInt_any g D l 0 _ h).mono ?_; rintro en w1 ⟨rfl, h1, k1⟩)
    go_ret
    exact ⟨rfl, h1, k1⟩
  · rw [if_neg he, if_neg he, if_neg he]
    have hb : (e != 0) = true := by simp [he]
    go_enter Try.func75, Try.ntmps75
    go_wp2_with fail
    go_ret
    exact ⟨rfl, h, World.grownBy.refl _ _⟩

set_option maxHeartbeats 400000 in
theorem rInt_any (g : Nat) (D : Option Nat) (l : List UInt8) (e : Int) (w : World) (h : Rd w g D l e) :
    Calls Try.prog 67 #[.pointer (some ⟨g, 0, none⟩)] w (Said w g D (vN 8 l e) (dN 8 l e) (eN 8 l e)) := by
  have hmf : ∀ (fn : Fn) (first cap : Array Value) (w : World), (Instr.makeFunc fn first cap).run Try.prog w = .ok (.func fn first cap) w := fun _ _ _ _ => rfl
  go_enter Try.func67, Try.ntmps67
  go_wp2_with (go_at_call 75; refine (soundInt_any g D l e _ h).mono ?_; rintro en w1 ⟨rfl, h1, k1⟩)
  go_ret
  exact ⟨rfl, h1, k1⟩

/-- A new reader of the bytes l. -/
def Born (w : World) (l : List UInt8) (en : Ending) (w' : World) : Prop :=
  ∃ g D, en = .returned (.pointer (some ⟨g, 0, none⟩)) ∧ Rd w' g D l 0 ∧ Below w.heap.size w w' ∧ w.heap.size ≤ g ∧ ∀ b, D = some b → w.heap.size ≤ b ∧ b < w'.heap.size

set_option maxHeartbeats 400000 in
theorem new_any (ao : Option Addr) (n cap : Nat) (l : List UInt8) (w : World) (h : IsB w ao n cap l) (hn : n ≤ 1000000) :
    Calls Try.prog 66 #[.slice ao n cap] w (Born w l) := by
  go_enter Try.func66, Try.ntmps66
  go_wp2_with (go_at_call 69; refine (clone_any ao n cap l _ h hn).mono ?_; rintro en w1 ⟨ao', cap', rfl, hi, hb, hf⟩)
  go_ret
  have hs := hb.size
  refine ⟨w1.heap.size, ao'.map (·.block), rfl, ⟨ao', n, cap', 0, heap_alloc_new w1 _, .inl ⟨rfl, rfl⟩, hi.alloc _, fun a ha => by rw [ha]; rfl, fun he => ?_⟩, hb.alloc hs _, hs, fun b hb2 => ?_⟩
  · obtain ⟨a, rfl, ha⟩ := Option.map_eq_some_iff.1 he
    have := (hf a rfl).2
    omega
  · obtain ⟨a, rfl, rfl⟩ := Option.map_eq_some_iff.1 hb2
    have := hf a rfl
    simp
    omega

theorem rInt_err (g : Nat) (D : Option Nat) (l : List UInt8) (e : Int) (he : e ≠ 0) (w : World) (h : Rd w g D l e) :
    Calls Try.prog 67 #[.pointer (some ⟨g, 0, none⟩)] w (Said w g D 0 l e) := by
  have := rInt_any g D l e w h
  rwa [vN, dN, eN, if_neg he, if_neg he, if_neg he] at this
theorem rInt_cut (g : Nat) (D : Option Nat) (l : List UInt8) (hl : l.length < 8) (w : World) (h : Rd w g D l 0) :
    Calls Try.prog 67 #[.pointer (some ⟨g, 0, none⟩)] w (Said w g D 0 l 8) := by
  have := rInt_any g D l 0 w h
  have z : wrap64 ((num [] : Nat) : Int) = 0 := IntWalk.wrap64_in 0 (by omega)
  rw [vN, dN, eN, if_pos rfl, if_pos rfl, if_pos rfl, tk, dr, er, if_neg (by omega), if_neg (by omega), if_neg (by omega), err1_zero, z] at this
  exact this
theorem new_nil (w : World) : Calls Try.prog 66 #[.slice none 0 0] w (Born w []) := new_any none 0 0 [] w (IsB.nilB w) (by omega)
theorem below_gr {w a b : World} {g : Nat} (h : Below w.heap.size w a) (k : a.grownBy b (some g)) (hg : w.heap.size ≤ g) : Below w.heap.size w b :=
  h.trans (grown_below k hg h.size)
end Go.Proofs.Ytpfhggalbdjjmaa
