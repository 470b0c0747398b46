/-
  code.New, (*code.Reader).Int, Byte, Text, End.
-/
import Derived.Test.YtpphlmbhonaglaaTake
namespace Go.Proofs.Ytpphlmbhonaglaa
open Go.RowKit

/-- What reading a number of k bytes answers, leaves, and the error behind it. -/
def vN (k : Nat) (l : List UInt8) (e : Int) : Int := if e = 0 then wrap64 (num (tk k l)) else 0
def dN (k : Nat) (l : List UInt8) (e : Int) : List UInt8 := if e = 0 then dr k l else l
def eN (k : Nat) (l : List UInt8) (e : Int) : Int := if e = 0 then er k l e else e
/-- The same of a text. -/
def vT (l : List UInt8) (e : Int) : List UInt8 := if e = 0 then tk (num (tk 2 l)) (dr 2 l) else []
def dT (l : List UInt8) (e : Int) : List UInt8 := if e = 0 then dr (num (tk 2 l)) (dr 2 l) else l
def eT (l : List UInt8) (e : Int) : Int := if e = 0 then er (num (tk 2 l)) (dr 2 l) (er 2 l e) else e

/-- The text of the bytes t is answered; reader g holds the bytes l and the error e; no other block that was there has changed. -/
def SaidT (w : World) (g : Nat) (D : Option Nat) (t l : List UInt8) (e : Int) (en : Ending) (w' : World) : Prop :=
  en = .returned (.string ⟨t.toArray⟩) ∧ Rd w' g D l e ∧ w.grownBy w' (some g)

theorem num_tk_lt (k : Nat) (l : List UInt8) (hk : k ≤ 2) : num (tk k l) < 65536 := by
  have h1 := num_lt (tk k l)
  have h2 : (tk k l).length ≤ 2 := by unfold tk; split <;> simp; omega
  have h3 : 256 ^ (tk k l).length ≤ 256 ^ 2 := Nat.pow_le_pow_right (by omega) h2
  omega

set_option maxHeartbeats 400000 in
theorem readInt_any (g : Nat) (D : Option Nat) (l : List UInt8) (e : Int) (w : World) (h : Rd w g D l e) :
    Calls Try.prog 67 #[.pointer (some ⟨g, 0, none⟩)] w (Said w g D (wrap64 (num (tk 8 l))) (dr 8 l) (er 8 l e)) := by
  go_enter Try.func67, Try.ntmps67
  go_wp2_with (go_at_call 70; refine (number_any g D l e 8 _ rfl (by omega) _ h).mono ?_; rintro en w1 ⟨rfl, h1, k1⟩)
  go_ret
  exact ⟨rfl, h1, k1⟩

set_option maxHeartbeats 400000 in
theorem readByte_any (g : Nat) (D : Option Nat) (l : List UInt8) (e : Int) (w : World) (h : Rd w g D l e) :
    Calls Try.prog 64 #[.pointer (some ⟨g, 0, none⟩)] w (Said w g D (wrap64 (num (tk 1 l))) (dr 1 l) (er 1 l e)) := by
  go_enter Try.func64, Try.ntmps64
  go_wp2_with (go_at_call 70; refine (number_any g D l e 1 _ rfl (by omega) _ h).mono ?_; rintro en w1 ⟨rfl, h1, k1⟩)
  go_ret
  exact ⟨rfl, h1, k1⟩

set_option maxHeartbeats 400000 in
theorem readText_any (g : Nat) (D : Option Nat) (l : List UInt8) (e : Int) (w : World) (h : Rd w g D l e) :
    Calls Try.prog 69 #[.pointer (some ⟨g, 0, none⟩)] w (SaidT w g D (tk (num (tk 2 l)) (dr 2 l)) (dr (num (tk 2 l)) (dr 2 l)) (er (num (tk 2 l)) (dr 2 l) (er 2 l e))) := by
  have hM : Hid (wrap64 (num (tk 2 l) : Int) = ((num (tk 2 l) : Nat) : Int)) := by
    have := num_tk_lt 2 l (Nat.le_refl _)
    exact IntWalk.wrap64_in _ (by omega)
  go_enter Try.func69, Try.ntmps69
  go_wp2_with (first | (go_at_call 70; refine (number_any g D l e 2 _ rfl (by omega) _ h).mono ?_; rintro en w1 ⟨rfl, h1, k1⟩) | (go_at_call 73; refine (take_any g D (dr 2 l) (er 2 l e) (num (tk 2 l)) _ hM.out _ h1).mono ?_; rintro en w2 ⟨ao, cap, rfl, hi, h2, k2⟩; have cv := hi.conv byteTy Try.underlying9))
  go_ret
  exact ⟨rfl, h2, grown_trans k1 k2⟩

theorem rd_err {w : World} {g : Nat} {D : Option Nat} {l : List UInt8} {e : Int} (h : Rd w g D l e) : w.cell? ⟨g, 4, none⟩ = some (.int .i64 e) := by
  obtain ⟨ao, n, cap, d, hb, _⟩ := h
  exact cell_blk hb rfl

set_option maxHeartbeats 400000 in
theorem soundInt_any (g : Nat) (D : Option Nat) (l : List UInt8) (e : Int) (w : World) (h : Rd w g D l e) :
    Calls Try.prog 63 #[.pointer (some ⟨g, 0, none⟩), .func (.func 67) #[.pointer (some ⟨g, 0, none⟩)] #[]] w (Said w g D (vN 8 l e) (dN 8 l e) (eN 8 l e)) := by
  have hc := rd_err h
  unfold vN dN eN
  by_cases he : e = 0
  · subst he
    rw [if_pos rfl, if_pos rfl, if_pos rfl]
    go_enter Try.func63, Try.ntmps63
    go_wp2_with (go_at_call 67; refine (readInt_any g D l 0 _ h).mono ?_; rintro en w1 ⟨rfl, h1, k1⟩)
    go_ret
    exact ⟨rfl, h1, k1⟩
  · rw [if_neg he, if_neg he, if_neg he]
    have hb : (e != 0) = true := by simp [he]
    go_enter Try.func63, Try.ntmps63
    go_wp2_with fail
    go_ret
    exact ⟨rfl, h, World.grownBy.refl _ _⟩

set_option maxHeartbeats 400000 in
theorem soundByte_any (g : Nat) (D : Option Nat) (l : List UInt8) (e : Int) (w : World) (h : Rd w g D l e) :
    Calls Try.prog 63 #[.pointer (some ⟨g, 0, none⟩), .func (.func 64) #[.pointer (some ⟨g, 0, none⟩)] #[]] w (Said w g D (vN 1 l e) (dN 1 l e) (eN 1 l e)) := by
  have hc := rd_err h
  unfold vN dN eN
  by_cases he : e = 0
  · subst he
    rw [if_pos rfl, if_pos rfl, if_pos rfl]
    go_enter Try.func63, Try.ntmps63
    go_wp2_with (go_at_call 64; refine (readByte_any g D l 0 _ h).mono ?_; rintro en w1 ⟨rfl, h1, k1⟩)
    go_ret
    exact ⟨rfl, h1, k1⟩
  · rw [if_neg he, if_neg he, if_neg he]
    have hb : (e != 0) = true := by simp [he]
    go_enter Try.func63, Try.ntmps63
    go_wp2_with fail
    go_ret
    exact ⟨rfl, h, World.grownBy.refl _ _⟩

set_option maxHeartbeats 400000 in
theorem soundText_any (g : Nat) (D : Option Nat) (l : List UInt8) (e : Int) (w : World) (h : Rd w g D l e) :
    Calls Try.prog 68 #[.pointer (some ⟨g, 0, none⟩), .func (.func 69) #[.pointer (some ⟨g, 0, none⟩)] #[]] w (SaidT w g D (vT l e) (dT l e) (eT l e)) := by
  have hc := rd_err h
  unfold vT dT eT
  by_cases he : e = 0
  · subst he
    rw [if_pos rfl, if_pos rfl, if_pos rfl]
    go_enter Try.func68, Try.ntmps68
    go_wp2_with (go_at_call 69; refine (readText_any g D l 0 _ h).mono ?_; rintro en w1 ⟨rfl, h1, k1⟩)
    go_ret
    exact ⟨rfl, h1, k1⟩
  · rw [if_neg he, if_neg he, if_neg he]
    have hb : (e != 0) = true := by simp [he]
    go_enter Try.func68, Try.ntmps68
    go_wp2_with fail
    go_ret
    exact ⟨rfl, h, World.grownBy.refl _ _⟩

set_option maxHeartbeats 400000 in
theorem rInt_any (g : Nat) (D : Option Nat) (l : List UInt8) (e : Int) (w : World) (h : Rd w g D l e) :
    Calls Try.prog 58 #[.pointer (some ⟨g, 0, none⟩)] w (Said w g D (vN 8 l e) (dN 8 l e) (eN 8 l e)) := by
  have hmf : ∀ (fn : Fn) (first cap : Array Value) (w : World), (Instr.makeFunc fn first cap).run Try.prog w = .ok (.func fn first cap) w := fun _ _ _ _ => rfl
  go_enter Try.func58, Try.ntmps58
  go_wp2_with (go_at_call 63; refine (soundInt_any g D l e _ h).mono ?_; rintro en w1 ⟨rfl, h1, k1⟩)
  go_ret
  exact ⟨rfl, h1, k1⟩

set_option maxHeartbeats 400000 in
theorem rByte_any (g : Nat) (D : Option Nat) (l : List UInt8) (e : Int) (w : World) (h : Rd w g D l e) :
    Calls Try.prog 56 #[.pointer (some ⟨g, 0, none⟩)] w (Said w g D (vN 1 l e) (dN 1 l e) (eN 1 l e)) := by
  have hmf : ∀ (fn : Fn) (first cap : Array Value) (w : World), (Instr.makeFunc fn first cap).run Try.prog w = .ok (.func fn first cap) w := fun _ _ _ _ => rfl
  go_enter Try.func56, Try.ntmps56
  go_wp2_with (go_at_call 63; refine (soundByte_any g D l e _ h).mono ?_; rintro en w1 ⟨rfl, h1, k1⟩)
  go_ret
  exact ⟨rfl, h1, k1⟩

set_option maxHeartbeats 400000 in
theorem rText_any (g : Nat) (D : Option Nat) (l : List UInt8) (e : Int) (w : World) (h : Rd w g D l e) :
    Calls Try.prog 59 #[.pointer (some ⟨g, 0, none⟩)] w (SaidT w g D (vT l e) (dT l e) (eT l e)) := by
  have hmf : ∀ (fn : Fn) (first cap : Array Value) (w : World), (Instr.makeFunc fn first cap).run Try.prog w = .ok (.func fn first cap) w := fun _ _ _ _ => rfl
  go_enter Try.func59, Try.ntmps59
  go_wp2_with (go_at_call 68; refine (soundText_any g D l e _ h).mono ?_; rintro en w1 ⟨rfl, h1, k1⟩)
  go_ret
  exact ⟨rfl, h1, k1⟩

/-- What End answers. -/
def endE (l : List UInt8) (e : Int) : Int := if e = 0 then (if l = [] then 0 else 9) else e

set_option maxHeartbeats 400000 in
theorem rEnd_any (g : Nat) (D : Option Nat) (l : List UInt8) (e : Int) (w : World) (h : Rd w g D l e) :
    Calls Try.prog 34 #[.pointer (some ⟨g, 0, none⟩)] w fun en w' => en = .returned (.int .i64 (endE l e)) ∧ w = w' := by
  have hc := rd_err h
  obtain ⟨ao, n, cap, d, hb, _, hi, _⟩ := h
  have c0 : w.cell? ⟨g, 0, none⟩ = some (.slice ao n cap) := cell_blk hb rfl
  have hl := hi.len
  clear hb hi
  unfold endE
  by_cases he : e = 0
  · subst he
    rw [if_pos rfl]
    by_cases hn : n = 0
    · obtain rfl : l = [] := List.eq_nil_of_length_eq_zero (by omega)
      subst hn
      rw [if_pos rfl]
      clear hl
      go_enter Try.func34, Try.ntmps34
      go_wp2_with fail
      go_ret
      exact ⟨rfl, rfl⟩
    · have hne : l ≠ [] := by rintro rfl; simp at hl; omega
      have hp : 0 < n := by omega
      rw [if_neg hne]
      clear hl hne
      go_enter Try.func34, Try.ntmps34
      go_wp2_with fail
      go_ret
      exact ⟨rfl, rfl⟩
  · rw [if_neg he]
    have hb : (e == 0) = false := by simp [he]
    clear hl
    go_enter Try.func34, Try.ntmps34
    go_wp2_with fail
    go_ret
    exact ⟨rfl, rfl⟩

/-- A new reader of the bytes l. -/
def Born (w : World) (l : List UInt8) (en : Ending) (w' : World) : Prop :=
  ∃ g D, en = .returned (.pointer (some ⟨g, 0, none⟩)) ∧ Rd w' g D l 0 ∧ Below w.heap.size w w' ∧ w.heap.size ≤ g ∧ ∀ b, D = some b → w.heap.size ≤ b ∧ b < w'.heap.size

set_option maxHeartbeats 400000 in
theorem new_any (ao : Option Addr) (n cap : Nat) (l : List UInt8) (w : World) (h : IsB w ao n cap l) (hn : n ≤ 1000000) :
    Calls Try.prog 30 #[.slice ao n cap] w (Born w l) := by
  go_enter Try.func30, Try.ntmps30
  go_wp2_with (go_at_call 55; refine (clone_any ao n cap l _ h hn).mono ?_; rintro en w1 ⟨ao', cap', rfl, hi, hb, hf⟩)
  go_ret
  have hs := hb.size
  refine ⟨w1.heap.size, ao'.map (·.block), rfl, ⟨ao', n, cap', 0, heap_alloc_new w1 _, .inl ⟨rfl, rfl⟩, hi.alloc _, fun a ha => by rw [ha]; rfl, fun he => ?_⟩, hb.alloc hs _, hs, fun b hb2 => ?_⟩
  · obtain ⟨a, rfl, ha⟩ := Option.map_eq_some_iff.1 he
    have := (hf a rfl).2
    omega
  · obtain ⟨a, rfl, rfl⟩ := Option.map_eq_some_iff.1 hb2
    have := hf a rfl
    simp
    omega

/-! The same, where the error is known. -/
theorem fail_ok (g : Nat) (D : Option Nat) (l : List UInt8) (e : Int) (w : World) (h : Rd w g D l e) :
    Calls Try.prog 57 #[.pointer (some ⟨g, 0, none⟩), .int .i64 0] w (Done w g D l e) := by
  have := fail_any g D l e 0 w h
  rwa [err1_none] at this
theorem fail_first (g : Nat) (D : Option Nat) (l : List UInt8) (x : Int) (w : World) (h : Rd w g D l 0) :
    Calls Try.prog 57 #[.pointer (some ⟨g, 0, none⟩), .int .i64 x] w (Done w g D l x) := by
  have := fail_any g D l 0 x w h
  rwa [err1_zero] at this
theorem fail_more (g : Nat) (D : Option Nat) (l : List UInt8) (e x : Int) (he : e ≠ 0) (w : World) (h : Rd w g D l e) :
    Calls Try.prog 57 #[.pointer (some ⟨g, 0, none⟩), .int .i64 x] w (Done w g D l e) := by
  have := fail_any g D l e x w h
  rwa [err1_some x he] at this
theorem rInt_err (g : Nat) (D : Option Nat) (l : List UInt8) (e : Int) (he : e ≠ 0) (w : World) (h : Rd w g D l e) :
    Calls Try.prog 58 #[.pointer (some ⟨g, 0, none⟩)] w (Said w g D 0 l e) := by
  have := rInt_any g D l e w h
  rwa [vN, dN, eN, if_neg he, if_neg he, if_neg he] at this
theorem rByte_err (g : Nat) (D : Option Nat) (l : List UInt8) (e : Int) (he : e ≠ 0) (w : World) (h : Rd w g D l e) :
    Calls Try.prog 56 #[.pointer (some ⟨g, 0, none⟩)] w (Said w g D 0 l e) := by
  have := rByte_any g D l e w h
  rwa [vN, dN, eN, if_neg he, if_neg he, if_neg he] at this
theorem rText_err (g : Nat) (D : Option Nat) (l : List UInt8) (e : Int) (he : e ≠ 0) (w : World) (h : Rd w g D l e) :
    Calls Try.prog 59 #[.pointer (some ⟨g, 0, none⟩)] w (SaidT w g D [] l e) := by
  have := rText_any g D l e w h
  rwa [vT, dT, eT, if_neg he, if_neg he, if_neg he] at this
theorem rInt_cut (g : Nat) (D : Option Nat) (l : List UInt8) (hl : l.length < 8) (w : World) (h : Rd w g D l 0) :
    Calls Try.prog 58 #[.pointer (some ⟨g, 0, none⟩)] w (Said w g D 0 l 8) := by
  have := rInt_any g D l 0 w h
  have z : wrap64 ((num [] : Nat) : Int) = 0 := IntWalk.wrap64_in 0 (by omega)
  rw [vN, dN, eN, if_pos rfl, if_pos rfl, if_pos rfl, tk, dr, er, if_neg (by omega), if_neg (by omega), if_neg (by omega), err1_zero, z] at this
  exact this
/-- A text whose length lies there, but not all its bytes. -/
theorem rText_cut (g : Nat) (D : Option Nat) (a b : UInt8) (l : List UInt8) (hl : l.length < a.toNat + 256 * b.toNat) (w : World) (h : Rd w g D (a :: b :: l) 0) :
    Calls Try.prog 59 #[.pointer (some ⟨g, 0, none⟩)] w (SaidT w g D [] l 8) := by
  have := rText_any g D (a :: b :: l) 0 w h
  have e1 : tk 2 (a :: b :: l) = [a, b] := by simp [tk]
  have e2 : dr 2 (a :: b :: l) = l := by simp [dr]
  have e3 : er 2 (a :: b :: l) 0 = 0 := by simp [er]
  have e4 : num [a, b] = a.toNat + 256 * b.toNat := by simp [num]
  rw [vT, dT, eT, if_pos rfl, if_pos rfl, if_pos rfl, e1, e2, e3, e4, tk, dr, er, if_neg (by omega), if_neg (by omega), if_neg (by omega), err1_zero] at this
  exact this
theorem new_nil (w : World) : Calls Try.prog 30 #[.slice none 0 0] w (Born w []) := new_any none 0 0 [] w (IsB.nilB w) (by omega)
theorem below_gr {w a b : World} {g : Nat} (h : Below w.heap.size w a) (k : a.grownBy b (some g)) (hg : w.heap.size ≤ g) : Below w.heap.size w b :=
  h.trans (grown_below k hg h.size)
end Go.Proofs.Ytpphlmbhonaglaa
