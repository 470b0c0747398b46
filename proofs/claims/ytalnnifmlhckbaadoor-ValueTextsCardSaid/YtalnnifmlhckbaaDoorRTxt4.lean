/-
  The reference of chapter 4: Text.
-/
import Derived.Test.YtalnnifmlhckbaaDoorRCmp4
namespace Go.Proofs.YtalnnifmlhckbaaDoor
open Go.RowKit
set_option linter.unusedSimpArgs false
/-- Each quote twice. -/
def esc (l : List UInt8) : List UInt8 := l.flatMap fun c => if c = 39 then [39, 39] else [c]
theorem esc_len (l : List UInt8) : (esc l).length ≤ 2 * l.length := by
  induction l with
  | nil => simp [esc]
  | cons c l ih =>
    have e : esc (c :: l) = (if c = 39 then [39, 39] else [c]) ++ esc l := rfl
    rw [e, List.length_append, List.length_cons]
    split <;> simp only [List.length_cons, List.length_nil] <;> omega
theorem esc_snoc (l : List UInt8) (i : Nat) (x : UInt8) (h : l[i]? = some x) : esc (l.take (i + 1)) = esc (l.take i) ++ (if x = 39 then [39, 39] else [x]) := by
  rw [List.take_add_one, h]
  simp [esc, List.flatMap_append]
/-- How a value is written. -/
def txtV (k n : Int) (s : ByteArray) : List UInt8 :=
  if k = 0 then [110, 117, 108, 108] else if k = 1 then (if n = 1 then [116, 114, 117, 101] else [102, 97, 108, 115, 101]) else if k = 2 then Lib.itoa n else 39 :: (esc s.toList ++ [39])
theorem app1 (l : List UInt8) (x : UInt8) : (⟨(39 :: l).toArray⟩ : ByteArray) ++ ⟨#[x]⟩ = ⟨(39 :: (l ++ [x])).toArray⟩ := by
  apply ByteArray.ext
  rw [ByteArray.data_append]
  simp
theorem app2 (l : List UInt8) (x y : UInt8) : (⟨(39 :: l).toArray⟩ : ByteArray) ++ ⟨#[x]⟩ ++ ⟨#[y]⟩ = ⟨(39 :: (l ++ [x, y])).toArray⟩ := by
  apply ByteArray.ext
  rw [ByteArray.data_append, ByteArray.data_append]
  simp
theorem str_one (s : ByteArray) (i : Nat) (x : UInt8) (hi : i < s.size) (h : s.toList[i]? = some x) : s.extract i (i + 1) = ⟨#[x]⟩ := by
  apply ByteArray.ext
  rw [ByteArray.data_extract]
  have h1 : s.data[i]? = some x := by rw [ByteArray.toList_eq, Array.getElem?_toList] at h; exact h
  apply Array.ext
  · simp
    have : i < s.data.size := hi
    omega
  · intro j h2 h3
    simp at h3
    subst h3
    simp
    have := (Array.getElem?_eq_some_iff.1 h1).2
    exact this
set_option maxRecDepth 100000 in
set_option maxHeartbeats 4000000 in
theorem rtext4_text (s : ByteArray) (w : World) (hs : s.size ≤ 100) :
    Calls Tryd.prog 21 #[vv 3 0 s] w fun e w' => e = .returned (.string ⟨(39 :: (esc s.toList ++ [39])).toArray⟩) ∧ Below w.heap.size w w' := by
  have b0 : Below w.heap.size w (w.alloc (.cells #[.int .i64 3, .int .i64 0, .string s] 36)) := (Below.refl _ _).alloc (Nat.le_refl _) _
  have us := Tryd.underlying9
  have HS := Lib.hid (toList_len s)
  go_enter Tryd.func21, Tryd.ntmps21
  go_wp2_with fail
  go_loopw [3, 4] (fun t v wq => ∃ i : Nat, v = .int .i64 i ∧ i ≤ s.size ∧ t = .string ⟨(39 :: esc (s.toList.take i)).toArray⟩ ∧ w.alloc (.cells #[.int .i64 3, .int .i64 0, .string s] 36) = wq) (fun _ v _ => s.size + 1 - (intOf v).toNat)
  case atStart => exact ⟨0, rfl, by omega, rfl, rfl⟩
  case round =>
    obtain ⟨i, rfl, hi, rfl, rfl⟩ := hrel
    have L1 := esc_len (s.toList.take i)
    rw [List.length_take, HS.out] at L1
    by_cases h1 : i < s.size
    · obtain ⟨x, hx, ix⟩ := str_get s i h1
      have ix1 := fun w => ix 9 w us
      have hone := str_one s i x h1 hx
      have HE := Lib.hid (esc_snoc s.toList i x hx)
      clear ix hx
      generalize esc (s.toList.take i) = l at L1 HE ⊢
      by_cases hx : x = 39
      · subst hx
        rw [if_pos rfl] at HE
        go_wp2_with fail
        go_roundw
        case rel => exact ⟨i + 1, by go_num, by omega, by rw [HE.out]; exact congrArg Value.string (app2 l 39 39), by first | rfl | trivial⟩
        case measure => simp [intOf]; omega
      · rw [if_neg hx] at HE
        have hx4 : ¬ x.toNat = 39 := fun e => hx (UInt8.toNat_inj.1 e)
        have hx3 : ¬ (x.toNat : Int) = 39 := by omega
        have hx2 : ((x.toNat : Int) == 39) = false := beq_eq_false_iff_ne.2 hx3
        go_wp2_with fail
        go_roundw
        case rel => exact ⟨i + 1, by go_num, by omega, by rw [HE.out]; exact congrArg Value.string (app1 l x), by first | rfl | trivial⟩
        case measure => simp [intOf]; omega
    · have hl : s.toList.take i = s.toList := List.take_of_length_le (by rw [HS.out]; omega)
      rw [hl] at L1
      simp only [hl]
      clear hl
      obtain ⟨l, hl⟩ : ∃ l, l = esc s.toList := ⟨_, rfl⟩
      rw [← hl] at L1 ⊢
      have HL := Lib.hid hl
      clear hl
      go_wp2_with fail
      go_ret
      exact ⟨ret_str (by rw [← HL.out]; exact app1 l 39), b0⟩
set_option maxRecDepth 100000 in
set_option maxHeartbeats 2000000 in
/-- Of a valid value. -/
theorem rtext4_any (k n : Int) (s : ByteArray) (w : World) (h : Val k n s) (hn : -9223372036854775808 ≤ n ∧ n ≤ 9223372036854775807) :
    Calls Tryd.prog 21 #[vv k n s] w fun e w' => e = .returned (.string ⟨(txtV k n s).toArray⟩) ∧ Below w.heap.size w w' := by
  have b0 : ∀ o, Below w.heap.size w (w.alloc o) := fun o => (Below.refl _ _).alloc (Nat.le_refl _) o
  cases h with
  | none =>
    go_enter Tryd.func21, Tryd.ntmps21
    go_wp2_with fail
    go_ret
    exact ⟨rfl, b0 _⟩
  | bool _ h0 h1 =>
    have h2 : n = 0 ∨ n = 1 := by omega
    rcases h2 with rfl | rfl
    · go_enter Tryd.func21, Tryd.ntmps21
      go_wp2_with fail
      go_ret
      exact ⟨rfl, b0 _⟩
    · go_enter Tryd.func21, Tryd.ntmps21
      go_wp2_with fail
      go_ret
      exact ⟨rfl, b0 _⟩
  | int _ =>
    go_enter Tryd.func21, Tryd.ntmps21
    go_wp2_with (go_at_call 22; refine (rdigits_any n _ hn).mono ?_; rintro e w1 ⟨rfl, b1⟩)
    go_ret
    exact ⟨rfl, (b0 _).trans (b1.mono (b0 _).size)⟩
  | text _ hs => exact rtext4_text s w (by omega)
end Go.Proofs.YtalnnifmlhckbaaDoor
