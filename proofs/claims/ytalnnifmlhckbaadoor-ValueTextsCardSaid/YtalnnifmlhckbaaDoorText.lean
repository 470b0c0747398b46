/-
  value.Text.
-/
import Derived.Test.YtalnnifmlhckbaaDoorShelf
import Derived.Test.YtalnnifmlhckbaaDoorRTxt4
import Derived.Lib.LaidTab
namespace Go.Proofs.YtalnnifmlhckbaaDoor
open Go.RowKit
set_option linter.unusedSimpArgs false

/-- What the library's calls want of the world: its table of powers, and the number in a variable of its own. -/
structure TB (w : World) : Prop where
  tab : Lib.TabIs Tryd.prog w "internal/strconv.uint64pow10" .u64 Lib.pow10Tab
  len : ∃ m, w.cell? ⟨2, 0, none⟩ = some (.int .i64 m)
theorem tab_past {w w' : World} {zs : List Int} (h : Lib.TabIs Tryd.prog w "internal/strconv.uint64pow10" .u64 zs) (b : Below w.heap.size w w') : Lib.TabIs Tryd.prog w' "internal/strconv.uint64pow10" .u64 zs := by
  have hg : Tryd.prog.globalNamed "internal/strconv.uint64pow10" = some 1 := by kernel_rfl
  unfold Lib.TabIs World.var? at h ⊢
  rw [hg] at h ⊢
  simp only [Option.bind_some] at h ⊢
  have hlt : 1 < w.heap.size := by
    rcases Nat.lt_or_ge 1 w.heap.size with h' | h'
    · exact h'
    · rw [Array.getElem?_eq_none h'] at h
      cases h
  rw [b.block _ hlt]
  exact h
theorem TB.past {w w' : World} (h : TB w) (b : Below w.heap.size w w') : TB w' := by
  obtain ⟨m, hm⟩ := h.len
  exact ⟨tab_past h.tab b, m, by rw [b.cell (World.block_lt_of_cell? w _ hm)]; exact hm⟩
theorem TB.alloc {w : World} (h : TB w) (o : Obj) : TB (w.alloc o) := h.past ((Below.refl _ _).alloc (Nat.le_refl _) o)

theorem repl_ne (new : List UInt8) (b : UInt8) (hb : b ≠ 39) (l : List UInt8) : ∀ k, Lib.replaceK [39] new k (b :: l) = b :: Lib.replaceK [39] new k l
  | 0 => rfl
  | k + 1 => by
    have hi : Lib.index (b :: l) [39] = if Lib.index l [39] == -1 then -1 else Lib.index l [39] + 1 := by
      rw [Lib.index, if_neg]
      simp [List.isPrefixOf, Ne.symm hb]
    by_cases h : Lib.index l [39] = -1
    · have h2 : Lib.index (b :: l) [39] = -1 := by rw [hi, h]; rfl
      rw [Lib.replaceK, Lib.replaceK, if_pos (by rw [h2]; rfl), if_pos (by rw [h]; rfl)]
    · have hge := Lib.index_ge l [39]
      obtain ⟨i, hI⟩ : ∃ i : Nat, Lib.index l [39] = i := ⟨(Lib.index l [39]).toNat, by omega⟩
      have h2 : Lib.index (b :: l) [39] = ((i + 1 : Nat) : Int) := by
        rw [hi, if_neg (by rw [beq_iff_eq]; exact h), hI]
        omega
      rw [Lib.replaceK_hit _ _ _ _ _ h2, Lib.replaceK_hit _ _ _ _ _ hI]
      rfl
theorem repl_eq (new l : List UInt8) (k : Nat) : Lib.replaceK [39] new (k + 1) (39 :: l) = new ++ Lib.replaceK [39] new k l := by
  have h : Lib.index (39 :: l) [39] = ((0 : Nat) : Int) := by
    rw [Lib.index, if_pos]
    · rfl
    · simp [List.isPrefixOf]
  rw [Lib.replaceK_hit _ _ _ _ _ h]
  rfl
theorem repl_esc : ∀ l : List UInt8, Lib.replaceK [39] [39, 39] (l.count 39) l = esc l
  | [] => rfl
  | b :: l => by
    by_cases h : b = 39
    · subst h
      rw [List.count_cons_self, repl_eq, repl_esc l]
      rfl
    · rw [List.count_cons_of_ne h, repl_ne _ _ h, repl_esc l]
      have : esc (b :: l) = (if b = 39 then [39, 39] else [b]) ++ esc l := rfl
      rw [this, if_neg h]
      rfl
theorem replaceAll_esc (l : List UInt8) : Lib.replaceAll l [39] [39, 39] = esc l := by
  unfold Lib.replaceAll Lib.replace
  rw [if_neg (by decide), Lib.replaceNum, if_pos (.inl (by decide)), Lib.count_one, repl_esc]
theorem below_grow4 (w : World) (q : Nat) (os : Array Obj) : Below w.heap.size w (Sort.grow (w.drewN q) os) := by
  refine ⟨rfl, rfl, rfl, by simp [Sort.grow, World.drewN], fun k hk => ?_⟩
  simp only [Sort.grow, World.drewN]
  rw [Array.getElem?_append_left hk]
theorem app3 (l : List UInt8) : (⟨#[39]⟩ : ByteArray) ++ ⟨l.toArray⟩ ++ ⟨#[39]⟩ = ⟨(39 :: (l ++ [39])).toArray⟩ := by
  apply ByteArray.ext
  rw [ByteArray.data_append, ByteArray.data_append]
  simp
set_option maxRecDepth 100000 in
set_option maxHeartbeats 1000000 in
/-- value.Text, of a valid value. -/
theorem text_any4 (k n : Int) (s : ByteArray) (w : World) (hT : TB w) (h : Val k n s) (hn : -9223372036854775808 ≤ n ∧ n ≤ 9223372036854775807) :
    Calls Tryd.prog 20 #[vv k n s] w fun e w' => e = .returned (.string ⟨(txtV k n s).toArray⟩) ∧ Below w.heap.size w w' := by
  have b0 : ∀ o, Below w.heap.size w (w.alloc o) := fun o => (Below.refl _ _).alloc (Nat.le_refl _) o
  have T0 := fun o => hT.alloc o
  cases h with
  | none =>
    go_enter Tryd.func20, Tryd.ntmps20
    go_wp2_with fail
    go_ret
    exact ⟨rfl, b0 _⟩
  | bool _ h0 h1 =>
    have h2 : n = 0 ∨ n = 1 := by omega
    rcases h2 with rfl | rfl
    · have hf : ∀ w, Calls Tryd.prog 37 #[.bool false] w fun e w' => e = .returned (.string ⟨#[102, 97, 108, 115, 101]⟩) ∧ w' = w := fun w => Tryd.strconv_FormatBool false w
      go_enter Tryd.func20, Tryd.ntmps20
      go_wp2_with (go_at_call 37; (with_reducible refine (hf _).mono ?_); rintro e w1 ⟨rfl, rfl⟩)
      go_ret
      exact ⟨rfl, b0 _⟩
    · have hf : ∀ w, Calls Tryd.prog 37 #[.bool true] w fun e w' => e = .returned (.string ⟨#[116, 114, 117, 101]⟩) ∧ w' = w := fun w => Tryd.strconv_FormatBool true w
      go_enter Tryd.func20, Tryd.ntmps20
      go_wp2_with (go_at_call 37; (with_reducible refine (hf _).mono ?_); rintro e w1 ⟨rfl, rfl⟩)
      go_ret
      exact ⟨rfl, b0 _⟩
  | int _ =>
    go_enter Tryd.func20, Tryd.ntmps20
    go_wp2_with (go_at_call 38; (refine (Tryd.strconv_Itoa n hn.1 hn.2 _ (T0 _).tab).mono ?_); rintro e w1 ⟨rfl, q, os, rfl⟩)
    go_ret
    exact ⟨rfl, (b0 _).trans ((below_grow4 _ q os).mono (b0 _).size)⟩
  | text _ hs =>
    obtain ⟨m, hm⟩ := (T0 (.cells #[.int .i64 3, .int .i64 0, .string s] 36)).len
    have hlen : s.size + Lib.countB s ⟨#[39]⟩ * (⟨#[39, 39]⟩ : ByteArray).size ≤ 140737488355328 := by
      have := Lib.countB_le ⟨#[39]⟩ (by decide) s.size s (Nat.le_refl _)
      have e : (⟨#[39, 39]⟩ : ByteArray).size = 2 := rfl
      rw [e]
      omega
    have HR := Tryd.strings_ReplaceAll s ⟨#[39]⟩ ⟨#[39, 39]⟩ m _ (by omega) hm (by decide) hlen
    have e1 : Lib.replaceAll s.data.toList (⟨#[39]⟩ : ByteArray).data.toList (⟨#[39, 39]⟩ : ByteArray).data.toList = esc s.toList := by
      rw [ByteArray.toList_eq]
      exact replaceAll_esc s.data.toList
    rw [e1] at HR
    have L := esc_len s.toList
    rw [toList_len] at L
    have e2 : txtV 3 0 s = 39 :: (esc s.toList ++ [39]) := rfl
    rw [e2]
    clear e1 e2 hlen hm
    generalize esc s.toList = l at HR L ⊢
    have hz : ¬ 9223372036854775807 < 1 + l.length := by omega
    have hz2 : ¬ 9223372036854775807 < 1 + l.length + 1 := by omega
    go_enter Tryd.func20, Tryd.ntmps20
    go_wp2_with (go_at_call 39; (refine HR.mono ?_); rintro e w1 ⟨rfl, b1⟩)
    go_ret
    exact ⟨ret_str (app3 l), (b0 _).trans (b1.mono (b0 _).size)⟩
end Go.Proofs.YtalnnifmlhckbaaDoor
