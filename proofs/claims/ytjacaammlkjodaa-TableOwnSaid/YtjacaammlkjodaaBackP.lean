/-
  What was put and is taken again, plain.
-/
import Derived.Test.YtjacaammlkjodaaTabP
namespace Go.Proofs.Ytjacaammlkjodaa

theorem at_put {key : Nat} (r : List V) : ∀ rs : List (List V), atN key (kOf key r) (putN key r rs) = atN key (kOf key r) rs
  | [] => by
    show (if (kOf key r).cmp (kOf key r) < 0 then _ else 0) = 0
    rw [V.cmp_self, if_neg (by omega)]
  | x :: rs => by
    unfold putN
    by_cases h : (kOf key x).cmp (kOf key r) < 0
    · have ih := at_put (key := key) r rs
      unfold putN at ih
      simp only [atN, if_pos h, List.take_succ_cons, List.drop_succ_cons, List.cons_append]
      rw [ih]
    · simp only [atN, if_neg h, List.take_zero, List.drop_zero, List.nil_append]
      rw [V.cmp_self, if_neg (by omega)]
theorem get_put {key : Nat} (r : List V) (rs : List (List V)) : (putN key r rs)[atN key (kOf key r) rs]? = some r := by
  have hl := at_le key (kOf key r) rs
  unfold putN
  rw [List.getElem?_append_right (by rw [List.length_take]; omega), List.length_take, Nat.min_eq_left hl, Nat.sub_self]
  rfl
theorem has_put {key : Nat} (r : List V) (rs : List (List V)) : hasN key (kOf key r) (putN key r rs) = true := by
  unfold hasN
  rw [at_put, get_put]
  simp [V.cmp_self]
theorem take_put {key : Nat} (r : List V) (rs : List (List V)) : takeN key (kOf key r) (putN key r rs) = rs := by
  have hl := at_le key (kOf key r) rs
  unfold takeN
  rw [at_put]
  unfold putN
  have h1 : (rs.take (atN key (kOf key r) rs)).length = atN key (kOf key r) rs := by rw [List.length_take]; omega
  have e1 : (rs.take (atN key (kOf key r) rs) ++ r :: rs.drop (atN key (kOf key r) rs)).take (atN key (kOf key r) rs) = rs.take (atN key (kOf key r) rs) := by
    conv => lhs; arg 1; rw [← h1]
    rw [List.take_left]
  have e2 : (rs.take (atN key (kOf key r) rs) ++ r :: rs.drop (atN key (kOf key r) rs)).drop (atN key (kOf key r) rs + 1) = rs.drop (atN key (kOf key r) rs) := by
    rw [List.drop_append, h1, List.drop_of_length_le (by rw [h1]; omega), List.nil_append, Nat.add_sub_cancel_left]
    rfl
  rw [e1, e2, List.take_append_drop]
/-- The row that is found has the key. -/
theorem has_key {key : Nat} {k : V} {rs : List (List V)} (h : hasN key k rs = true) : ∃ x, rs[atN key k rs]? = some x ∧ kOf key x = k := by
  unfold hasN at h
  split at h
  · rename_i x hx
    exact ⟨x, hx, (V.cmp_zero _ _).1 (by simpa using h)⟩
  · cases h
end Go.Proofs.Ytjacaammlkjodaa
