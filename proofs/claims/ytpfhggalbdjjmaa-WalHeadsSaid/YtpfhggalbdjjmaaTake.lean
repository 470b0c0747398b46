/-
  bytes.Clone, code.New, (*code.Reader).End, take, number.
-/
import Derived.Test.YtpfhggalbdjjmaaReader
import Derived.Test.YtpfhggalbdjjmaaSmallI
import Derived.Test.YtpfhggalbdjjmaaCut
namespace Go.Proofs.Ytpfhggalbdjjmaa
open Go.RowKit

/-- A NEW SLICE (or none) OF THE BYTES l. -/
def Cloned (w : World) (n : Nat) (l : List UInt8) (en : Ending) (w' : World) : Prop :=
  ∃ ao' cap', en = .returned (.slice ao' n cap') ∧ IsB w' ao' n cap' l ∧ Below w.heap.size w w' ∧ ∀ a, ao' = some a → w.heap.size ≤ a.block ∧ a.block < w'.heap.size

set_option maxHeartbeats 400000 in
theorem clone_any (ao : Option Addr) (n cap : Nat) (l : List UInt8) (w : World) (h : IsB w ao n cap l) (hn : n ≤ 1000000) :
    Calls Try.prog 69 #[.slice ao n cap] w (Cloned w n l) := by
  have hq := fun (wx : World) (a : Option Addr) (n c n' c' : Nat) => Lib.run_eql_slice_nil (P := Try.prog) wx 31 5 a n c n' c' Try.underlying31
  cases ao with
  | none =>
    have h1 := h.nil rfl
    have h2 := h.le
    obtain rfl : cap = 0 := h1
    obtain rfl : n = 0 := by omega
    obtain rfl : l = [] := List.eq_nil_of_length_eq_zero h.len
    go_enter Try.func69, Try.ntmps69
    go_wp2_with fail
    go_ret
    exact ⟨none, 0, rfl, IsB.nilB w, Below.refl _ _, fun a h => by cases h⟩
  | some a =>
    go_enter Try.func69, Try.ntmps69
    go_wp2_with (at_builtin; refine wpList_append_ob rfl _ _ 31 31 rfl 5 byteTy _ 0 0 [] rfl (own_empty w) _ rfl n l ((h.alloc _).src byteTy.ht) n (Nat.zero_add _) l rfl (by omega) ?_; intro g1 c1 w1 o1 p1 q1)
    go_ret
    refine ⟨some ⟨g1, 0, none⟩, c1, rfl, o1.isB, below_puts (Below.refl _ _) p1 (Nat.le_refl _), fun a h => ?_⟩
    obtain rfl := Option.some.inj h
    exact ⟨ge_new q1, o1.lt⟩

/-- The slice of the bytes t is answered; reader g holds the bytes l and the error e; no other block that was there has changed. -/
def Took (w : World) (g : Nat) (D : Option Nat) (m : Nat) (t l : List UInt8) (e : Int) (en : Ending) (w' : World) : Prop :=
  ∃ ao' cap', en = .returned (.slice ao' m cap') ∧ IsB w' ao' m cap' t ∧ Rd w' g D l e ∧ w.grownBy w' (some g)

theorem rd_store {w : World} {g : Nat} {D : Option Nat} {ao ao2 : Option Addr} {n cap n2 cap2 : Nat} {l l2 : List UInt8} {d e : Int}
    (hb : w.heap[g]? = some (.cells #[.slice ao n cap, .int .u32 d, .int .i32 0, .int .u32 0, .int .i64 e] 155 (0, 0)))
    (hd : (e = 0 ∧ d = 0) ∨ (e ≠ 0 ∧ d = 1)) (hi : IsB w ao n cap l) (hD : ∀ a, ao = some a → D = some a.block) (hne : D ≠ some g) (h2 : IsB w ao2 n2 cap2 l2) (hD2 : ∀ a, ao2 = some a → D = some a.block) (m : Nat) (hm : m ≤ n) :
    Took w g D m (l.take m) l2 e (.returned (.slice ao m cap)) (w.setCell ⟨g, 0, none⟩ (.slice ao2 n2 cap2)) := by
  have G : w.grownBy (w.setCell ⟨g, 0, none⟩ (.slice ao2 n2 cap2)) (some g) := grown_setCell (World.grownBy.refl _ _)
  exact ⟨ao, cap, rfl, (IsB_take hi hm).grown G (fun a ha e => hne (by rw [hD a ha, e])),
    ⟨ao2, n2, cap2, d, (heap_setCell_same (i := 0) (v := .slice ao2 n2 cap2) hb).trans rfl, hd, h2.grown G (fun a ha e => hne (by rw [hD2 a ha, e])), hD2, hne⟩, G⟩

set_option maxHeartbeats 400000 in
theorem take_yes (g : Nat) (D : Option Nat) (l : List UInt8) (e : Int) (m : Nat) (w : World) (h : Rd w g D l e) (hm : m ≤ l.length) :
    Calls Try.prog 81 #[.pointer (some ⟨g, 0, none⟩), .int .i64 m] w (Took w g D m (l.take m) (l.drop m) e) := by
  obtain ⟨ao, n, cap, d, hb, hd, hi, hD, hne⟩ := h
  have hln := hi.len
  have c0 : w.cell? ⟨g, 0, none⟩ = some (.slice ao n cap) := cell_blk hb rfl
  have z0 : w.frozen? ⟨g, 0, none⟩ = false := free_blk hb
  have hmn : m ≤ n := by rw [← hln]; exact hm
  have hnc : n ≤ cap := hi.le
  have hcm : cap ≤ 9223372036854775807 := hi.max
  by_cases hcap : cap = m
  · obtain rfl : m = n := by omega
    obtain rfl : m = cap := hcap.symm
    have HR := Lib.hid (rd_store hb hd hi hD hne (IsB_end hi) hD m (Nat.le_refl _))
    clear hb hd hi hD hne hln hm hmn hnc
    go_enter Try.func81, Try.ntmps81
    go_wp2_with fail
    go_ret
    exact HR.out
  · have HR := Lib.hid (rd_store hb hd hi hD hne (IsB_drop hi hmn) (fun a ha => by obtain ⟨b, rfl, rfl⟩ := Option.map_eq_some_iff.1 ha; rw [block_add]; exact hD b rfl) m hmn)
    clear hb hd hi hD hne hln hm
    go_enter Try.func81, Try.ntmps81
    go_wp2_with fail
    go_ret
    exact HR.out

set_option maxHeartbeats 400000 in
theorem take_no (g : Nat) (D : Option Nat) (l : List UInt8) (e : Int) (m : Nat) (w : World) (h : Rd w g D l e) (hm : l.length < m) :
    Calls Try.prog 81 #[.pointer (some ⟨g, 0, none⟩), .int .i64 m] w (Took w g D 0 [] l (err1 e 8)) := by
  have H := Lib.hid h
  obtain ⟨ao, n, cap, d, hb, hd, hi, hD, hne⟩ := h
  have hln := hi.len
  have c0 : w.cell? ⟨g, 0, none⟩ = some (.slice ao n cap) := cell_blk hb rfl
  have hmn : n < m := by rw [← hln]; exact hm
  clear hb hd hi hD hne hln hm
  go_enter Try.func81, Try.ntmps81
  go_wp2_with (go_at_call 84; refine (fail_any g D l e 8 _ H.out).mono ?_; rintro en w1 ⟨rfl, h1, k1⟩)
  go_ret
  exact ⟨none, 0, rfl, IsB.nilB _, h1, k1⟩

/-- What take answers, leaves, and the error that there is behind it. -/
def tk (m : Nat) (l : List UInt8) : List UInt8 := if m ≤ l.length then l.take m else []
def dr (m : Nat) (l : List UInt8) : List UInt8 := if m ≤ l.length then l.drop m else l
def er (m : Nat) (l : List UInt8) (e : Int) : Int := if m ≤ l.length then e else err1 e 8

theorem take_any (g : Nat) (D : Option Nat) (l : List UInt8) (e : Int) (m : Nat) (M : Int) (hM : M = (m : Int)) (w : World) (h : Rd w g D l e) :
    Calls Try.prog 81 #[.pointer (some ⟨g, 0, none⟩), .int .i64 M] w (Took w g D (tk m l).length (tk m l) (dr m l) (er m l e)) := by
  subst hM
  unfold tk dr er
  by_cases hm : m ≤ l.length
  · rw [if_pos hm, if_pos hm, if_pos hm, List.length_take, Nat.min_eq_left hm]
    exact take_yes g D l e m w h hm
  · rw [if_neg hm, if_neg hm, if_neg hm]
    exact take_no g D l e m w h (by omega)

/-- The number that bytes say, the lowest first. -/
def num : List UInt8 → Nat
  | [] => 0
  | b :: r => b.toNat + 256 * num r
theorem num_snoc : ∀ (l : List UInt8) (b : UInt8), num (l ++ [b]) = num l + b.toNat * 256 ^ l.length
  | [], b => by simp [num]
  | a :: l, b => by
    rw [List.cons_append, num, num_snoc l b, num, List.length_cons, Nat.pow_succ]
    have e : 256 * (b.toNat * 256 ^ l.length) = b.toNat * (256 ^ l.length * 256) := by
      rw [Nat.mul_comm 256, Nat.mul_assoc]
    omega
theorem num_le : ∀ k x, num (le k x) = x % 256 ^ k
  | 0, x => by simp [le, num]; omega
  | k + 1, x => by
    have e : 256 ^ (k + 1) = 256 * 256 ^ k := by rw [Nat.pow_succ, Nat.mul_comm]
    rw [le, num, num_le k (x / 256), UInt8.toNat_ofNat', e, Nat.mod_mul]
    omega

theorem num_lt : ∀ l : List UInt8, num l < 256 ^ l.length
  | [] => by simp [num]
  | a :: l => by
    have h1 := num_lt l
    have h2 := a.toNat_lt
    rw [num, List.length_cons, Nat.pow_succ]
    omega

theorem or_step (q x j : Nat) (hq : q < 256 ^ j) (hx : x < 256) (hj : j ≤ 7) :
    bits .or .u64 (q : Int) (IntKind.u64.wrap (IntKind.u64.wrap (x : Int) * 2 ^ (8 * j))) = ((q + x * 256 ^ j : Nat) : Int) := by
  have e : (2 : Nat) ^ (8 * j) = 256 ^ j := by rw [Nat.pow_mul]
  have e' : (2 : Int) ^ (8 * j) = ((256 ^ j : Nat) : Int) := by rw [Int.pow_mul]; simp
  have h8 : 256 ^ (j + 1) ≤ 256 ^ 8 := Nat.pow_le_pow_right (by omega) (by omega)
  have h1 : x * 256 ^ j < 18446744073709551616 := by
    have : x * 256 ^ j < 256 * 256 ^ j := Nat.mul_lt_mul_of_pos_right hx (Nat.pow_pos (by omega))
    rw [Nat.pow_succ, Nat.mul_comm] at h8
    omega
  have h2 : q < 18446744073709551616 := by
    have : 256 ^ j ≤ 256 ^ 8 := Nat.pow_le_pow_right (by omega) (by omega)
    omega
  rw [IntWalk.u64_in (x : Int) (by omega), e', ← Int.natCast_mul, IntWalk.u64_in _ (by omega), bits_or_u64_nat q (x * 256 ^ j) h2 h1]
  congr 1
  rw [Nat.or_comm, ← e, ← Nat.shiftLeft_eq, ← Nat.shiftLeft_add_eq_or_of_lt (by rw [e]; exact hq), Nat.add_comm]

theorem num_step (t : List UInt8) (j q : Nat) (hj : j < t.length) (ht : t.length ≤ 8) (hq : q = num (t.take j)) :
    bits .or .u64 (q : Int) (IntKind.u64.wrap (IntKind.u64.wrap ((t[j]).toNat : Int) * 2 ^ (8 * j))) = (num (t.take (j + 1)) : Int) := by
  have hl : (t.take j).length = j := by rw [List.length_take]; omega
  have hlt := num_lt (t.take j)
  rw [hl] at hlt
  rw [hq, or_step _ _ j hlt (t[j]).toNat_lt (by omega), List.take_succ_eq_append_getElem hj, num_snoc, hl]

theorem IsB_open {w : World} {ao : Option Addr} {n cap : Nat} {l : List UInt8} (h : IsB w ao n cap l) (hn : 0 < n) :
    ∃ b off, ao = some ⟨b, off, none⟩ ∧ ∀ j, j < n → w.cell? ⟨b, off + j, none⟩ = some (.int .u8 ((l.getD j 0).toNat : Int)) := by
  have hl := h.len
  have hle := h.le
  cases ao with
  | none => have := h.nil rfl; omega
  | some a =>
    obtain ⟨b, off, spot⟩ := a
    have hc : ∀ j, j < n → w.cell? ((⟨b, off, spot⟩ : Addr).add j) = some (.int .u8 ((l.getD j 0).toNat : Int)) := fun j hj => by
      have hj' : j < l.length := by omega
      rw [h.cell _ rfl j (l[j]) (List.getElem?_eq_getElem hj')]
      simp [bc, List.getD, hj']
    have h0 := hc 0 hn
    have hspot : spot = none := by simpa [Addr.add] using World.cell?_spot h0
    subst hspot
    exact ⟨b, off, rfl, fun j hj => by have := hc j hj; rwa [Addr.add_lit] at this⟩

/-- The number n is answered; reader g holds the bytes l and the error e; no other block that was there has changed. -/
def Said (w : World) (g : Nat) (D : Option Nat) (n : Int) (l : List UInt8) (e : Int) (en : Ending) (w' : World) : Prop :=
  en = .returned (.int .i64 n) ∧ Rd w' g D l e ∧ w.grownBy w' (some g)

set_option maxHeartbeats 400000 in
theorem number_any (g : Nat) (D : Option Nat) (l : List UInt8) (e : Int) (k : Nat) (K : Int) (hK : K = (k : Int)) (hk : k ≤ 8) (w : World) (h : Rd w g D l e) :
    Calls Try.prog 78 #[.pointer (some ⟨g, 0, none⟩), .int .i64 K] w (Said w g D (wrap64 (num (tk k l))) (dr k l) (er k l e)) := by
  subst hK
  go_enter Try.func78, Try.ntmps78
  go_wp2_with (go_at_call 81; refine (take_any g D l e k _ rfl _ h).mono ?_; rintro en w1 ⟨ao, cap, rfl, hi, h1, k1⟩)
  have htk : (tk k l).length ≤ 8 := by unfold tk; split <;> simp <;> omega
  go_loop [5, 6, 7, 12] (fun u i7 x7 i => ∃ j q : Nat, j ≤ (tk k l).length ∧ i = .int .i64 (j : Nat) ∧ u = .int .u64 (q : Nat) ∧ Hid (q = num ((tk k l).take j))) (fun _ _ _ i => (tk k l).length - (intOf i).toNat)
  case atStart => exact ⟨0, 0, by omega, rfl, rfl, rfl⟩
  case round =>
    obtain ⟨j, q, hj, rfl, rfl, hq⟩ := hrel
    by_cases hlt : j < (tk k l).length
    · obtain ⟨b, off, rfl, hc⟩ := IsB_open hi (by omega)
      have hcj := hc j hlt
      clear hc
      have HS := Lib.hid (num_step (tk k l) j q hlt htk hq.out)
      go_wp2_with fail
      go_round
      case rel => exact ⟨j + 1, num ((tk k l).take (j + 1)), by omega, by go_num, by rw [HS.out], rfl⟩
      case measure => simp [intOf]; omega
    · go_wp2_with fail
      go_ret
      have e : q = num (tk k l) := by rw [hq.out, List.take_of_length_le (by omega)]
      exact ⟨ret_int (by rw [← e]), h1, k1⟩
end Go.Proofs.Ytpfhggalbdjjmaa
