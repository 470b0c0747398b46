/-
  wal.read, wal.Scan, wal.Open, of a disk that is not dead.
-/
import Derived.Test.YtpfhggalbdjjmaaWRow
import Derived.Test.YtpfhggalbdjjmaaWSplit
import Derived.StillTailTactics
namespace Go.Proofs.Ytpfhggalbdjjmaa
open Go.RowKit

theorem TxtR.low {α : Type} {E : Enc α} {w : World} {e : TypeId} {B B' : Nat} {ao : Option Addr} {n c : Nat} {l : List α} (h : TxtR E w e B ao n c l) (hB : B' ≤ B) : TxtR E w e B' ao n c l := by
  rcases h.either with h | ⟨g, rfl, o, hg⟩
  · exact ⟨.inl h⟩
  · exact ⟨.inr ⟨g, rfl, o, Nat.le_trans hB hg⟩⟩
theorem Recs.low {w : World} {B B' : Nat} {ro : Option Addr} {rn rc : Nat} {ps : List (List UInt8)} (h : Recs w B ro rn rc ps) (hB : B' ≤ B) : Recs w B' ro rn rc ps := by
  obtain ⟨hs, h1, h2, h3⟩ := h
  refine ⟨hs, h1.low hB, h2, fun j h p a b => ?_⟩
  obtain ⟨x, y⟩ := h3 j h p a b
  exact ⟨x, fun a ha => ⟨Nat.le_trans hB (y a ha).1, (y a ha).2⟩⟩
/-- Page 0's numbers, none of them below 0; the log's bytes. -/
def hdN (s : Dk) : Nat := num ((s.pg 0).take 8)
def hdC (s : Dk) : Nat := num (((s.pg 0).drop 8).take 8)
def rowN (n : Nat) (s : Dk) : List UInt8 := if hdN s < 9223372036854775808 then (pgs s (n - 1)).take (hdN s) else []
/-- The records that a disk tells; whether there is a log. -/
def recL (n : Nat) (s : Dk) : List (List UInt8) := (splitB (rowN n s)).1
def rdOK (n : Nat) (s : Dk) : Prop := hdN s ≤ 64 * (n - 1) ∧ (splitB (rowN n s)).2 = true ∧ (recL n s).length = hdC s
instance (n : Nat) (s : Dk) : Decidable (rdOK n s) := inferInstanceAs (Decidable (hdN s ≤ 64 * (n - 1) ∧ (splitB (rowN n s)).2 = true ∧ (recL n s).length = hdC s))
def rdE (n : Nat) (s : Dk) : Int := if rdOK n s then 0 else 10
theorem hdS_eq (s : Dk) : hdS s = wrap64 (hdN s) := rfl
theorem hdK_eq (s : Dk) : hdK s = wrap64 (hdC s) := rfl
theorem hdN_lt (s : Dk) : hdN s < 18446744073709551616 := num_8 _
theorem hdC_lt (s : Dk) : hdC s < 18446744073709551616 := num_8 _
theorem row_plain (p : List UInt8) (x : Nat) (h : x < 18446744073709551616) : p.take (wrap64 (x : Int)).toNat = if x < 9223372036854775808 then p.take x else [] := by
  by_cases h1 : x < 9223372036854775808
  · rw [if_pos h1, wrap_small x h1, Int.toNat_natCast]
  · rw [if_neg h1]
    have := wrap_neg x (by omega) h
    rw [show (wrap64 (x : Int)).toNat = 0 by omega, List.take_zero]
theorem rowL_eq (n : Nat) (s : Dk) : rowL n s (hdS s) = rowN n s := by
  rw [hdS_eq]
  exact row_plain _ _ (hdN_lt s)
theorem head_plain (x : Nat) (h : x < 18446744073709551616) (R : Nat) (hR : R ≤ 1000000) : (0 ≤ wrap64 (x : Int) ∧ wrap64 (x : Int) ≤ R) ↔ x ≤ R := by
  rcases Nat.lt_or_ge x 9223372036854775808 with h1 | h1
  · rw [wrap_small x h1]; omega
  · have := wrap_neg x h1 h
    omega
theorem count_plain (x : Nat) (h : x < 18446744073709551616) (L : Nat) (hL : L ≤ 1000000) : (0 ≤ wrap64 (x : Int) ∧ (L : Int) = wrap64 (x : Int)) ↔ L = x := by
  rcases Nat.lt_or_ge x 9223372036854775808 with h1 | h1
  · rw [wrap_small x h1]; omega
  · have := wrap_neg x h1 h
    omega
theorem rd_plain (n : Nat) (h2 : 2 ≤ n) (hn : n ≤ 4096) (s : Dk) (hL : (recL n s).length ≤ 1000000) : (hdE n s = 0 ∧ (splitB (rowN n s)).2 = true ∧ ((recL n s).length : Int) = hdK s) ↔ rdOK n s := by
  unfold rdOK hdE
  rw [hdS_eq, hdK_eq]
  have h1 := head_plain (hdN s) (hdN_lt s) (64 * (n - 1)) (by omega)
  have h3 := count_plain (hdC s) (hdC_lt s) (recL n s).length hL
  have hr : roomN n = ((64 * (n - 1) : Nat) : Int) := by unfold roomN; omega
  rw [hr]
  generalize (recL n s).length = L at h3 ⊢
  generalize (splitB (rowN n s)).2 = b
  generalize wrap64 (hdN s : Int) = z at h1 ⊢
  generalize wrap64 (hdC s : Int) = k at h3 ⊢
  rw [← h1, ← h3]
  generalize ((64 * (n - 1) : Nat) : Int) = R
  constructor
  · rintro ⟨a, c, d⟩
    have : ¬ (z < 0 ∨ k < 0 ∨ R < z) := fun q => by rw [if_pos q] at a; cases a
    exact ⟨⟨by omega, by omega⟩, c, by omega, by omega⟩
  · rintro ⟨⟨a1, a2⟩, c, d1, d2⟩
    refine ⟨if_neg (by omega), c, d2⟩
/-- A reading is answered. -/
def ReadingIs (w : World) (e z k : Int) (ps : List (List UInt8)) (en : Ending) (w' : World) : Prop :=
  ∃ r ro rn rc, en = .returned (.pointer (some ⟨r, 0, none⟩)) ∧ Rg w' r e z k ro rn rc ∧ Recs w' w.heap.size ro rn rc ps ∧ Below w.heap.size w w' ∧ w.heap.size ≤ r
theorem wrap64_hi (x : Int) : wrap64 x ≤ 9223372036854775807 := by unfold wrap64; omega
/-- How the three errors make one. -/
theorem err_plain (e0 k : Int) (b : Bool) (ps : List (List UInt8)) (E : Int) (h0 : e0 = 0 ∨ e0 = 10) (hE1 : (e0 = 0 ∧ b = true ∧ (ps.length : Int) = k) → E = 0) (hE2 : ¬ (e0 = 0 ∧ b = true ∧ (ps.length : Int) = k) → E = 10) :
    ((ps.length : Int) = k → (if b then e0 else err1 e0 10) = E) ∧ ((ps.length : Int) ≠ k → err1 (if b then e0 else err1 e0 10) 10 = E) := by
  have hE : E = if e0 = 0 ∧ b = true ∧ (ps.length : Int) = k then 0 else 10 := by split <;> rename_i h; exact hE1 h; exact hE2 h
  subst hE
  rcases h0 with rfl | rfl <;> cases b <;> (refine ⟨fun h => ?_, fun h => ?_⟩) <;> simp [err1, h]
theorem hdE_two (n : Nat) (s : Dk) : hdE n s = 0 ∨ hdE n s = 10 := by unfold hdE; split <;> simp
set_option maxRecDepth 100000 in
set_option maxHeartbeats 1000000 in
/-- read, over letters. -/
theorem read_gen (d n : Nat) (S : Nat → Prop) (s : Dk) (w : World) (h : IsD w d n S s) (b : List UInt8) (ps : List (List UInt8)) (fl : Bool) (z k e0 E : Int) (hlen : b.length ≤ 1000000)
    (HH : ∀ w, IsD w d n S s → ∀ r, ¬ S r → Rg w r 0 0 0 none 0 0 → Calls Try.prog 50 #[.pointer (some ⟨r, 0, none⟩), .pointer (some ⟨d, 0, none⟩)] w (ToldR w r e0 z k none 0 0))
    (HRow : ∀ w, IsD w d n S s → ∀ r, Rg w r e0 z k none 0 0 → Calls Try.prog 52 #[.pointer (some ⟨r, 0, none⟩), .pointer (some ⟨d, 0, none⟩)] w (RowIs w b))
    (HSp : ∀ w r ao n c, Rg w r e0 z k none 0 0 → IsB w ao n c b → n ≤ 1000000 → (∀ a : Addr, ao = some a → a.block ≠ r ∧ a.block < w.heap.size) → Calls Try.prog 51 #[.pointer (some ⟨r, 0, none⟩), .slice ao n c] w (SplitIs w r (if fl then e0 else err1 e0 10) z k ps))
    (HE : Hid (((ps.length : Int) = k → (if fl then e0 else err1 e0 10) = E) ∧ ((ps.length : Int) ≠ k → err1 (if fl then e0 else err1 e0 10) 10 = E))) :
    Calls Try.prog 29 #[.pointer (some ⟨d, 0, none⟩)] w (ReadingIs w E z k ps) := by
  obtain ⟨e1, he1⟩ : ∃ e1, (if fl then e0 else err1 e0 10) = e1 := ⟨_, rfl⟩
  rw [he1] at HE
  simp only [he1] at HSp
  clear he1
  have hD1 := h.past ((Below.refl _ _).alloc (Nat.le_refl _) (.cells (rgC 0 0 0 0 none 0 0) 96))
  have hR1 : Rg (w.alloc (.cells (rgC 0 0 0 0 none 0 0) 96)) w.heap.size 0 0 0 none 0 0 := ⟨0, heap_alloc_new w _, .inl ⟨rfl, rfl⟩⟩
  have hrS : ¬ S w.heap.size := fun q => by have := h.lt _ q; omega
  have hB1 := ((Below.refl w.heap.size w).alloc (Nat.le_refl _) (.cells (rgC 0 0 0 0 none 0 0) 96))
  unfold rgC at hD1 hR1 hB1
  go_enter Try.func29, Try.ntmps29
  go_wp2_with fail
  generalize (w.alloc (.cells #[.int .u32 0, .int .i32 0, .int .u32 0, .int .i64 0, .int .i64 0, .int .i64 0, .slice none 0 0] 96)) = w1 at hD1 hR1 hB1 ⊢
  generalize hr : w.heap.size = r at hR1 hrS ⊢
  have hge : w.heap.size ≤ r := Nat.le_of_eq hr
  have hHr := Lib.hid hr
  clear hr
  refine (HH w1 hD1 r hrS hR1).mono ?_
  rintro en w2 ⟨rfl, R2, g2⟩
  have hlt2 := R2.lt
  have B2 := hB1.trans (grown_below g2 hge hB1.size)
  have D2 := hD1.kp (Kp.ofGrown (S := fun q => q = r) g2 (fun g e => (Option.some.inj e).symm)) (fun q hq e => hrS (by rw [← e]; exact hq))
  go_wp2_with fail
  refine (HRow w2 D2 r R2).mono ?_
  rintro en w3 ⟨ao, m, c, rfl, T3, b3⟩
  have R3 := R2.past b3
  have hm := T3.len
  have hao : ∀ a : Addr, ao = some a → a.block ≠ r ∧ a.block < w3.heap.size := fun a ha => by
    rcases T3.either with ⟨rfl, _⟩ | ⟨g, rfl, o, hg⟩
    · cases ha
    · cases ha
      have := o.lt
      exact ⟨by simp; omega, o.lt⟩
  have B3 := B2.trans (b3.mono B2.size)
  go_wp2_with fail
  refine (HSp w3 r ao m c R3 T3.isB (by omega) hao).mono ?_
  rintro en w4 ⟨ro, rn, rc, rfl, R4, P4, g4⟩
  have hrn := P4.len
  have B4 := B3.trans (grown_below g4 hge B3.size)
  have P4' := P4
  have hw3 : w.heap.size ≤ w3.heap.size := B3.size
  have hr3 : r < w3.heap.size := R3.lt
  clear HH HRow HSp P4 g4 R3 T3 b3 R2 g2 D2 hD1 hR1 hB1 B3 B2 hao hm
  have c5 := R4.c5
  have c6 := R4.c6
  by_cases hk : (rn : Int) = k
  · have hE : Hid (e1 = E) := HE.out.1 (by rw [hrn]; exact hk)
    have hkd : ((rn : Int) == k) = true := by simp [hk]
    have hkd2 : ((rn : Int) != k) = false := by simp [hk]
    clear HE
    have HK := Lib.hid hk
    clear hk
    go_wp2_with fail
    go_quiet (fail)
    go_wp2_with fail
    go_ret
    have b5 : Below w4.heap.size w4 (w4.drewN nq) := below_drewN (Below.refl _ _) nq
    have R5 := R4.past b5
    rw [hE.out] at R5
    exact ⟨r, ro, rn, rc, rfl, R5, (P4'.past b5).low hw3, B4.trans (b5.mono B4.size), hge⟩
  · have hE : Hid (err1 e1 10 = E) := HE.out.2 (by rw [hrn]; exact hk)
    have hkd : ((rn : Int) == k) = false := by simp [hk]
    have hkd2 : ((rn : Int) != k) = true := by simp [hk]
    clear HE
    go_wp2_with fail
    go_quiet (fail)
    have b5 : Below w4.heap.size w4 (w4.drewN nq) := below_drewN (Below.refl _ _) nq
    have R5 := R4.past b5
    have B5 := B4.trans (b5.mono B4.size)
    have P5 := P4'.past b5
    go_wp2_with fail
    refine (tell_any r e1 z k ro rn rc 10 _ R5).mono ?_
    rintro en w6 ⟨rfl, R6, g6⟩
    rw [hE.out] at R6
    go_wp2_with fail
    go_ret
    have B6 := B5.trans (grown_below g6 hge B5.size)
    exact ⟨r, ro, rn, rc, rfl, R6, (P5.kept g6 hr3).low hw3, B6, hge⟩
section
variable {w : World} {d n : Nat} {S : Nat → Prop} {s : Dk}
theorem row_length (n : Nat) (s : Dk) (h : n ≤ 4096) : (rowN n s).length ≤ 1000000 := by
  unfold rowN
  split
  · rw [List.length_take, pgs_length]
    omega
  · simp
theorem splitF_len : ∀ (f : Nat) (l : List UInt8), (splitF f l).1.length ≤ f
  | 0, _ => by simp [splitF]
  | f + 1, l => by
    unfold splitF
    split
    · simp
    · split
      · have := splitF_len f (cutB l)
        simp
        omega
      · simp
theorem recL_length (n : Nat) (s : Dk) (h : n ≤ 4096) : (recL n s).length ≤ 1000000 := Nat.le_trans (splitF_len _ _) (row_length n s h)
theorem read_any (h : IsD w d n S s) (hg : s.gone = false) (hn2 : 2 ≤ n) :
    Calls Try.prog 29 #[.pointer (some ⟨d, 0, none⟩)] w (ReadingIs w (rdE n s) (hdS s) (hdK s) (recL n s)) := by
  have hlen := row_length n s h.small
  have HP := rd_plain n hn2 h.small s (recL_length n s h.small)
  have HE := err_plain (hdE n s) (hdK s) (splitB (rowN n s)).2 (recL n s) (rdE n s) (hdE_two n s) (fun q => if_pos (HP.1 q)) (fun q => if_neg (fun r => q (HP.2 r)))
  have hz : hdS s ≤ 9223372036854775807 := wrap64_hi _
  have HH := fun w (h : IsD w d n S s) r hr R => readHead_any (w := w) h hg hn2 r hr R
  have HRow := fun w (h : IsD w d n S s) r (R : Rg w r (hdE n s) (hdS s) (hdK s) none 0 0) => row_any (w := w) h hg hn2 r _ (hdS s) _ none 0 0 R hz
  simp only [rowL_eq] at HRow
  have HSp := fun w r ao nn c R h hn hao => split_any (w := w) r (hdE n s) (hdS s) (hdK s) ao nn c (rowN n s) R h hn hao
  clear HP hz
  exact read_gen d n S s w h (rowN n s) (recL n s) (splitB (rowN n s)).2 (hdS s) (hdK s) (hdE n s) (rdE n s) hlen HH HRow HSp HE
/-- THE RECORDS AND WHETHER THERE IS A LOG are told. -/
def ScanIs (w : World) (ps : List (List UInt8)) (ok : Bool) (en : Ending) (w' : World) : Prop :=
  ∃ ro rn rc, en = .returned (.tuple #[.slice ro rn rc, .bool ok]) ∧ Recs w' w.heap.size ro rn rc ps ∧ Below w.heap.size w w'
theorem rdE_bool (n : Nat) (s : Dk) : (rdE n s == 0) = decide (rdOK n s) := by
  unfold rdE
  by_cases h : rdOK n s
  · rw [if_pos h]; simp [h]
  · rw [if_neg h]; simp [h]
set_option maxRecDepth 100000 in
set_option maxHeartbeats 1000000 in
theorem scan_gen (d : Nat) (w : World) (E z k : Int) (ps : List (List UInt8)) (ok : Bool) (hok : (E == 0) = ok) (HR : Calls Try.prog 29 #[.pointer (some ⟨d, 0, none⟩)] w (ReadingIs w E z k ps)) :
    Calls Try.prog 20 #[.pointer (some ⟨d, 0, none⟩)] w (ScanIs w ps ok) := by
  subst hok
  go_enter Try.func20, Try.ntmps20
  go_wp2_with fail
  refine HR.mono ?_
  rintro en w1 ⟨r, ro, rn, rc, rfl, R1, P1, b1, q1⟩
  have c3 := R1.c3
  have c6 := R1.c6
  go_wp2_with fail
  go_quiet (fail)
  go_wp2_with fail
  go_ret2
  exact ⟨ro, rn, rc, rfl, P1.past (below_drewN (Below.refl _ _) nq), below_drewN b1 nq⟩
theorem scan_any (h : IsD w d n S s) (hg : s.gone = false) (hn2 : 2 ≤ n) :
    Calls Try.prog 20 #[.pointer (some ⟨d, 0, none⟩)] w (ScanIs w (recL n s) (decide (rdOK n s))) :=
  scan_gen d w _ _ _ _ _ (rdE_bool n s) (read_any h hg hn2)
end
end Go.Proofs.Ytpfhggalbdjjmaa
