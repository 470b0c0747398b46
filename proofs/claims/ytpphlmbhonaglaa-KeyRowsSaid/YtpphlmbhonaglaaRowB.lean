/-
  Rows: what was written is read as it was (plain).
-/
import Derived.Test.YtpphlmbhonaglaaRowQ
import Derived.Test.YtpphlmbhonaglaaFront
import Derived.Test.YtpphlmbhonaglaaGood
namespace Go.Proofs.Ytpphlmbhonaglaa
open Go.RowKit

theorem v1_cons (u : UInt8) (r : List UInt8) : vN 1 (u :: r) 0 = (u.toNat : Int) ∧ dN 1 (u :: r) 0 = r ∧ eN 1 (u :: r) 0 = 0 := by
  have h := front [u] r
  have e : num [u] = u.toNat := by simp [num]
  have hu := u.toNat_lt
  refine ⟨?_, ?_, ?_⟩
  · have : tk 1 (u :: r) = [u] := h.1
    rw [vN, if_pos rfl, this, e, IntWalk.wrap64_in _ (by omega)]
  · rw [dN, if_pos rfl]; exact h.2.1
  · rw [eN, if_pos rfl]; exact h.2.2
theorem v8_front (n : Int) (h : -9223372036854775808 ≤ n ∧ n ≤ 9223372036854775807) (r : List UInt8) : vN 8 (le 8 (XU n) ++ r) 0 = n ∧ dN 8 (le 8 (XU n) ++ r) 0 = r ∧ eN 8 (le 8 (XU n) ++ r) 0 = 0 := by
  have hf := front (le 8 (XU n)) r
  rw [le_length] at hf
  refine ⟨?_, ?_, ?_⟩
  · rw [vN, if_pos rfl, hf.1, num_le]
    unfold XU wrap64
    omega
  · rw [dN, if_pos rfl]; exact hf.2.1
  · rw [eN, if_pos rfl]; exact hf.2.2
theorem up_cons (u : UInt8) (r : List UInt8) (m x : Int) (h : (u.toNat : Int) ≤ m) : upV m (u :: r) 0 = (u.toNat : Int) ∧ upE m x (u :: r) 0 = 0 := by
  obtain ⟨h1, _, h3⟩ := v1_cons u r
  unfold upV upE
  rw [h1, if_neg (by omega), if_neg (by omega)]
  exact ⟨rfl, h3⟩
/-- A valid value. -/
inductive Vok : V → Prop
  | none : Vok ⟨0, 0, ByteArray.empty⟩
  | bool (n : Int) : n = 0 ∨ n = 1 → Vok ⟨1, n, ByteArray.empty⟩
  | int (n : Int) : -9223372036854775808 ≤ n ∧ n ≤ 9223372036854775807 → Vok ⟨2, n, ByteArray.empty⟩
  | text (s : ByteArray) : s.size ≤ 60 → Vok ⟨3, 0, s⟩
theorem wf_range {n : Int} (h : (Lit.int .i64 n).wf = true) : -9223372036854775808 ≤ n ∧ n ≤ 9223372036854775807 := by
  have := bounds_i64 h
  omega
theorem gd_ok (v : V) (h : (Lit.int .i64 v.n).wf = true) : Vok (gd v) := by
  have l3 := wth_lo v.n 2 (by omega)
  have l4 := wth_hi v.n 2 (by omega)
  unfold gd
  split
  · exact .bool _ (by omega)
  split
  · exact .int _ (wf_range h)
  split
  · exact .text _ (by rw [ByteArray.size_extract]; omega)
  · exact .none
theorem tx_eq (s : ByteArray) (h : s.size ≤ 65535) : tx s.data.toList = le 2 s.data.toList.length ++ s.data.toList := by
  have hl : s.data.toList.length = s.size := by simp
  unfold tx
  rw [List.take_of_length_le (by omega)]
/-- One value is read back. -/
theorem rV_back (v : V) (h : Vok v) (r : List UInt8) : rV (encV v ++ r) 0 = v ∧ rL (encV v ++ r) 0 = r ∧ rE (encV v ++ r) 0 = 0 := by
  cases h with
  | none =>
    obtain ⟨h1, h2, h3⟩ := v1_cons 0 r
    obtain ⟨u1, u2⟩ := up_cons 0 r 3 3 (by decide)
    have e : encV ⟨0, 0, ByteArray.empty⟩ ++ r = 0 :: r := rfl
    rw [e]
    unfold rV rL rE
    rw [u1, u2, h2]
    exact ⟨rfl, rfl, rfl⟩
  | bool n hn =>
    have e : encV ⟨1, n, ByteArray.empty⟩ ++ r = 1 :: UInt8.ofNat (XU n % 256) :: r := rfl
    obtain ⟨h1, h2, h3⟩ := v1_cons 1 (UInt8.ofNat (XU n % 256) :: r)
    obtain ⟨u1, u2⟩ := up_cons 1 (UInt8.ofNat (XU n % 256) :: r) 3 3 (by decide)
    obtain ⟨g1, g2, g3⟩ := v1_cons (UInt8.ofNat (XU n % 256)) r
    rw [e]
    unfold rV rL rE
    rw [u1, u2, h2, g1, g2, g3]
    refine ⟨?_, rfl, rfl⟩
    rcases hn with rfl | rfl <;> rfl
  | int n hn =>
    have e : encV ⟨2, n, ByteArray.empty⟩ ++ r = 2 :: (le 8 (XU n) ++ r) := rfl
    obtain ⟨h1, h2, h3⟩ := v1_cons 2 (le 8 (XU n) ++ r)
    obtain ⟨u1, u2⟩ := up_cons 2 (le 8 (XU n) ++ r) 3 3 (by decide)
    obtain ⟨g1, g2, g3⟩ := v8_front n hn r
    rw [e]
    unfold rV rL rE
    rw [u1, u2, h2, g1, g2, g3]
    exact ⟨rfl, rfl, rfl⟩
  | text s hs =>
    have e : encV ⟨3, 0, s⟩ ++ r = 3 :: (le 2 s.data.toList.length ++ (s.data.toList ++ r)) := by
      show 3 :: (tx s.data.toList ++ r) = _
      rw [tx_eq s (by omega), List.append_assoc]
    obtain ⟨h1, h2, h3⟩ := v1_cons 3 (le 2 s.data.toList.length ++ (s.data.toList ++ r))
    obtain ⟨u1, u2⟩ := up_cons 3 (le 2 s.data.toList.length ++ (s.data.toList ++ r)) 3 3 (by decide)
    obtain ⟨g1, g2, g3⟩ := text_front s.data.toList (by simp; omega) r
    rw [e]
    unfold rV rL rE
    rw [u1, u2, h2, g1, g2, g3]
    exact ⟨rfl, rfl, rfl⟩
/-- Several are read back. -/
theorem rVs_back : ∀ (l : List V) (r : List UInt8), (∀ v ∈ l, Vok v) → rVs l.length (encVs l ++ r) 0 = l ∧ rLs l.length (encVs l ++ r) 0 = r ∧ rEs l.length (encVs l ++ r) 0 = 0
  | [], r, _ => ⟨rfl, rfl, rfl⟩
  | v :: l, r, h => by
    obtain ⟨h1, h2, h3⟩ := rV_back v (h v (by simp)) (encVs l ++ r)
    obtain ⟨g1, g2, g3⟩ := rVs_back l r (fun x hx => h x (by simp [hx]))
    rw [encVs_cons, List.append_assoc, List.length_cons, rVs, rLs, rEs, h1, h2, h3, g1, g2, g3]
    exact ⟨rfl, rfl, rfl⟩
theorem encVs_inj (a b : List V) (ha : ∀ v ∈ a, Vok v) (hb : ∀ v ∈ b, Vok v) (hl : a.length = b.length) (h : encVs a = encVs b) : a = b := by
  have h1 := (rVs_back a [] ha).1
  have h2 := (rVs_back b [] hb).1
  rw [List.append_nil] at h1 h2
  rw [← h1, ← h2, h, hl]
theorem encR_iff (a b : List V) (ha : ∀ v ∈ a, Vok v) (hb : ∀ v ∈ b, Vok v) (hl : a.length = b.length) : encR a = encR b ↔ a = b := by
  constructor
  · intro h
    unfold encR at h
    rw [hl] at h
    exact encVs_inj a b ha hb hl (List.append_cancel_left h)
  · intro h
    rw [h]
end Go.Proofs.Ytpphlmbhonaglaa
