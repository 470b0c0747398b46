/-
  Rows: what is read is written as it stood (plain).
-/
import Derived.Test.YtpphlmbhonaglaaRefP5
import Derived.Test.YtpphlmbhonaglaaRowB
namespace Go.Proofs.Ytpphlmbhonaglaa
open Go.RowKit

theorem num_lt256 : ∀ l : List UInt8, num l < 256 ^ l.length
  | [] => by simp [num]
  | b :: r => by
    have h := num_lt256 r
    have hb := b.toNat_lt
    rw [num, List.length_cons, Nat.pow_succ]
    omega
theorem le_num : ∀ l : List UInt8, le l.length (num l) = l
  | [] => rfl
  | b :: r => by
    have hb := b.toNat_lt
    have h1 : (b.toNat + 256 * num r) % 256 = b.toNat := by omega
    have h2 : (b.toNat + 256 * num r) / 256 = num r := by omega
    rw [num, List.length_cons, le, h1, h2, le_num r, UInt8.ofNat_toNat]
theorem er_zero {m : Nat} {l : List UInt8} {e : Int} (h : er m l e = 0) : m ≤ l.length ∧ e = 0 := by
  unfold er err1 at h
  split at h
  · exact ⟨by assumption, h⟩
  · split at h <;> omega
theorem n_back (k : Nat) (hk : k ≤ 8) (l : List UInt8) (h : eN k l 0 = 0) : l = le k (XU (vN k l 0)) ++ dN k l 0 := by
  rw [eN, if_pos rfl] at h
  obtain ⟨hl, _⟩ := er_zero h
  have e1 : tk k l = l.take k := by unfold tk; rw [if_pos hl]
  have e2 : dr k l = l.drop k := by unfold dr; rw [if_pos hl]
  rw [vN, if_pos rfl, dN, if_pos rfl, e1, e2]
  have hlen : (l.take k).length = k := by rw [List.length_take]; omega
  have hn := num_lt256 (l.take k)
  rw [hlen] at hn
  have hp : 256 ^ k ≤ 256 ^ 8 := Nat.pow_le_pow_right (by omega) hk
  have hx : XU (wrap64 ((num (l.take k) : Nat) : Int)) = num (l.take k) := by
    have : (256 : Nat) ^ 8 = 18446744073709551616 := by decide
    unfold XU wrap64
    omega
  have hle := le_num (l.take k)
  rw [hlen] at hle
  rw [hx, hle, List.take_append_drop]
theorem eN_err {k : Nat} {l : List UInt8} {e : Int} (h : eN k l e = 0) : e = 0 := by
  unfold eN at h
  split at h
  · assumption
  · exact h
theorem eT_err {l : List UInt8} {e : Int} (h : eT l e = 0) : e = 0 := by
  unfold eT at h
  split at h
  · assumption
  · exact h
theorem t_back (l : List UInt8) (h : eT l 0 = 0) : l = tx (vT l 0) ++ dT l 0 := by
  rw [eT, if_pos rfl] at h
  obtain ⟨h1, h2⟩ := er_zero h
  obtain ⟨h3, _⟩ := er_zero h2
  have e1 : tk 2 l = l.take 2 := by unfold tk; rw [if_pos h3]
  have e2 : dr 2 l = l.drop 2 := by unfold dr; rw [if_pos h3]
  rw [e1, e2] at h1
  have hlen : (l.take 2).length = 2 := by rw [List.length_take]; omega
  have hn := num_lt256 (l.take 2)
  have hle := le_num (l.take 2)
  rw [hlen] at hn hle
  rw [vT, if_pos rfl, dT, if_pos rfl, e1, e2]
  generalize num (l.take 2) = m at *
  have f1 : tk m (l.drop 2) = (l.drop 2).take m := by unfold tk; rw [if_pos h1]
  have f2 : dr m (l.drop 2) = (l.drop 2).drop m := by unfold dr; rw [if_pos h1]
  have hl2 : ((l.drop 2).take m).length = m := by rw [List.length_take]; omega
  rw [f1, f2]
  unfold tx
  rw [List.take_of_length_le (by omega), hl2, hle, List.append_assoc, List.take_append_drop, List.take_append_drop]
/-- One value that is read is written as it stood. -/
theorem rV_enc (l : List UInt8) (h : rE l 0 = 0) : l = encV (rV l 0) ++ rL l 0 := by
  obtain ⟨r4, r0, r1, r2, r3⟩ := r_kind l
  have hlo := vN_lo l 0
  have hc : vN 1 l 0 = 0 ∨ vN 1 l 0 = 1 ∨ vN 1 l 0 = 2 ∨ vN 1 l 0 = 3 ∨ 3 < vN 1 l 0 := by omega
  rcases hc with hk | hk | hk | hk | hk
  · obtain ⟨a, b, c⟩ := r0 hk
    have h0 := b.symm.trans h
    have hb := n_back 1 (by omega) l h0
    rw [hk] at hb
    rw [a, c]
    exact hb
  · obtain ⟨a, b, c⟩ := r1 hk
    have h0 := b.symm.trans h
    have h1 := eN_err h0
    rw [h1] at a c h0
    have hb := n_back 1 (by omega) l h1
    have hb2 := n_back 1 (by omega) _ h0
    rw [hk] at hb
    rw [a, c]
    show l = (le 1 (XU 1) ++ le 1 (XU (vN 1 (dN 1 l 0) 0))) ++ _
    rw [List.append_assoc, ← hb2]
    exact hb
  · obtain ⟨a, b, c⟩ := r2 hk
    have h0 := b.symm.trans h
    have h1 := eN_err h0
    rw [h1] at a c h0
    have hb := n_back 1 (by omega) l h1
    have hb2 := n_back 8 (by omega) _ h0
    rw [hk] at hb
    rw [a, c]
    show l = (le 1 (XU 2) ++ le 8 (XU (vN 8 (dN 1 l 0) 0))) ++ _
    rw [List.append_assoc, ← hb2]
    exact hb
  · obtain ⟨a, b, c⟩ := r3 hk
    have h0 := b.symm.trans h
    have h1 := eT_err h0
    rw [h1] at a c h0
    have hb := n_back 1 (by omega) l h1
    have hb2 := t_back _ h0
    rw [hk] at hb
    rw [a, c]
    show l = (le 1 (XU 3) ++ tx (vT (dN 1 l 0) 0)) ++ _
    rw [List.append_assoc, ← hb2]
    exact hb
  · exact absurd h (r4 hk).2.2
theorem rVs_enc : ∀ (n : Nat) (l : List UInt8), rEs n l 0 = 0 → l = encVs (rVs n l 0) ++ rLs n l 0
  | 0, _, _ => rfl
  | n + 1, l, h => by
    rw [rEs] at h
    have h0 : rE l 0 = 0 := by
      by_cases q : rE l 0 = 0
      · exact q
      · exact absurd ((rs_err n (rL l 0) _ q).2.symm.trans h) q
    rw [h0] at h
    rw [rVs, rLs, h0, encVs_cons, List.append_assoc, ← rVs_enc n _ h]
    exact rV_enc l h0
/-- What is read is written as it stood. -/
theorem par_enc (b : List UInt8) (h : parE b = 0) : encR (parV b) = b ∧ (parV b).length ≤ 6 := by
  have hp : pE b = 0 := by
    by_cases q : pE b = 0
    · exact q
    · unfold parE at h; rw [if_neg q] at h; exact h
  have hv : parV b = pV b := by unfold parV; rw [if_pos h]
  rw [hv]
  unfold pE endE at hp
  have h1 : rEs (pN b) (dN 1 b 0) (upE 6 4 b 0) = 0 := by
    split at hp
    · assumption
    · exact hp
  rw [if_pos h1] at hp
  have h2 : rLs (pN b) (dN 1 b 0) (upE 6 4 b 0) = [] := by
    split at hp
    · assumption
    · omega
  have h3 : upE 6 4 b 0 = 0 := by
    by_cases q : upE 6 4 b 0 = 0
    · exact q
    · exact absurd ((rs_err _ _ _ q).2.symm.trans h1) q
  have hlo := vN_lo b 0
  have h6 : ¬ 6 < vN 1 b 0 := fun q => by
    unfold upE at h3
    rw [if_pos q] at h3
    unfold err1 at h3
    split at h3 <;> omega
  have e1 : upV 6 b 0 = vN 1 b 0 := by unfold upV; rw [if_neg h6]
  have e2 : eN 1 b 0 = 0 := by unfold upE at h3; rwa [if_neg h6] at h3
  have hN : ((pN b : Nat) : Int) = vN 1 b 0 := by unfold pN; rw [e1]; omega
  have hb := n_back 1 (by omega) b e2
  unfold pV encR
  rw [rVs_length, hN]
  rw [h3] at h1 h2 ⊢
  have he := rVs_enc _ _ h1
  rw [h2, List.append_nil] at he
  rw [← he]
  exact ⟨hb.symm, by omega⟩
theorem vok_chk (v : V) (h : Vok v) : v.chk = 0 := by
  cases h with
  | none => show chkV 0 0 ByteArray.empty = 0; unfold chkV; simp
  | bool n hn => show chkV 1 n ByteArray.empty = 0; unfold chkV; simp [hn]
  | int n hn => show chkV 2 n ByteArray.empty = 0; unfold chkV; simp
  | text s hs =>
    show chkV 3 0 s = 0
    unfold chkV
    rw [if_neg (by decide), if_neg (by decide), if_neg (by decide), if_pos rfl, if_pos rfl, if_neg (by omega)]
theorem chkAll_ok : ∀ l : List V, (∀ v ∈ l, Vok v) → chkAll l = 0
  | [], _ => rfl
  | v :: l, h => by
    rw [chkAll, if_pos (vok_chk v (h v (by simp)))]
    exact chkAll_ok l (fun x hx => h x (by simp [hx]))
/-- What was written of a valid row is read, if it is not too long. -/
theorem enc_par (r : List V) (hr : ∀ v ∈ r, Vok v) (hl : r.length ≤ 12) : parE (encR r) = 0 ↔ r.length ≤ 6 := by
  have hb : encR r = UInt8.ofNat r.length :: encVs r := by
    unfold encR XU
    have : ((r.length : Nat) : Int) % 18446744073709551616 = r.length := by omega
    rw [this, Int.toNat_natCast]
    show UInt8.ofNat (r.length % 256) :: _ = _
    rw [Nat.mod_eq_of_lt (by omega)]
    rfl
  have hu : (UInt8.ofNat r.length).toNat = r.length := by rw [UInt8.toNat_ofNat', Nat.mod_eq_of_lt (by omega)]
  rw [hb]
  obtain ⟨v1, v2, v3⟩ := v1_cons (UInt8.ofNat r.length) (encVs r)
  rw [hu] at v1
  by_cases h6 : r.length ≤ 6
  · obtain ⟨u1, u2⟩ := up_cons (UInt8.ofNat r.length) (encVs r) 6 4 (by omega)
    rw [hu] at u1
    have hN : pN (UInt8.ofNat r.length :: encVs r) = r.length := by unfold pN; rw [u1, Int.toNat_natCast]
    obtain ⟨g1, g2, g3⟩ := rVs_back r [] hr
    rw [List.append_nil] at g1 g2 g3
    have hE : pE (UInt8.ofNat r.length :: encVs r) = 0 := by unfold pE; rw [hN, u2, v2, g2, g3]; rfl
    have hV : pV (UInt8.ofNat r.length :: encVs r) = r := by unfold pV; rw [hN, u2, v2, g1]
    refine ⟨fun _ => h6, fun _ => ?_⟩
    unfold parE
    rw [if_pos hE, hV]
    exact chkAll_ok r hr
  · have e1 : upV 6 (UInt8.ofNat r.length :: encVs r) 0 = 0 := by unfold upV; rw [v1, if_pos (by omega)]
    have e2 : upE 6 4 (UInt8.ofNat r.length :: encVs r) 0 = 4 := by unfold upE; rw [v1, if_pos (by omega), v3]; rfl
    have hN : pN (UInt8.ofNat r.length :: encVs r) = 0 := by unfold pN; rw [e1]; rfl
    have hE : pE (UInt8.ofNat r.length :: encVs r) = 4 := by unfold pE; rw [hN, e2]; rfl
    refine ⟨fun h => ?_, fun h => absurd h h6⟩
    unfold parE at h
    rw [hE, if_neg (by decide)] at h
    omega
end Go.Proofs.Ytpphlmbhonaglaa
