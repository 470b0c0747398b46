/-
  What a crash leaves of a disk that holds a log, wherever the power went within an append.
  The law's own 'rows', of two rows that are the same.
  A slice of bools that comes in; of slices of bytes, with its capacity; the front of such a slice. (XOpenP's two theorems besides: a claim has at most 60 files.)
  WalCrashes, walked.
-/
import Derived.Test.YtpfhggalbdjjmaaLaw8
import Derived.Test.YtpfhggalbdjjmaaIsP
import Derived.Deep.RegionHeld3
import Derived.Test.YtpfhggalbdjjmaaOpenI
import Derived.Test.YtpfhggalbdjjmaaRow
import Derived.Deep.Grids
import Derived.Deep.Matrix
namespace Go.Proofs.Ytpfhggalbdjjmaa
open Go.RowKit

/-- WHAT IS NOT ON ITS WAY IS KEPT AS IT READS. -/
structure Clean (s : Dk) : Prop where
  len : s.kept.length = s.last.length
  in_ : ∀ x ∈ s.pend, x.1 < s.last.length
  same : ∀ q, (∀ x ∈ s.pend, x.1 ≠ q) → s.kp q = s.pg q
theorem Clean.put {s : Dk} (h : Clean s) (p : Nat) (b : List UInt8) (hp : p < s.last.length) : Clean (s.put p b) := by
  refine ⟨?_, fun x hx => ?_, fun q hq => ?_⟩
  · show s.kept.length = (s.last.set p (pad b)).length
    rw [List.length_set]
    exact h.len
  · show x.1 < (s.last.set p (pad b)).length
    rw [List.length_set]
    have hx' : x ∈ s.pend ++ [(p, pad b)] := hx
    rcases List.mem_append.1 hx' with h1 | h1
    · exact h.in_ x h1
    · rw [List.mem_singleton.1 h1]; exact hp
  · have h1 : q ≠ p := fun e => hq (p, pad b) (by show _ ∈ s.pend ++ [(p, pad b)]; simp) e.symm
    have h2 := h.same q fun x hx => hq x (by show _ ∈ s.pend ++ [(p, pad b)]; simp [hx])
    rw [pg_put s p q b hp, if_neg h1, ← h2]
    rfl
theorem Clean.spent {s : Dk} (h : Clean s) : Clean s.spent := by
  unfold Dk.spent
  split
  · exact ⟨h.len, h.in_, h.same⟩
  · exact ⟨h.len, h.in_, h.same⟩
theorem Clean.sync {s : Dk} (h : Clean s) : Clean s.sync := by
  refine ⟨?_, (fun x hx => by cases hx), fun q _ => ?_⟩
  · show (syncs s.last s.kept s.pend).length = s.last.length
    rw [syncs_length]
    exact h.len
  · have hk := syncs_at s.last q s.pend s.kept (fun x hx => by rw [h.len]; exact h.in_ x hx)
    show pad ((syncs s.last s.kept s.pend).getD q []) = pad (s.last.getD q [])
    by_cases e : ∃ x ∈ s.pend, x.1 = q
    · exact hk.1 e
    · rw [hk.2 fun x hx he => e ⟨x, hx, he⟩]
      exact h.same q fun x hx he => e ⟨x, hx, he⟩
theorem clean_new (n : Nat) : Clean (newD n) := ⟨rfl, (fun x hx => by cases hx), fun _ _ => rfl⟩
theorem wrF_clean (s : Dk) (h : Clean s) (p : Nat) (X : List UInt8) : ∀ k, p + k ≤ s.last.length → Clean (wrF s p X (List.range k)).1
  | 0, _ => h
  | k + 1, hk => by
    have ih := wrF_clean s h p X k (by omega)
    rw [List.range_succ, wrF_snoc, wrStep]
    exact (ih.put _ _ (by rw [wrF_page, List.length_range, wrF_last]; omega)).spent
theorem pend_spent (s : Dk) : s.spent.pend = s.pend := by unfold Dk.spent; split <;> rfl
theorem kept_spent (s : Dk) : s.spent.kept = s.kept := by unfold Dk.spent; split <;> rfl
theorem wrF_pendL (s : Dk) (p : Nat) (X : List UInt8) : ∀ k, (wrF s p X (List.range k)).1.pend = s.pend ++ (List.range k).map (fun j => (p + j, pad (chk X j)))
  | 0 => by simp [wrF]
  | k + 1 => by
    rw [List.range_succ, wrF_snoc, wrStep, pend_spent, wrF_page, List.length_range]
    show (wrF s p X (List.range k)).1.pend ++ [(p + k, pad (chk X k))] = _
    rw [wrF_pendL s p X k, List.map_append, List.append_assoc]
    rfl
theorem wrF_kept (s : Dk) (p : Nat) (X : List UInt8) : ∀ k, (wrF s p X (List.range k)).1.kept = s.kept
  | 0 => rfl
  | k + 1 => by
    rw [List.range_succ, wrF_snoc, wrStep, kept_spent]
    exact wrF_kept s p X k
theorem set_getD (l : List (List UInt8)) (p q : Nat) (x : List UInt8) (h : p < l.length) : (l.set p x).getD q [] = if q = p then x else l.getD q [] := by
  simp only [List.getD_eq_getElem?_getD, List.getElem?_set]
  by_cases e : p = q
  · subst e
    simp [h]
  · simp [e, Ne.symm e]
theorem pad_mix (x q : List UInt8) (a : Nat) : mix (pad x) a q = mix x a q := by unfold mix; rw [pad_pad]
theorem pad_tkp (x b : List UInt8) (hb : b.length = 64) (pick : Int) : pad (tkp x b pick) = tkp (pad x) b pick := by
  have l0 : ((b.drop (0 * 32)).take 32).length = 32 := by simp [hb]
  have l1 : ((b.drop (1 * 32)).take 32).length = 32 := by simp [hb]
  unfold tkp
  by_cases h1 : pick / 2 ^ 1 % 2 = 1
  · rw [half_yes h1, half_yes h1, pad_of (mix_length (by omega))]
    by_cases h0 : pick / 2 ^ 0 % 2 = 1
    · rw [half_yes h0, half_yes h0]
      show mix (mix x _ _) _ _ = mix (mix (pad x) _ _) _ _
      rw [pad_mix]
    · rw [half_no h0, half_no h0]
      show mix x _ _ = mix (pad x) _ _
      rw [pad_mix]
  · rw [half_no h1, half_no h1]
    by_cases h0 : pick / 2 ^ 0 % 2 = 1
    · rw [half_yes h0, half_yes h0, pad_of (mix_length (by omega))]
      show mix x _ _ = mix (pad x) _ _
      rw [pad_mix]
    · rw [half_no h0, half_no h0]
      rfl
theorem cr_k (kept last : List (List UInt8)) (l : List (Nat × List UInt8)) (ps : List Int) (k xp : Nat) (xb : List UInt8) (hx : l[k]? = some (xp, xb)) (hp : xp < kept.length) (hl : kept.length = last.length) (q : Nat) :
    pad ((cr kept last l ps (k + 1)).1.getD q []) = (if q = xp then tkp (pad ((cr kept last l ps k).1.getD q [])) (pad xb) (ps.getD k 0) else pad ((cr kept last l ps k).1.getD q [])) ∧
    pad ((cr kept last l ps (k + 1)).2.getD q []) = (if q = xp then tkp (pad ((cr kept last l ps k).1.getD q [])) (pad xb) (ps.getD k 0) else pad ((cr kept last l ps k).2.getD q [])) := by
  rw [cr_step kept last l ps k xp xb _ hx rfl (by rw [cr_kept]; exact hp)]
  have h1 := cr_kept kept last l ps k
  have h2 := cr_last kept last l ps k
  generalize (cr kept last l ps k).1 = A at h1 ⊢
  generalize (cr kept last l ps k).2 = B at h2 ⊢
  refine ⟨?_, ?_⟩
  · rw [set_getD _ _ _ _ (by omega)]
    by_cases e : q = xp
    · rw [if_pos e, if_pos e, pad_tkp _ _ (pad_length _), e]
    · rw [if_neg e, if_neg e]
  · show pad ((B.set xp (pad ((A.set xp (tkp (A.getD xp []) (pad xb) (ps.getD k 0))).getD xp []))).getD q []) = _
    rw [set_getD _ _ _ _ (by omega)]
    by_cases e : q = xp
    · rw [if_pos e, if_pos e, pad_pad, set_getD _ _ _ _ (by omega), if_pos rfl, pad_tkp _ _ (pad_length _), e]
    · rw [if_neg e, if_neg e]
/-- WHAT HOLDS OF ALL THAT A CRASH MAY LEAVE. -/
theorem crs_inv (kept last : List (List UInt8)) (l : List (Nat × List UInt8)) (ps : List Int) (hl : kept.length = last.length) (hi : ∀ x ∈ l, x.1 < last.length) (G : Nat → List UInt8 → Prop) (hK : ∀ q, G q (pad (kept.getD q [])))
    (hL : ∀ q, (∀ x ∈ l, x.1 ≠ q) → G q (pad (last.getD q []))) (hS : ∀ x ∈ l, ∀ y, y.length = 64 → G x.1 y → ∀ pick, G x.1 (tkp y (pad x.2) pick)) :
    ∀ k, k ≤ l.length → (∀ q, G q (pad ((cr kept last l ps k).1.getD q []))) ∧ (∀ q, ((∀ x ∈ l, x.1 ≠ q) ∨ ∃ i, i < k ∧ (l.getD i (0, [])).1 = q) → G q (pad ((cr kept last l ps k).2.getD q [])))
  | 0, _ => ⟨hK, fun q h => by
    rcases h with h | ⟨i, hi, _⟩
    · exact hL q h
    · omega⟩
  | k + 1, hk => by
    obtain ⟨i1, i2⟩ := crs_inv kept last l ps hl hi G hK hL hS k (by omega)
    obtain ⟨⟨xp, xb⟩, hx⟩ : ∃ x, l[k]? = some x := ⟨_, List.getElem?_eq_getElem (by omega)⟩
    have hm := List.mem_of_getElem? hx
    have hxl := hi _ hm
    have hstep := cr_k kept last l ps k xp xb hx (by rw [hl]; exact hxl) hl
    have hT : G xp (tkp (pad ((cr kept last l ps k).1.getD xp [])) (pad xb) (ps.getD k 0)) := hS _ hm _ (pad_length _) (i1 xp) _
    refine ⟨fun q => ?_, fun q h => ?_⟩
    · rw [(hstep q).1]
      by_cases e : q = xp
      · rw [if_pos e, e]; exact hT
      · rw [if_neg e]; exact i1 q
    · rw [(hstep q).2]
      by_cases e : q = xp
      · rw [if_pos e, e]; exact hT
      · rw [if_neg e]
        refine i2 q ?_
        rcases h with h | ⟨i, h1, h2⟩
        · exact .inl h
        · refine .inr ⟨i, ?_, h2⟩
          have : i ≠ k := fun r => by
            subst r
            rw [List.getD_eq_getElem?_getD, hx] at h2
            exact e h2.symm
          omega
/-- A page behind a crash. -/
theorem crash_inv (s : Dk) (h : Clean s) (ps : List Int) (G : Nat → List UInt8 → Prop) (hK : ∀ q, G q (s.kp q)) (hS : ∀ x ∈ s.pend, ∀ y, y.length = 64 → G x.1 y → ∀ pick, G x.1 (tkp y (pad x.2) pick)) (q : Nat) : G q ((s.crash ps).pg q) := by
  have hm := (crs_inv s.kept s.last s.pend ps h.len h.in_ G hK (fun q hq => by have := hK q; rw [h.same q hq] at this; exact this) hS s.pend.length (Nat.le_refl _)).2 q
  refine hm ?_
  by_cases e : ∃ x ∈ s.pend, x.1 = q
  · obtain ⟨x, hx, e⟩ := e
    obtain ⟨i, hi, he⟩ := List.getElem_of_mem hx
    refine .inr ⟨i, hi, ?_⟩
    rw [List.getD_eq_getElem?_getD, List.getElem?_eq_getElem hi, he]
    exact e
  · exact .inl fun x hx he => e ⟨x, hx, he⟩
theorem crash_last (s : Dk) (ps : List Int) : (s.crash ps).last.length = s.last.length := cr_last _ _ _ _ _

section
variable {n : Nat} {s t : Dk} {l : List (List UInt8)}
/-- What a log stands on. -/
theorem Holds.as (h : Holds n s l) (ha : t.gone = false) (hn : t.last.length = n) (h0 : t.pg 0 = s.pg 0) (hr : (pgs t (n - 1)).take (encR' l).length = (pgs s (n - 1)).take (encR' l).length) : Holds n t l :=
  ⟨ha, hn, h.size, by rw [h0]; exact h.head, by rw [hr]; exact h.row⟩
theorem front_same (n z : Nat) (hz : z < 64 * (n - 1)) (h1 : ∀ q, 1 ≤ q → q < apP z → t.pg q = s.pg q) (h2 : (t.pg (apP z)).take (z % 64) = (s.pg (apP z)).take (z % 64)) : (pgs t (n - 1)).take z = (pgs s (n - 1)).take z := by
  have e : apP z = z / 64 + 1 := rfl
  rw [e] at h1 h2
  rw [pgs_take s (z / 64 + 1) (n - 1) (by omega) z (by omega), pgs_take t (z / 64 + 1) (n - 1) (by omega) z (by omega), pgs, pgs, List.take_append, List.take_append, pgs_length, pgs_length, pgs_same s t (z / 64) (fun q a b => h1 q a (by omega))]
  congr 1
  rw [show z - 64 * (z / 64) = z % 64 by omega]
  exact h2
theorem tkp_take (y b : List UInt8) (hy : y.length = 64) (hb : b.length = 64) (pick : Int) (r : Nat) (hr : r ≤ 64) (h : b.take r = y.take r) : (tkp y b pick).take r = y.take r := by
  apply List.ext_getElem?
  intro j
  by_cases hj : j < r
  · rw [List.getElem?_take_of_lt hj, List.getElem?_take_of_lt hj, tkp_get hy hb pick j (by omega)]
    split
    · have := congrArg (fun l => l[j]?) h
      simp only [List.getElem?_take_of_lt hj] at this
      exact this
    · rfl
  · rw [List.getElem?_eq_none (by rw [List.length_take]; omega), List.getElem?_eq_none (by rw [List.length_take]; omega)]
/-- Halves of two heads: one of these. -/
theorem tkp_head (a b : List UInt8) (ha : a.length = 16) (hb : b.length = 16) (pick : Int) : tkp (pad a) (pad b) pick = pad a ∨ tkp (pad a) (pad b) pick = pad b := by
  have hi : ∀ (c : List UInt8), c.length = 16 → ∀ j, 16 ≤ j → j < 64 → (pad c)[j]? = some 0 := fun c hc j h1 h2 => by
    rw [pad_short (by omega), List.getElem?_append_right (by omega), hc, List.getElem?_replicate]
    simp
    omega
  by_cases h : pick / 2 ^ 0 % 2 = 1
  · right
    apply List.ext_getElem?
    intro j
    by_cases hj : j < 64
    · rw [tkp_get (pad_length _) (pad_length _) pick j hj]
      by_cases h32 : j < 32
      · rw [show j / 32 = 0 by omega, if_pos h]
      · split
        · rfl
        · rw [hi a ha j (by omega) hj, hi b hb j (by omega) hj]
    · rw [List.getElem?_eq_none (by rw [tkp_length (pad_length _) (pad_length _)]; omega), List.getElem?_eq_none (by rw [pad_length]; omega)]
  · left
    apply List.ext_getElem?
    intro j
    by_cases hj : j < 64
    · rw [tkp_get (pad_length _) (pad_length _) pick j hj]
      by_cases h32 : j < 32
      · rw [show j / 32 = 0 by omega, if_neg h]
      · split
        · rw [hi a ha j (by omega) hj, hi b hb j (by omega) hj]
        · rfl
    · rw [List.getElem?_eq_none (by rw [tkp_length (pad_length _) (pad_length _)]; omega), List.getElem?_eq_none (by rw [pad_length]; omega)]
theorem tkp_head2 (a b : List UInt8) (hb : b.length = 16) (pick : Int) (y : List UInt8) (ha : a.length = 16) (h : y = pad a ∨ y = pad b) : tkp y (pad b) pick = pad a ∨ tkp y (pad b) pick = pad b := by
  rcases h with rfl | rfl
  · exact tkp_head a b ha hb pick
  · exact .inr (by rcases tkp_head b b hb hb pick with h | h <;> exact h)
/-- THE POWER WENT WHILE THE RECORD WAS WRITTEN: the log stands as it stood. -/
theorem crash_ahead (h : Holds n s l) (hc : Clean s) (hp : s.pend = []) (hz : (encR' l).length < 64 * (n - 1)) (X : List UInt8) (hX : X.take ((encR' l).length % 64) = (s.pg (apP (encR' l).length)).take ((encR' l).length % 64)) (k : Nat) (hk : apP (encR' l).length + k ≤ n) (t : Dk)
    (ht : t.last = (wrF s (apP (encR' l).length) X (List.range k)).1.last) (hk2 : t.kept = s.kept) (htp : t.pend = (wrF s (apP (encR' l).length) X (List.range k)).1.pend) (ps : List Int) : Holds n (t.crash ps) l := by
  obtain ⟨z, hzz⟩ : ∃ z, (encR' l).length = z := ⟨_, rfl⟩
  rw [hzz] at hz hX hk ht htp
  have hn := h.pages
  have hc0 := wrF_clean s hc (apP z) X k (by omega)
  have hkw := wrF_kept s (apP z) X k
  have hc1 : Clean t := ⟨by rw [hk2, ht, ← hkw]; exact hc0.len, by rw [htp, ht]; exact hc0.in_, fun q hq => by
    have := hc0.same q (by rw [← htp]; exact hq)
    unfold Dk.kp Dk.pg at this ⊢
    rw [hk2, ht, ← hkw]
    exact this⟩
  rw [wrF_pendL, hp, List.nil_append] at htp
  have hkp : ∀ q, t.kp q = s.pg q := fun q => by
    have := hc.same q (by rw [hp]; intro x hx; cases hx)
    rw [← this]
    unfold Dk.kp
    rw [hk2]
  have hpz : 1 ≤ apP z := by unfold apP; omega
  have key := crash_inv t hc1 ps (fun q y => (q < apP z → y = s.pg q) ∧ (q = apP z → y.take (z % 64) = (s.pg q).take (z % 64)))
    (fun q => ⟨fun _ => hkp q, fun _ => by rw [hkp q]⟩)
    (fun x hx y hy hg pick => by
      rw [htp] at hx
      obtain ⟨j, hj, rfl⟩ := List.mem_map.1 hx
      refine ⟨fun q => by simp at q; omega, fun q => ?_⟩
      have hj0 : j = 0 := by simp at q; omega
      subst hj0
      have h2 := hg.2 q
      simp only [Nat.add_zero] at h2 ⊢
      rw [pad_pad, tkp_take y _ hy (pad_length _) pick (z % 64) (by omega), h2]
      rw [h2, ← hX]
      have hlen : z % 64 ≤ X.length := by
        have := congrArg List.length hX
        rw [List.length_take, List.length_take, pg_length] at this
        omega
      unfold pad chk
      rw [Nat.mul_zero, List.drop_zero, List.take_take, Nat.min_eq_left (by omega), List.take_append_of_le_length (by rw [List.length_take]; omega), List.take_take, Nat.min_eq_left (by omega)])
  refine h.as rfl ?_ ((key 0).1 (by omega)) ?_
  · rw [crash_last, ht, wrF_last, hn]
  · rw [hzz]
    exact front_same n z hz (fun q a b => (key q).1 b) ((key (apP z)).2 rfl)
/-- THE POWER WENT WHILE THE HEAD WAS WRITTEN, or behind it: the log as it stood, or with one more. -/
theorem crash_head (s2 : Dk) (hc : Clean s2) (hp : s2.pend = []) (l l2 : List (List UInt8)) (HD : List UInt8) (hh : s2.pg 0 = pad (headB ((encR' l).length : Nat) (l.length : Nat))) (hHD : HD = headB ((encR' l2).length : Nat) (l2.length : Nat)) (t : Dk) (hn : 0 < s2.last.length)
    (ht : t.last = (s2.put 0 HD).last) (hk2 : t.kept = s2.kept) (htp : t.pend = (s2.put 0 HD).pend) (ps : List Int) (hr1 : ∀ d : Dk, d.gone = false → d.last.length = s2.last.length → (∀ q, 1 ≤ q → d.pg q = s2.pg q) → d.pg 0 = s2.pg 0 → Holds n d l)
    (hr2 : ∀ d : Dk, d.gone = false → d.last.length = s2.last.length → (∀ q, 1 ≤ q → d.pg q = s2.pg q) → d.pg 0 = pad HD → Holds n d l2) : Holds n (t.crash ps) l ∨ Holds n (t.crash ps) l2 := by
  have hc0 := hc.put 0 HD hn
  have hc1 : Clean t := ⟨by rw [hk2, ht]; exact hc0.len, by rw [htp, ht]; exact hc0.in_, fun q hq => by
    have := hc0.same q (by rw [← htp]; exact hq)
    unfold Dk.kp Dk.pg at this ⊢
    rw [hk2, ht]
    exact this⟩
  have hpe : t.pend = [(0, pad HD)] := by
    rw [htp]
    show s2.pend ++ [(0, pad HD)] = _
    rw [hp]
    rfl
  have hkp : ∀ q, t.kp q = s2.pg q := fun q => by
    have := hc.same q (by rw [hp]; intro x hx; cases hx)
    rw [← this]
    unfold Dk.kp
    rw [hk2]
  have key := crash_inv t hc1 ps (fun q y => (1 ≤ q → y = s2.pg q) ∧ (q = 0 → y = s2.pg 0 ∨ y = pad HD))
    (fun q => ⟨fun _ => hkp q, fun e => .inl (by rw [hkp q, e])⟩)
    (fun x hx y hy hg pick => by
      rw [hpe] at hx
      obtain rfl := List.mem_singleton.1 hx
      refine ⟨fun q => by simp at q, fun _ => ?_⟩
      rw [pad_pad]
      have := hg.2 rfl
      rw [hh] at this ⊢
      exact tkp_head2 _ HD (by rw [hHD]; exact headB_length _ _) pick y (headB_length _ _) this)
  have hlen : (t.crash ps).last.length = s2.last.length := by
    rw [crash_last, ht]
    show (s2.last.set 0 (pad HD)).length = _
    rw [List.length_set]
  rcases (key 0).2 rfl with e | e
  · exact .inl (hr1 _ rfl hlen (fun q hq => (key q).1 hq) e)
  · exact .inr (hr2 _ rfl hlen (fun q hq => (key q).1 hq) e)
theorem crash_none (h : Holds n s l) (hc : Clean s) (hp : s.pend = []) (ps : List Int) : Holds n (s.crash ps) l := by
  have key := crash_inv s hc ps (fun q y => y = s.pg q) (fun q => hc.same q (by rw [hp]; intro x hx; cases hx)) (fun x hx => by rw [hp] at hx; cases hx)
  refine h.as rfl (by rw [crash_last]; exact h.pages) (key 0) ?_
  rw [pgs_same s (s.crash ps) (n - 1) fun q _ _ => key q]
theorem apX_take (s : Dk) (z : Nat) (b : List UInt8) : (apX s z b).take (z % 64) = (s.pg (apP z)).take (z % 64) := by
  unfold apX
  rw [List.take_append_of_le_length (by rw [List.length_take, pg_length]; omega), List.take_take, Nat.min_self]
theorem chk0_take (X : List UInt8) (r : Nat) (hr : r ≤ 64) (hX : r ≤ X.length) : (pad (chk X 0)).take r = X.take r := by
  unfold pad chk
  rw [Nat.mul_zero, List.drop_zero, List.take_take, Nat.min_eq_left hr, List.take_append_of_le_length (by rw [List.length_take]; omega), List.take_take, Nat.min_eq_left hr]
/-- WHEREVER THE POWER GOES WITHIN AN APPEND, AND WHATEVER STAYS. -/
theorem crash_run (h : Holds n s l) (hc : Clean s) (hp : s.pend = []) (hn2 : 2 ≤ n) (b : List UInt8) (hroom : (encR' l).length + (8 + b.length) ≤ 64 * (n - 1)) (hb : b.length ≤ 65536) (ps : List Int) :
    ((apRun s (apP (encR' l).length) (apX s (encR' l).length b) (apHd (encR' l).length l.length b)).2 = 15 ∧ (Holds n ((apRun s (apP (encR' l).length) (apX s (encR' l).length b) (apHd (encR' l).length l.length b)).1.crash ps) l ∨ Holds n ((apRun s (apP (encR' l).length) (apX s (encR' l).length b) (apHd (encR' l).length l.length b)).1.crash ps) (l ++ [b]))) ∨
    ((apRun s (apP (encR' l).length) (apX s (encR' l).length b) (apHd (encR' l).length l.length b)).2 = 0 ∧ Holds n ((apRun s (apP (encR' l).length) (apX s (encR' l).length b) (apHd (encR' l).length l.length b)).1.crash ps) (l ++ [b])) := by
  have hlen : (encR' (l ++ [b])).length = (encR' l).length + (8 + b.length) := by
    rw [encR'_append, List.length_append, encR'_cons, encR'_nil, List.length_append, le_length, List.append_nil]
  have hHD : apHd (encR' l).length l.length b = headB ((encR' (l ++ [b])).length : Nat) ((l ++ [b]).length : Nat) := by
    unfold apHd
    rw [hlen, List.length_append, List.length_cons, List.length_nil]
    congr 1
  have hG0 := fun hw hw1 => h.grow hn2 b hroom hb hw hw1
  have hG1 := Holds.grow (s := { s with left := 0 }) (n := n) (ps := l) ⟨h.alive, h.pages, h.size, h.head, by rw [pgs_same s { s with left := 0 } (n - 1) fun _ _ _ => rfl]; exact h.row⟩ hn2 b hroom hb (by show ¬ ((1 : Int) ≤ 0 ∧ _); omega) (by show (0 : Int) - _ ≠ 2; omega)
  have hX1 : apX { s with left := 0 } (encR' l).length b = apX s (encR' l).length b := rfl
  rw [hX1] at hG1
  have hXt := apX_take s (encR' l).length b
  have hXl : (apX s (encR' l).length b).length = (encR' l).length % 64 + (8 + b.length) := by
    unfold apX
    rw [List.length_append, List.length_take, pg_length, List.length_append, le_length]
    omega
  obtain ⟨z, hz⟩ : ∃ z, (encR' l).length = z := ⟨_, rfl⟩
  have hpz : apP z = z / 64 + 1 := rfl
  rw [hz] at hG0 hG1 hXt hXl hroom hHD ⊢
  generalize hHDg : apHd z l.length b = HD at hG0 hG1 hHD ⊢
  generalize hXg : apX s z b = X at hG0 hG1 hXt hXl ⊢
  have hpages := h.pages
  have hN : apP z + chN X.length ≤ s.last.length := by rw [hpages, hpz]; unfold chN; omega
  have hc1 := wrF_clean s hc (apP z) X _ hN
  have hwp := wrF_pg s (apP z) X _ hN
  have hwl := wrF_last s (apP z) X (chN X.length)
  have hah : ∀ (k : Nat) (t : Dk), k ≤ chN X.length → t.last = (wrF s (apP z) X (List.range k)).1.last → t.kept = s.kept → t.pend = (wrF s (apP z) X (List.range k)).1.pend → Holds n (t.crash ps) l := fun k t hk h1 h2 h3 =>
    crash_ahead h hc hp (by rw [hz]; omega) X (by rw [hz]; exact hXt) k (by rw [hz]; omega) t (by rw [hz]; exact h1) h2 (by rw [hz]; exact h3) ps
  have hP1 : ∀ q, 1 ≤ q → (apS { s with left := 0 } (apP z) X HD 4).pg q = (apS s (apP z) X HD 2).pg q := fun q hq => by
    rw [apS_pg { s with left := 0 } (apP z) X HD (by omega) hN q, if_neg (by omega)]
    exact (hwp q).symm
  have hd3 : ∀ t : Dk, t.last = (apS s (apP z) X HD 3).last → t.kept = (apS s (apP z) X HD 3).kept → t.pend = (apS s (apP z) X HD 3).pend → Holds n (t.crash ps) l ∨ Holds n (t.crash ps) (l ++ [b]) := fun t h1 h2 h3 => by
    have hS0 : (apS s (apP z) X HD 2).pg 0 = s.pg 0 := by
      show (wrF s (apP z) X (List.range (chN X.length))).1.pg 0 = _
      rw [hwp 0, if_neg (by omega)]
    refine crash_head (n := n) (apS s (apP z) X HD 2) hc1.sync rfl l (l ++ [b]) HD (by rw [hS0]; exact h.head) hHD t (by show 0 < (wrF s (apP z) X (List.range (chN X.length))).1.last.length; rw [hwl]; omega) ?_ ?_ ?_ ps (fun d a1 a2 a3 a4 => ?_) (fun d a1 a2 a3 a4 => ?_)
    · rw [h1]; exact last_spent _
    · rw [h2]; exact kept_spent _
    · rw [h3]; exact pend_spent _
    · refine h.as a1 (by rw [a2]; show (wrF s (apP z) X (List.range (chN X.length))).1.last.length = n; rw [hwl, hpages]) (by rw [a4, hS0]) ?_
      rw [hz]
      refine front_same n z (by omega) (fun q b1 b2 => ?_) ?_
      · rw [a3 q b1]
        show (wrF s (apP z) X (List.range (chN X.length))).1.pg q = _
        rw [hwp q, if_neg (by omega)]
      · rw [a3 _ (by omega)]
        show ((wrF s (apP z) X (List.range (chN X.length))).1.pg (apP z)).take (z % 64) = _
        rw [hwp (apP z), if_pos (by unfold chN; omega), Nat.sub_self, chk0_take X _ (by omega) (by omega), hXt]
    · refine hG1.as a1 (by rw [a2]; show (wrF s (apP z) X (List.range (chN X.length))).1.last.length = n; rw [hwl, hpages]) ?_ ?_
      · rw [a4, apS_pg { s with left := 0 } (apP z) X HD (by omega) hN 0, if_pos rfl]
      · rw [pgs_same (apS { s with left := 0 } (apP z) X HD 4) d (n - 1) fun q b1 _ => by rw [a3 q b1, hP1 q b1]]
  unfold apRun
  by_cases c1 : 1 ≤ s.left ∧ s.left ≤ chN X.length
  · rw [if_pos c1]
    exact .inl ⟨rfl, .inl (hah s.left.toNat _ (by omega) rfl (wrF_kept _ _ _ _) rfl)⟩
  · rw [if_neg c1]
    by_cases c2 : s.left - chN X.length = 1
    · rw [if_pos c2]
      exact .inl ⟨rfl, .inl (hah (chN X.length) _ (Nat.le_refl _) rfl (wrF_kept _ _ _ _) rfl)⟩
    · rw [if_neg c2]
      by_cases c3 : s.left - chN X.length = 2
      · rw [if_pos c3]
        exact .inl ⟨rfl, hd3 _ rfl rfl rfl⟩
      · rw [if_neg c3]
        by_cases c4 : s.left - chN X.length = 3
        · rw [if_pos c4]
          exact .inl ⟨rfl, hd3 _ rfl rfl rfl⟩
        · rw [if_neg c4]
          refine .inr ⟨rfl, crash_none (hG0 c1 c3) ?_ rfl ps⟩
          exact ((hc1.sync.put 0 HD (by show 0 < (wrF s (apP z) X (List.range (chN X.length))).1.last.length; rw [hwl]; omega)).spent).sync
theorem apRun_pend (s : Dk) (p : Nat) (X hd : List UInt8) (hp : s.pend = []) : (apRun s p X hd).1.pend.length ≤ chN X.length + 1 := by
  have h1 := fun k => wrF_pendL s p X k
  rw [hp] at h1
  have h3 : (apS s p X hd 3).pend.length ≤ chN X.length + 1 := by
    show (((wrF s p X (List.range (chN X.length))).1).sync.put 0 hd).spent.pend.length ≤ _
    rw [pend_spent]
    show ([] ++ [(0, pad hd)]).length ≤ _
    simp
  unfold apRun
  split
  · rename_i c
    show ((wrF s p X (List.range s.left.toNat)).1).pend.length ≤ _
    rw [h1]
    simp
    omega
  · split
    · show ((wrF s p X (List.range (chN X.length))).1).pend.length ≤ _
      rw [h1]
      simp
    · split
      · exact h3
      · split
        · exact h3
        · show 0 ≤ _
          exact Nat.zero_le _
end
/-- One record more; and what is on its way. -/
theorem append_clean {w : World} {g d n m c : Nat} {ao : Option Addr} {b : List UInt8} {S : Nat → Prop} {s : Dk} {ps : List (List UInt8)} (L : LogAt w g d (roomN n) ((encR' ps).length : Nat) (ps.length : Nat)) (hb : IsB w ao m c b) (hm : m ≤ 65536) (hroom : (encR' ps).length + (8 + m) ≤ 64 * (n - 1)) (hD : IsD w d n S s) (hn2 : 2 ≤ n) (hgS : ¬ S g)
    (H : Holds n s ps) (hC : Clean s) (hq : s.left ≤ 0 ∧ -300000 ≤ s.left) (hp : s.pend.length ≤ 40000) : Calls Try.prog 14 #[.pointer (some ⟨g, 0, none⟩), .slice ao m c] w fun en w' => ∃ S' s', en = .returned (.int .i64 0) ∧ IsD w' d n S' s' ∧ Kp w w' (fun q => S q ∨ q = g) ∧ Ext w S S' ∧ LogAt w' g d (roomN n) ((encR' (ps ++ [b])).length : Nat) ((ps ++ [b]).length : Nat) ∧ Holds n s' (ps ++ [b]) ∧ s'.left ≤ 0 ∧ s.left - 1100 ≤ s'.left ∧ s'.pend = [] ∧ Clean s' := by
  have hs := hD.small
  have hl := hb.len
  have hE := (encR'_len ps).1
  have h := append_any (encR' ps).length ps.length L (by omega) hb hm (by omega) hD hn2 hgS H.alive (by omega) hp
  have hN : chN (apX s (encR' ps).length b).length ≤ 1030 := by
    unfold apX chN
    rw [List.length_append, List.length_take, pg_length, List.length_append, le_length, hl]
    omega
  have hXl : (apX s (encR' ps).length b).length = (encR' ps).length % 64 + (8 + m) := by
    unfold apX
    rw [List.length_append, List.length_take, pg_length, List.length_append, le_length]
    omega
  have hpz : apP (encR' ps).length = (encR' ps).length / 64 + 1 := rfl
  have hpages := H.pages
  have hNn : apP (encR' ps).length + chN (apX s (encR' ps).length b).length ≤ s.last.length := by rw [hpages, hpz, hXl]; unfold chN; omega
  have hw : ¬ (1 ≤ s.left ∧ s.left ≤ chN (apX s (encR' ps).length b).length) := by omega
  have HG := H.grow hn2 b (by omega) (by omega) hw (by omega)
  have hrun : apRun s (apP (encR' ps).length) (apX s (encR' ps).length b) (apHd (encR' ps).length ps.length b) = (apS s (apP (encR' ps).length) (apX s (encR' ps).length b) (apHd (encR' ps).length ps.length b) 4, 0) := by
    rw [apRun, if_neg hw, if_neg (by omega), if_neg (by omega), if_neg (by omega)]
  rw [hrun] at h
  have hlen : (encR' (ps ++ [b])).length = (encR' ps).length + (8 + m) := by
    rw [encR'_append, List.length_append, encR'_cons, encR'_nil, List.length_append, le_length, List.append_nil, hl]
  have hwl := wrF_left s (apX s (encR' ps).length b) (apP (encR' ps).length) (List.range (chN (apX s (encR' ps).length b).length)) (by rw [List.length_range]; exact hw)
  rw [List.length_range] at hwl
  have hc1 := wrF_clean s hC (apP (encR' ps).length) (apX s (encR' ps).length b) _ hNn
  have hwl2 := wrF_last s (apP (encR' ps).length) (apX s (encR' ps).length b) (chN (apX s (encR' ps).length b).length)
  generalize hX : apX s (encR' ps).length b = X at hwl HG h hN hc1 hwl2 hNn
  generalize apHd (encR' ps).length ps.length b = HD at HG h
  have hc4 : Clean (apS s (apP (encR' ps).length) X HD 4) := ((hc1.sync.put 0 HD (by show 0 < (wrF s (apP (encR' ps).length) X (List.range (chN X.length))).1.last.length; rw [hwl2]; omega)).spent).sync
  have e1 : (apS s (apP (encR' ps).length) X HD 1).left = s.left - chN X.length := hwl.1
  have e2 : ((apS s (apP (encR' ps).length) X HD 2).put 0 HD).left ≠ 1 := by show (apS s (apP (encR' ps).length) X HD 1).left - 1 ≠ 1; rw [e1]; omega
  have e4 : (apS s (apP (encR' ps).length) X HD 4).left = s.left - chN X.length - 3 := by
    show ((apS s (apP (encR' ps).length) X HD 2).put 0 HD).spent.left - 1 = _
    rw [spent_more e2]
    show (apS s (apP (encR' ps).length) X HD 1).left - 1 - 1 - 1 = _
    rw [e1]
    omega
  refine h.mono ?_
  rintro en w' ⟨S', rfl, D', k', e', L'⟩
  refine ⟨S', _, rfl, D', k', e', ?_, HG, by rw [e4]; omega, by rw [e4]; omega, rfl, hc4⟩
  rw [if_pos rfl, if_pos rfl] at L'
  rw [hlen, List.length_append, List.length_cons, List.length_nil]
  exact L'
theorem Recs.le {w : World} {B : Nat} {ro : Option Addr} {rn rc : Nat} {ps : List (List UInt8)} (h : Recs w B ro rn rc ps) : rn ≤ rc := by
  obtain ⟨hs, h1, _⟩ := h
  exact h1.isR.le
end Go.Proofs.Ytpfhggalbdjjmaa
namespace Go.Proofs.Ytpfhggalbdjjmaa
open Go.RowKit

theorem IsP.open {w : World} {ao : Option Addr} {n : Nat} {ps : List (List UInt8)} (h : IsP w ao n ps) (hn : 0 < n) :
    ∃ b off, ao = some ⟨b, off, none⟩ ∧ ∀ j, j < n → ∃ bo bn bc, w.cell? ⟨b, off + j, none⟩ = some (.slice bo bn bc) ∧ IsB w bo bn bc (ps.getD j []) := by
  obtain ⟨⟨b, off, spot⟩, rfl⟩ := h.has hn
  obtain ⟨bo, bn, bc, h0, _⟩ := h.cell _ rfl 0 hn
  have hspot : spot = none := by simpa [Addr.add] using World.cell?_spot h0
  subst hspot
  refine ⟨b, off, rfl, fun j hj => ?_⟩
  obtain ⟨bo, bn, bc, h1, h2⟩ := h.cell _ rfl j hj
  rw [Addr.add_lit] at h1
  exact ⟨bo, bn, bc, h1, h2⟩
set_option maxRecDepth 100000 in
set_option maxHeartbeats 1000000 in
theorem rows_eq (w : World) (ao bo : Option Addr) (n ca cb : Nat) (ps : List (List UInt8)) (ha : IsP w ao n ps) (hb : IsP w bo n ps) (hn : n ≤ 1000000) :
    Calls Try.prog 19 #[.slice ao n ca, .slice bo n cb] w (Told w true) := by
  go_enter Try.func19, Try.ntmps19
  go_wp2_with fail
  go_loopw [5] (fun i wr => ∃ j : Nat, j ≤ n ∧ i = .int .i64 (j : Nat) ∧ Below w.heap.size w wr) (fun i _ => n - (intOf i).toNat)
  case atStart => exact ⟨0, by omega, rfl, Below.refl _ _⟩
  case round =>
    obtain ⟨j, hj, rfl, hB⟩ := hrel
    by_cases hlt : j < n
    · have hlti : (j : Int) < (n : Int) := by omega
      obtain ⟨b1, f1, rfl, h1⟩ := (ha.past hB).open (by omega)
      obtain ⟨b2, f2, rfl, h2⟩ := (hb.past hB).open (by omega)
      obtain ⟨o1, n1, c1, d1, i1⟩ := h1 j hlt
      obtain ⟨o2, n2, c2, d2, i2⟩ := h2 j hlt
      have v1 := i1.drew.conv byteTy Try.underlying9
      have v2 := i2.drew.conv byteTy Try.underlying9
      have v1' := fun q => (i1.past (below_drewN (Below.refl _ _) q)).conv byteTy Try.underlying9
      have v2' := fun q => (i2.past (below_drewN (Below.refl _ _) q)).conv byteTy Try.underlying9
      clear h1 h2
      go_wp2_with fail
      go_region_held3 (fun w' => (convert 31 9 (.slice o1 n1 c1)).run Try.prog w' = .ok (.string ⟨(ps.getD j []).toArray⟩) w' ∧ (convert 31 9 (.slice o2 n2 c2)).run Try.prog w' = .ok (.string ⟨(ps.getD j []).toArray⟩) w' ∧ w'.cell? ⟨b1, f1 + j, none⟩ = some (.slice o1 n1 c1) ∧ w'.cell? ⟨b2, f2 + j, none⟩ = some (.slice o2 n2 c2))
        (first | exact ⟨v1, v2, d1, d2⟩) (fail)
      all_goals
        go_wp2_with fail
        go_roundw
        case rel => exact ⟨j + 1, by omega, by go_num, hB.drew⟩
        case measure => simp [intOf]; omega
    · have hlti : ¬ ((j : Int) < (n : Int)) := by omega
      go_wp2_with fail
      go_ret
      exact ⟨rfl, hB⟩
end Go.Proofs.Ytpfhggalbdjjmaa
namespace Go.Proofs.Ytpfhggalbdjjmaa
open Go.ChangeShapes Go.WideShapes Go.ChangeAt Go.RowKit
/-- A bool in a cell. -/
def EBo : Enc Bool where
  sz := 1
  f v := [.bool v]
  len _ := rfl
  one v u hu := by
    simp only [List.mem_cons, List.not_mem_nil, or_false] at hu
    rw [hu]
    rfl
theorem EBo_all (l : List Bool) : EBo.all l = l.map Value.bool := by
  induction l with
  | nil => rfl
  | cons x l ih => rw [EBo.all_cons, ih]; rfl
section
variable {H : Type} {enc : TypeId × Value → H} {W : World} {sp : Nat → Bool} {held : Bool}
theorem rows_of_byte_p {w : World} {A : Option Addr} {L C : Nat} {Z : List Int} (h1 : L ≤ C) (h2 : C ≤ maxLen) (h3 : Z.length = C) (h4 : ∀ n ∈ Z, (Lit.int .u8 n).wf = true) (h5 : A = none → C = 0) (h6 : ∀ a', A = some a' → ∀ c, c < C → w.cell? (a'.add c) = some (.int .u8 (Z.getD c 0))) : ∃ l, IsB w A L C l := by
  cases A with
  | none =>
    have := h5 rfl
    obtain rfl : C = 0 := this
    obtain rfl : L = 0 := by omega
    exact ⟨[], IsB.nilB w⟩
  | some a => exact isB_of_row (.inr ⟨a, rfl, h1, h2, h3, fun i hi => h6 a rfl i (by omega), h4⟩)
theorem open_rows_p {ao : Option Addr} {n c : Nat} {d : DataW H} {p : List MemPlace} (h : DataW.Trod enc Try.prog W 0 (fun _ => true) held 22 (.slice ao n c) d p) : ∃ ps : List (List UInt8), IsP W ao n ps := by
  obtain ⟨fuel, hf⟩ := h
  rcases Deep.open_int_rows Try.underlying22 Try.underlying31 Try.underlying5 (by kernel_rfl) (by kernel_rfl) hf with ⟨hcs, _⟩ | ⟨a, len, cap, A, L, C, Z, hcs, _, hl, hm, _, hx⟩
  · simp [Value.cells] at hcs
    obtain ⟨rfl, rfl, rfl⟩ := hcs
    exact ⟨[], rfl, fun h => by omega, fun a ha => by cases ha⟩
  · simp [Value.cells] at hcs
    obtain ⟨rfl, rfl, rfl⟩ := hcs
    have each : ∀ r, r < n → ∃ l, IsB W (A r) (L r) (C r) l := fun r hr => by
      obtain ⟨_, x1, x2, x3, x4, x5, x6⟩ := hx r (by omega)
      exact rows_of_byte_p x1 x2 x3 x4 x5 (fun a' ha' => (x6 a' ha').2)
    obtain ⟨f, hf⟩ := Deep.choose_lt each
    have hg : ∀ j, j < n → ((List.range n).map f).getD j [] = f j := fun j hj => by simp [List.getD, hj]
    refine ⟨(List.range n).map f, by simp, fun _ => ⟨a, rfl⟩, fun a' ha' j hj => ?_⟩
    obtain rfl := Option.some.inj ha'
    exact ⟨A j, L j, C j, (hx j (by omega)).1, by rw [hg j hj]; exact hf j hj⟩
theorem open_bools_p {ao : Option Addr} {n c : Nat} {d : DataW H} {p : List MemPlace} (h : DataW.Trod enc Try.prog W 0 (fun _ => true) held 49 (.slice ao n c) d p) : ∃ l : List Bool, IsR EBo W ao n c l := by
  obtain ⟨fuel, hf⟩ := h
  rcases Deep.open_bools Try.underlying49 Try.underlying4 (by kernel_rfl) hf with ⟨hcs, _⟩ | ⟨x, l, c', zs, hcs, _, hl, hm, _, hcell⟩
  · simp [Value.cells] at hcs
    obtain ⟨rfl, rfl, rfl⟩ := hcs
    exact ⟨[], IsR.nilR W⟩
  · simp [Value.cells] at hcs
    obtain ⟨rfl, rfl, rfl⟩ := hcs
    refine ⟨(List.range n).map zs, by simp, hl, hm, (fun h => by cases h), fun a ha j u hu => ?_⟩
    obtain rfl := Option.some.inj ha
    rw [EBo_all, List.getElem?_map, List.getElem?_map] at hu
    by_cases hj : j < n
    · rw [List.getElem?_range hj] at hu
      obtain rfl := Option.some.inj hu
      exact hcell j (by omega)
    · rw [List.getElem?_eq_none (by simp; omega)] at hu
      cases hu
theorem open_rows_c {ao : Option Addr} {n c : Nat} {d : DataW H} {p : List MemPlace} (h : DataW.Trod enc Try.prog W 0 (fun _ => true) held 22 (.slice ao n c) d p) : ∃ ps : List (List UInt8), IsP W ao n ps ∧ n ≤ c ∧ c ≤ maxLen := by
  obtain ⟨ps, hp⟩ := open_rows_p h
  obtain ⟨fuel, hf⟩ := h
  rcases Deep.open_int_rows Try.underlying22 Try.underlying31 Try.underlying5 (by kernel_rfl) (by kernel_rfl) hf with ⟨hcs, _⟩ | ⟨a, len, cap, A, L, C, Z, hcs, _, hl, hm, _, hx⟩
  · simp [Value.cells] at hcs
    obtain ⟨rfl, rfl, rfl⟩ := hcs
    exact ⟨ps, hp, Nat.le_refl _, Nat.zero_le _⟩
  · simp [Value.cells] at hcs
    obtain ⟨rfl, rfl, rfl⟩ := hcs
    exact ⟨ps, hp, hl, hm⟩
end
/-- 'l[:k]' of slices of bytes. -/
theorem IsP_head {w : World} {ao : Option Addr} {n cap : Nat} {ps : List (List UInt8)} (h : IsP w ao n ps) (hle : n ≤ cap) (k : Nat) (hk : k ≤ n) (hk2 : k ≤ 1000000) :
    ∃ ao2, (∀ w' : World, (Instr.slice 22 (.slice ao n cap) none (some (.int .i64 k)) none).run Try.prog w' = .ok (.slice ao2 k cap) w') ∧ IsP w ao2 k (ps.take k) := by
  have hrun : ∀ w' : World, (Instr.slice 22 (.slice ao n cap) none (some (.int .i64 k)) none).run Try.prog w' = .ok (sliced ao 0 k cap 1) w' := fun w' => by
    have he : (sizeOf (Try.prog.elem 22)).run Try.prog w' = .ok 1 w' := by kernel_rfl
    rw [run_slice_h w' 22 ao n cap (by kernel_rfl) .i64 (k : Int) (by omega) (by omega), he]
    simp [Result.andThen]
  have hget : ∀ j, j < k → (ps.take k).getD j [] = ps.getD j [] := fun j hj => by
    simp [List.getD, List.getElem?_take_of_lt hj]
  have hlen : (ps.take k).length = k := by rw [List.length_take, h.len]; omega
  by_cases he : cap = 0
  · obtain rfl : k = 0 := by omega
    refine ⟨ao, fun w' => by rw [hrun, sliced, if_pos he]; simp, hlen, fun q => by omega, fun a ha j hj => by omega⟩
  · refine ⟨ao.map fun x => x.add 0, fun w' => by rw [hrun, sliced, if_neg he]; simp, hlen, fun q => ?_, fun a ha j hj => ?_⟩
    · obtain ⟨a, ha⟩ := h.has (by omega)
      exact ⟨a.add 0, by rw [ha]; rfl⟩
    · obtain ⟨b, hb, rfl⟩ := Option.map_eq_some_iff.1 ha
      rw [hget j hj]
      have := h.cell b hb j (by omega)
      have e : (b.add 0).add j = b.add j := by simp [Addr.add]
      rw [e]
      exact this
end Go.Proofs.Ytpfhggalbdjjmaa
namespace Go.Proofs.Ytpfhggalbdjjmaa
open Go.RowKit

theorem take_snoc (ps : List (List UInt8)) (j : Nat) (h : j < ps.length) : ps.take j ++ [ps.getD j []] = ps.take (j + 1) := by
  rw [List.take_add_one, List.getElem?_eq_getElem h]
  simp [List.getD, h]
theorem take_len (ps : List (List UInt8)) (j : Nat) (h : j ≤ ps.length) : (ps.take j).length = j := by rw [List.length_take]; omega
theorem encR'_upto (k : Nat) : ∀ ps : List (List UInt8), (∀ p ∈ ps, p.length ≤ k) → (encR' ps).length ≤ (k + 8) * ps.length
  | [], _ => by simp [encR']
  | p :: ps, h => by
    have h1 := encR'_upto k ps fun q hq => h q (by simp [hq])
    have h2 := h p (by simp)
    rw [encR'_cons, List.length_append, le_length, List.length_append, List.length_cons, Nat.mul_succ]
    omega

set_option maxRecDepth 100000 in
set_option maxHeartbeats 2000000 in
theorem walCrashes_walk (ao : Option Addr) (m c : Nat) (ps : List (List UInt8)) (bo : Option Addr) (bm bcp : Nat) (lb : List UInt8) (at_ : Int) (po : Option Addr) (pn pc : Nat) (ks : List Int) (w : World) (hI : IsP w ao m ps) (_hmc : m ≤ c) (_hc : c ≤ maxLen) (hb : IsB w bo bm bcp lb) (_hat : (Lit.int .i64 at_).wf = true) (hP : IsR EI w po pn pc ks) :
    Calls Try.prog 4 #[.slice ao m c, .slice bo bm bcp, .int .i64 at_, .slice po pn pc] w (Told w true) := by
  have hpl := hI.len
  have hbl := hb.len
  obtain ⟨q, hq⟩ : ∃ q : Nat, wth at_ 9 = (q : Int) := ⟨(wth at_ 9).toNat, by have := wth_lo at_ 9 (by omega); omega⟩
  have hq9 : q < 9 := by have := wth_hi at_ 9 (by omega); omega
  have HQ := Lib.hid hq
  clear hq
  have hFar : ∀ S : Nat → Prop, (∀ q, S q → w.heap.size ≤ q) → 0 < pn → Far S po := fun S hS h0 a ha hk => by
    obtain ⟨b, off, hb, hlt, _⟩ := hP.open h0 (by decide)
    rw [hb] at ha
    obtain rfl := Option.some.inj ha
    have := hS _ hk
    simp at this
    omega
  go_enter Try.func4, Try.ntmps4
  go_wp2_with fail
  refine (known8 w).mono ?_
  rintro e w0 ⟨rfl, b0⟩
  by_cases hm8 : 8 < m
  · have hm8i : (8 : Int) < (m : Int) := by omega
    go_wp2_with fail
    go_ret
    exact ⟨rfl, b0⟩
  have hm8i : ¬ ((8 : Int) < (m : Int)) := by omega
  by_cases hb200 : 200 < bm
  · have hb200i : (200 : Int) < (bm : Int) := by omega
    go_wp2_with fail
    go_ret
    exact ⟨rfl, b0⟩
  have hb200i : ¬ ((200 : Int) < (bm : Int)) := by omega
  go_wp2_with fail
  refine (new_is 20 w0 (by omega) (by omega)).mono ?_
  rintro e w1 ⟨d, S, rfl, D1, b1, q1⟩
  have HO := open_holds D1 (by omega) (holds_new 20)
  go_wp2_with fail
  refine HO.mono ?_
  rintro e w2 ⟨g, ro, rn, rc, rfl, L2, P2, b2, q2⟩
  have D2 := D1.past b2
  have hgS : ¬ S g := fun q => by have := D1.lt _ q; omega
  have hw0 := b0.size
  have hw1 := Nat.le_trans b0.size b1.size
  have B2 := b0.trans (b1.mono b0.size) |>.trans (b2.mono (Nat.le_trans b0.size b1.size))
  have hwS : ∀ q, S q → w.heap.size ≤ q := fun q h => Nat.le_trans hw0 (q1 q h)
  have hgw : w.heap.size ≤ g := Nat.le_trans hw1 q2
  clear P2 HO D1 b0 b1 b2
  go_wp2_with fail
  go_loopw [14] (fun i wr => ∃ (j : Nat) (S' : Nat → Prop) (s : Dk), j ≤ m ∧ (∀ p ∈ ps.take j, p.length ≤ 60) ∧ i = .int .i64 (j : Nat) ∧
    IsD wr d 20 S' s ∧ Holds 20 s (ps.take j) ∧ Clean s ∧ LogAt wr g d (roomN 20) ((encR' (ps.take j)).length : Nat) ((ps.take j).length : Nat) ∧ s.left ≤ 0 ∧ -1100 * (j : Int) ≤ s.left ∧ s.pend = [] ∧ Below w.heap.size w wr ∧ (∀ q, S' q → w.heap.size ≤ q) ∧ ¬ S' g) (fun i _ => m - (intOf i).toNat)
  case atStart => exact ⟨0, S, newD 20, by omega, by simp, rfl, D2, holds_new 20, clean_new 20, L2, by simp [newD], by simp [newD], rfl, B2, hwS, hgS⟩
  case round =>
    obtain ⟨j, S', s, hjm, hsm, rfl, D, H, C, L, hl, hlo, hpd, hB, hS', hg'⟩ := hrel
    clear D2 L2
    have hup := encR'_upto 60 _ hsm
    rw [take_len ps j (by omega)] at hup
    by_cases h1 : j < m
    · have h1i : (j : Int) < (m : Int) := by omega
      obtain ⟨b, off, rfl, hat⟩ := hI.open (by omega)
      obtain ⟨bo, bn, bc, hcj, hbj⟩ := hat j h1
      have hcw : wr.cell? ⟨b, off + j, none⟩ = some (.slice bo bn bc) := by rw [hB.cell (World.block_lt_of_cell? w _ hcj)]; exact hcj
      have hbw := hbj.past hB
      have hbl := hbj.len
      clear hat hcj
      by_cases h60 : 60 < bn
      · have h60i : (60 : Int) < (bn : Int) := by omega
        go_wp2_with fail
        go_ret
        exact ⟨rfl, hB⟩
      · have h60i : ¬ ((60 : Int) < (bn : Int)) := by omega
        have hsn := take_snoc ps j (by omega)
        have HA := append_clean L hbw (by omega) (by omega) D (by omega) hg' H C ⟨hl, by omega⟩ (by rw [hpd]; exact Nat.zero_le _)
        rw [hsn] at HA
        have hsm' : ∀ p ∈ ps.take (j + 1), p.length ≤ 60 := by
          rw [← hsn]
          intro p hp
          rcases List.mem_append.1 hp with h | h
          · exact hsm p h
          · rw [List.mem_singleton.1 h]; omega
        have HSM := Lib.hid hsm'
        clear hsn hsm'
        go_wp2_with fail
        refine HA.mono ?_
        rintro e w4 ⟨S4, s4, rfl, D4, k4, e4, L4, H4, hl4, hlo4, hpd4, C4⟩
        have b4 : Below w.heap.size w w4 := hB.trans (k4.below hB.size (fun q h => by
          rcases h with h | h
          · exact hS' q h
          · subst h
            exact hgw))
        have hS4 : ∀ q, S4 q → w.heap.size ≤ q := fun q h => by
          rcases e4 q h with h | h
          · exact hS' q h
          · exact Nat.le_trans hB.size h
        have hg4 : ¬ S4 g := fun h => by
          rcases e4 g h with h | h
          · exact hg' h
          · have := L.lt; omega
        clear D L H C HA hcw hbw k4 e4
        go_wp2_with fail
        go_roundw
        case rel => exact ⟨j + 1, S4, s4, by omega, HSM.out, by go_num, D4, H4, C4, L4, hl4, by omega, hpd4, b4, hS4, hg4⟩
        case measure => simp [intOf]; omega
    · have h1i : ¬ ((j : Int) < (m : Int)) := by omega
      have HJ : Hid (j = m) := show j = m by omega
      rw [List.take_of_length_le (by omega)] at H L hup
      clear hsm
      have HSt := stop_is D (1 + (q : Int))
      rw [show max (1 + (q : Int)) 0 = 1 + (q : Int) by omega] at HSt
      go_wp2_with (first
        | (go_at_call 16; refine (within8_any at_ 9 _ (by omega) (by omega)).mono ?_; rintro e w' ⟨rfl, rfl⟩; rw [HQ.out])
        | (go_at_call 15; refine HSt.mono ?_; rintro e w5 ⟨S5, rfl, D5, k5, e5⟩))
      obtain rfl := HJ.out
      clear HJ h1i h1
      have B5 := hB.trans (k5.below hB.size hS')
      have hS5 : ∀ q, S5 q → w.heap.size ≤ q := fun q h => by
        rcases e5 q h with h | h
        · exact hS' q h
        · exact Nat.le_trans hB.size h
      have hg5 : ¬ S5 g := fun h => by
        rcases e5 g h with h | h
        · exact hg' h
        · have := L.lt; omega
      have L5 := L.kp k5 hg'
      have H5 : Holds 20 { s with left := 1 + (q : Int) } ps := ⟨H.alive, H.pages, H.size, H.head, by rw [pgs_same s { s with left := 1 + (q : Int) } 19 fun _ _ _ => rfl]; exact H.row⟩
      have C5 : Clean { s with left := 1 + (q : Int) } := ⟨C.len, C.in_, C.same⟩
      have hroom : (encR' ps).length + (8 + lb.length) ≤ 64 * (20 - 1) := by rw [hbl]; omega
      have hX : chN (apX { s with left := 1 + (q : Int) } (encR' ps).length lb).length ≤ 100 := by
        unfold apX chN
        rw [List.length_append, List.length_take, pg_length, List.length_append, le_length, hbl]
        omega
      have HR := crash_run H5 C5 hpd (by omega) lb hroom (by omega) ks
      have HP' := apRun_pend { s with left := 1 + (q : Int) } (apP (encR' ps).length) (apX { s with left := 1 + (q : Int) } (encR' ps).length lb) (apHd (encR' ps).length ps.length lb) hpd
      have HA := append_any (encR' ps).length ps.length L5 (by omega) (hb.past B5) (by omega) (by omega) D5 (by omega) hg5 H5.alive (by show -400000 ≤ 1 + (q : Int) ∧ 1 + (q : Int) ≤ 400000; omega) (by show s.pend.length ≤ _; rw [hpd]; exact Nat.zero_le _)
      generalize hT : apRun { s with left := 1 + (q : Int) } (apP (encR' ps).length) (apX { s with left := 1 + (q : Int) } (encR' ps).length lb) (apHd (encR' ps).length ps.length lb) = T at HR HP' HA
      obtain ⟨t, x⟩ := T
      have HP2 : t.pend.length ≤ 1000 := by simp only at HP'; omega
      clear hT HP' H5 C5 H C hX HSt D hg' hS' L e5 k5
      go_wp2_with fail
      refine HA.mono ?_
      rintro e w6 ⟨S6, rfl, D6, k6, e6, L6⟩
      have B6 : Below w.heap.size w w6 := B5.trans (k6.below B5.size (fun q h => by
        rcases h with h | h
        · exact hS5 q h
        · subst h
          exact hgw))
      have hS6 : ∀ q, S6 q → w.heap.size ≤ q := fun q h => by
        rcases e6 q h with h | h
        · exact hS5 q h
        · exact Nat.le_trans B5.size h
      have hg6 : ¬ S6 g := fun h => by
        rcases e6 g h with h | h
        · exact hg5 h
        · have := L5.lt; omega
      simp only at D6 L6 HR
      obtain ⟨cnt, hcnt, hx⟩ : ∃ cnt : Nat, (if x = 0 then ((ps.length : Nat) : Int) + 1 else ((ps.length : Nat) : Int)) = (cnt : Int) ∧ ((x = 15 ∧ cnt = ps.length ∧ (Holds 20 (t.crash ks) ps ∨ Holds 20 (t.crash ks) (ps ++ [lb]))) ∨ (x = 0 ∧ cnt = ps.length + 1 ∧ Holds 20 (t.crash ks) (ps ++ [lb]))) := by
        rcases HR with ⟨rfl, h⟩ | ⟨rfl, h⟩
        · exact ⟨ps.length, by simp, .inl ⟨rfl, rfl, h⟩⟩
        · exact ⟨ps.length + 1, by simp, .inr ⟨rfl, rfl, h⟩⟩
      rw [hcnt] at L6
      have hc8 : cnt ≤ 10 := by rcases hx with ⟨_, h, _⟩ | ⟨_, h, _⟩ <;> omega
      have HC := count_any w6 g d _ _ _ L6 (by omega)
      have HS0 := stop_is D6 0
      rw [show max (0 : Int) 0 = 0 from rfl] at HS0
      clear HR hcnt HA D5 L5 e6 k6
      go_wp2_with (first
        | (go_at_call 17; refine HC.mono ?_; rintro e w' ⟨rfl, rfl⟩)
        | (go_at_call 15; refine HS0.mono ?_; rintro e w7 ⟨S7, rfl, D7, k7, e7⟩))
      have B7 := B6.trans (k7.below B6.size hS6)
      have hS7 : ∀ q, S7 q → w.heap.size ≤ q := fun q h => by
        rcases e7 q h with h | h
        · exact hS6 q h
        · exact Nat.le_trans B6.size h
      have HCr := crash_in D7 (by show t.pend.length ≤ _; omega) po pn pc ks (hP.past B7) (hFar S7 hS7)
      clear HC HS0 D6 L6 e7 k7
      go_wp2_with fail
      refine HCr.mono ?_
      rintro e w8 ⟨S8, rfl, D8, k8, e8⟩
      have B8 := B7.trans (k8.below B7.size hS7)
      have hcr : ({ t with left := 0 } : Dk).crash ks = t.crash ks := rfl
      rw [hcr] at D8
      have I8 := hI.past B8
      have lb8 := hb.past B8
      clear hcr HCr D7 k8 e8
      obtain ⟨m', rs, hm', hrs, hxx⟩ : ∃ (m' : Nat) (rs : List (List UInt8)), rs.length = m' ∧ Holds 20 (t.crash ks) rs ∧ rs.take ps.length = ps ∧ ((x = 15 ∧ cnt = ps.length ∧ m' = ps.length) ∨ (x = 15 ∧ cnt = ps.length ∧ m' = ps.length + 1 ∧ rs.getD ps.length [] = lb) ∨ (x = 0 ∧ cnt = ps.length + 1 ∧ m' = ps.length + 1 ∧ rs.getD ps.length [] = lb)) := by
        have e1 : (ps ++ [lb]).take ps.length = ps := List.take_left
        have e2 : (ps ++ [lb]).getD ps.length [] = lb := by simp [List.getD]
        rcases hx with ⟨h1, h2, h | h⟩ | ⟨h1, h2, h⟩
        · exact ⟨ps.length, ps, rfl, h, List.take_length, .inl ⟨h1, h2, rfl⟩⟩
        · exact ⟨ps.length + 1, ps ++ [lb], by simp, h, e1, .inr (.inl ⟨h1, h2, rfl, e2⟩)⟩
        · exact ⟨ps.length + 1, ps ++ [lb], by simp, h, e1, .inr (.inr ⟨h1, h2, rfl, e2⟩)⟩
      obtain ⟨htk, hxx⟩ := hxx
      have HO := open_holds D8 (by omega) hrs
      clear hx hrs
      go_wp2_with fail
      refine HO.mono ?_
      rintro e w9 ⟨g9, ro9, rn9, rc9, rfl, L9, P9, b9, q9⟩
      obtain rfl : rn9 = m' := by rw [← P9.len, hm']
      have B9 := B8.trans (b9.mono B8.size)
      have hP9 := P9.isP
      obtain ⟨a3, hs3, I3⟩ := IsP_head hP9 P9.le j (by omega) (by omega)
      rw [hpl] at htk
      rw [htk] at I3
      have HRw := fun ca cb => rows_eq w9 a3 ao j ca cb ps I3 (I8.past b9) (by omega)
      have lb9 := lb8.past b9
      rw [hpl] at hxx
      have f1 : ¬ ((rn9 : Int) < (j : Int)) := by rcases hxx with ⟨_, _, h⟩ | ⟨_, _, h, _⟩ | ⟨_, _, h, _⟩ <;> omega
      have f2 : ¬ ((j : Int) + 1 < (rn9 : Int)) := by rcases hxx with ⟨_, _, h⟩ | ⟨_, _, h, _⟩ | ⟨_, _, h, _⟩ <;> omega
      have hop : j < rn9 → ∃ b1 f1, ro9 = some ⟨b1, f1, none⟩ ∧ ∃ o1 n1 c1, w9.cell? ⟨b1, f1 + j, none⟩ = some (.slice o1 n1 c1) ∧ IsB w9 o1 n1 c1 (rs.getD j []) := fun h => by
        obtain ⟨b1, f1, e1, h1⟩ := hP9.open (by omega)
        exact ⟨b1, f1, e1, h1 j h⟩
      clear D8 HO L9 P9 I3 I8 lb8 b9 q9 hP9 htk hpl
      rcases hxx with ⟨rfl, hc, hm⟩ | ⟨rfl, hc, hm, hr⟩ | ⟨rfl, hc, hm, hr⟩
      · have f4 : ((cnt : Int) == (j : Int)) = true := by simp; omega
        obtain rfl : rn9 = j := by omega
        clear hop hc f1
        have f2' : ¬ ((rn9 : Int) + 1 < (rn9 : Int)) := f2
        go_wp2_with (go_at_call 19; refine (HRw _ _).mono ?_; rintro e w10 ⟨rfl, b10⟩)
        go_quiet (fail)
        all_goals
          go_wp2_with fail
          go_ret
          exact ⟨rfl, B9.trans ((below_drewN b10 nq).mono B9.size)⟩
      · have f3 : (j : Int) < (rn9 : Int) := by omega
        have f4 : ((cnt : Int) == (j : Int)) = true := by simp; omega
        obtain ⟨b1, o1, rfl, ao1, n1, c1, d1, i1⟩ := hop (by omega)
        rw [hr] at i1
        clear hop hc hm hr
        go_wp2_with (go_at_call 19; refine (HRw _ _).mono ?_; rintro e w10 ⟨rfl, b10⟩; have d1' := (b10.cell (World.block_lt_of_cell? _ _ d1)).trans d1; have v1 := (i1.past b10).drew.conv byteTy Try.underlying9; have v2 := (lb9.past b10).drew.conv byteTy Try.underlying9)
        go_region_held3 (fun w' => (convert 31 9 (.slice ao1 n1 c1)).run Try.prog w' = .ok (.string ⟨lb.toArray⟩) w' ∧ (convert 31 9 (.slice bo bm bcp)).run Try.prog w' = .ok (.string ⟨lb.toArray⟩) w' ∧ w'.cell? ⟨b1, o1 + j, none⟩ = some (.slice ao1 n1 c1))
          (first | exact ⟨v1, v2, d1'⟩) (fail)
        all_goals
          go_wp2_with fail
          go_ret
          exact ⟨rfl, B9.trans (b10.drew.mono B9.size)⟩
      · have f3 : (j : Int) < (rn9 : Int) := by omega
        have f4 : ((cnt : Int) == (rn9 : Int)) = true := by simp; omega
        have f5 : ((rn9 : Int) == (j : Int) + 1) = true := by simp; omega
        obtain ⟨b1, o1, rfl, ao1, n1, c1, d1, i1⟩ := hop (by omega)
        rw [hr] at i1
        clear hop hc hm hr
        go_wp2_with (go_at_call 19; refine (HRw _ _).mono ?_; rintro e w10 ⟨rfl, b10⟩; have d1' := (b10.cell (World.block_lt_of_cell? _ _ d1)).trans d1; have v1 := (i1.past b10).drew.conv byteTy Try.underlying9; have v2 := (lb9.past b10).drew.conv byteTy Try.underlying9)
        go_region_held3 (fun w' => (convert 31 9 (.slice ao1 n1 c1)).run Try.prog w' = .ok (.string ⟨lb.toArray⟩) w' ∧ (convert 31 9 (.slice bo bm bcp)).run Try.prog w' = .ok (.string ⟨lb.toArray⟩) w' ∧ w'.cell? ⟨b1, o1 + j, none⟩ = some (.slice ao1 n1 c1))
          (first | exact ⟨v1, v2, d1'⟩) (fail)
        all_goals
          go_wp2_with fail
          go_ret
          exact ⟨rfl, B9.trans (b10.drew.mono B9.size)⟩
end Go.Proofs.Ytpfhggalbdjjmaa
