/-
  Rings of sessions, each of which asks for what the next one has, in plain words.
-/
import Derived.Test.YtllijeciodmckaaKLa
namespace Go.Proofs.Ytllijeciodmckaa
theorem ask_new {H W : List Hd} {h : Hd} (hn : ∀ k ∈ H, k.t ≠ h.t) : askH H h = H ++ [h] ∧ askB H h = true ∧ askW H W h = wo W h.s := by
  have hc : covers H h = false := At.covers_neg fun k hk e => hn k hk e.2
  have ha : H.any (clash h) = false := by
    rw [List.any_eq_false]
    intro k hk
    have := hn k hk
    unfold clash
    rw [decide_eq_false (fun e : h.t = k.t => this e.symm)]
    simp
  unfold askH askB askW
  simp only [hc, ha, Bool.false_eq_true, if_false]
  exact ⟨At.wth_neg fun k hk e => hn k hk e.2, trivial, trivial⟩
theorem ask_wait {H W : List Hd} {h : Hd} (hc : ∀ k ∈ H, ¬ (k.s = h.s ∧ k.t = h.t)) {k : Hd} (hk : k ∈ H) (hs : h.s ≠ k.s) (ht : h.t = k.t) (hx : (h.x || k.x) = true) : askH H h = H ∧ askB H h = false ∧ askW H W h = wo W h.s ++ [h] := by
  have hc' : covers H h = false := At.covers_neg hc
  have ha : H.any (clash h) = true := List.any_eq_true.2 ⟨k, hk, by unfold clash; rw [decide_eq_true hs, decide_eq_true ht, hx]; rfl⟩
  unfold askH askB askW
  simp only [hc', ha, Bool.false_eq_true, if_false, if_true]
  exact ⟨trivial, trivial, trivial⟩
theorem wo_self {W : List Hd} {s : Int} (h : ∀ k ∈ W, k.s ≠ s) : wo W s = W := by
  unfold wo
  rw [List.filter_eq_self]
  intro k hk
  simpa using h k hk
/-- The names of the tables: one letter each. -/
def nm (i : Nat) : List UInt8 := [UInt8.ofNat (97 + i)]
theorem nm_inj {i j : Nat} (hi : i < 7) (hj : j < 7) (h : nm i = nm j) : i = j := by
  unfold nm at h
  have := congrArg UInt8.toNat (List.head_eq_of_cons_eq h)
  simp only [UInt8.toNat_ofNat'] at this
  omega
def Hr (N : Nat) : List Hd := (List.range N).map fun i => ⟨(i : Nat), nm i, true⟩
def Wr (N T : Nat) (x : Bool) (k : Nat) : List Hd := (List.range k).map fun j => ⟨(((j + T) % N : Nat) : Int), nm (((j + T) % N + 1) % N), x⟩
theorem mem_Hr {N : Nat} {h : Hd} : h ∈ Hr N ↔ ∃ i, i < N ∧ h = ⟨(i : Nat), nm i, true⟩ := by
  unfold Hr
  rw [List.mem_map]
  constructor
  · rintro ⟨i, hi, rfl⟩
    exact ⟨i, List.mem_range.1 hi, rfl⟩
  · rintro ⟨i, hi, rfl⟩
    exact ⟨i, List.mem_range.2 hi, rfl⟩
theorem mem_Wr {N T k : Nat} {x : Bool} {h : Hd} : h ∈ Wr N T x k ↔ ∃ j, j < k ∧ h = ⟨(((j + T) % N : Nat) : Int), nm (((j + T) % N + 1) % N), x⟩ := by
  unfold Wr
  rw [List.mem_map]
  constructor
  · rintro ⟨i, hi, rfl⟩
    exact ⟨i, List.mem_range.1 hi, rfl⟩
  · rintro ⟨i, hi, rfl⟩
    exact ⟨i, List.mem_range.2 hi, rfl⟩
theorem Hr_ask {k : Nat} (hk : k < 7) : askH (Hr k) ⟨(k : Nat), nm k, true⟩ = Hr (k + 1) ∧ askB (Hr k) ⟨(k : Nat), nm k, true⟩ = true ∧ askW (Hr k) [] ⟨(k : Nat), nm k, true⟩ = [] := by
  have h := ask_new (H := Hr k) (W := []) (h := ⟨(k : Nat), nm k, true⟩) fun q hq e => by
    obtain ⟨i, hi, rfl⟩ := mem_Hr.1 hq
    have := nm_inj (by omega) hk e
    omega
  refine ⟨h.1.trans ?_, h.2.1, h.2.2.trans rfl⟩
  unfold Hr
  rw [List.range_succ, List.map_append]
  rfl
theorem mod_step {a b N : Nat} (_hN : 0 < N) (hab : a < b) (hb : b < a + N) : a % N ≠ b % N := fun e => by
  have h1 := Nat.div_add_mod a N
  have h2 := Nat.div_add_mod b N
  rw [← e] at h2
  rcases Nat.lt_trichotomy (a / N) (b / N) with h | h | h
  · have : N * (a / N + 1) ≤ N * (b / N) := Nat.mul_le_mul_left N h
    rw [Nat.mul_add] at this
    omega
  · rw [h] at h1
    omega
  · have : N * (b / N + 1) ≤ N * (a / N) := Nat.mul_le_mul_left N h
    rw [Nat.mul_add] at this
    omega
theorem Wr_other {N T k : Nat} {x : Bool} (hN : 0 < N) (hk : k < N) : ∀ q ∈ Wr N T x k, q.s ≠ (((k + T) % N : Nat) : Int) := by
  intro q hq e
  obtain ⟨j, hj, rfl⟩ := mem_Wr.1 hq
  exact mod_step hN (show j + T < k + T by omega) (by omega) (Int.ofNat.inj e)
theorem Wr_before {N T k : Nat} {x : Bool} (H : List Hd) (hN : 0 < N) (hk : k < N) : Vic H (Wr N T x k) (((k + T) % N : Nat) : Int) 0 false := by
  refine .inr ⟨rfl, rfl, fun y hy _ => ?_⟩
  obtain ⟨z, m, hm, h1, _⟩ := hy.head
  exact Wr_other hN hk m hm h1
theorem succ_ne {N s : Nat} (hN : 2 ≤ N) (hs : s < N) : (s + 1) % N ≠ s := by
  by_cases h : s + 1 = N
  · rw [h, Nat.mod_self]; omega
  · rw [Nat.mod_eq_of_lt (by omega)]; omega
theorem Wr_ask {N T k : Nat} {x : Bool} (hN : 2 ≤ N) (hN7 : N ≤ 7) (hk : k < N) :
    askH (Hr N) ⟨(((k + T) % N : Nat) : Int), nm (((k + T) % N + 1) % N), x⟩ = Hr N ∧ askB (Hr N) ⟨(((k + T) % N : Nat) : Int), nm (((k + T) % N + 1) % N), x⟩ = false ∧ askW (Hr N) (Wr N T x k) ⟨(((k + T) % N : Nat) : Int), nm (((k + T) % N + 1) % N), x⟩ = Wr N T x (k + 1) := by
  have hs := Nat.mod_lt (k + T) (show 0 < N by omega)
  have hs1 := Nat.mod_lt ((k + T) % N + 1) (show 0 < N by omega)
  have hne := succ_ne hN hs
  have hw := Wr_other (T := T) (x := x) (show 0 < N by omega) hk
  obtain ⟨s, hsd⟩ : ∃ s, (k + T) % N = s := ⟨_, rfl⟩
  rw [hsd] at hs hs1 hne hw ⊢
  obtain ⟨h1, h2, h3⟩ := ask_wait (H := Hr N) (W := Wr N T x k) (h := ⟨(s : Int), nm ((s + 1) % N), x⟩) (fun q hq e => by
    obtain ⟨i, hi, rfl⟩ := mem_Hr.1 hq
    have e1 : (i : Int) = (s : Int) := e.1
    have e2 := nm_inj (by omega) (by omega) e.2
    omega) (k := ⟨(((s + 1) % N : Nat) : Int), nm ((s + 1) % N), true⟩) (mem_Hr.2 ⟨_, hs1, rfl⟩) (fun e => by
    have e1 : (s : Int) = (((s + 1) % N : Nat) : Int) := e
    omega) rfl (by simp)
  refine ⟨h1, h2, h3.trans ?_⟩
  rw [wo_self hw]
  unfold Wr
  rw [List.range_succ, List.map_append, List.map_singleton, hsd]
theorem ring_ed {N T a : Nat} {x : Bool} (hN : 2 ≤ N) (hT : T < N) (ha : a < N) : Ed (Wr N T x N) (Hr N) (a : Nat) (((a + 1) % N : Nat) : Int) := by
  have hj : ((a + N - T) % N + T) % N = a := by
    rw [Nat.mod_add_mod, show a + N - T + T = a + N by omega, Nat.add_mod_right, Nat.mod_eq_of_lt ha]
  have hne := succ_ne hN ha
  refine ⟨⟨(a : Nat), nm ((a + 1) % N), x⟩, mem_Wr.2 ⟨(a + N - T) % N, Nat.mod_lt _ (by omega), by rw [hj]⟩, rfl, ⟨(((a + 1) % N : Nat) : Int), nm ((a + 1) % N), true⟩, mem_Hr.2 ⟨_, Nat.mod_lt _ (by omega), rfl⟩, rfl, ?_⟩
  unfold clash
  have h1 : (a : Int) ≠ (((a + 1) % N : Nat) : Int) := by omega
  simp only [decide_eq_true h1, decide_true, Bool.or_true, Bool.and_true]
theorem ring_rch {N T a : Nat} {x : Bool} (hN : 2 ≤ N) (hT : T < N) (ha : a < N) : ∀ i : Nat, Rch (Wr N T x N) (Hr N) (a : Nat) (((a + 1 + i) % N : Nat) : Int)
  | 0 => .one (ring_ed hN hT ha)
  | i + 1 => by
    refine .more (ring_rch hN hT ha i) ?_
    have h := ring_ed (x := x) hN hT (Nat.mod_lt (a + 1 + i) (show 0 < N by omega))
    rw [Nat.mod_add_mod] at h
    exact h
theorem ring_all {N T a b : Nat} {x : Bool} (hN : 2 ≤ N) (hT : T < N) (ha : a < N) (hb : b < N) : Rch (Wr N T x N) (Hr N) (a : Nat) (b : Nat) := by
  have h := ring_rch (x := x) hN hT ha (N - a - 1 + b)
  rw [show a + 1 + (N - a - 1 + b) = b + N by omega, Nat.add_mod_right, Nat.mod_eq_of_lt hb] at h
  exact h
theorem ring_vic {N T s : Nat} {x : Bool} (hN : 2 ≤ N) (hT : T < N) (hs : s < N) : Vic (Hr N) (Wr N T x N) (s : Nat) ((N - 1 : Nat) : Int) true := by
  refine .inl ⟨rfl, ring_all hN hT hs (by omega), ring_all hN hT (by omega) hs, fun y hy _ => ?_⟩
  refine hy.closed (fun y => y ≤ ((N - 1 : Nat) : Int)) (fun y hy => ?_) fun _ y _ hy => ?_
  all_goals
    obtain ⟨_, _, _, t, ht, rfl, _⟩ := hy
    obtain ⟨i, hi, rfl⟩ := mem_Hr.1 ht
    show (i : Int) ≤ _
    omega
theorem Hr_free {N : Nat} (hN : 2 ≤ N) : wo (Hr N) ((N - 1 : Nat) : Int) = Hr (N - 1) := by
  obtain ⟨M, rfl⟩ : ∃ M, N = M + 1 := ⟨N - 1, by omega⟩
  rw [Nat.add_sub_cancel]
  unfold Hr
  rw [List.range_succ, List.map_append, wo_append, wo_self (W := (List.range M).map _) fun k hk e => by
    obtain ⟨i, hi, rfl⟩ := List.mem_map.1 hk
    have e1 : (i : Int) = (M : Int) := e
    have := List.mem_range.1 hi
    omega]
  simp [wo]
theorem ring_freed {N T s : Nat} {x : Bool} (hN : 2 ≤ N) (hN7 : N ≤ 7) : Vic (Hr (N - 1)) (wo (Wr N T x N) ((N - 1 : Nat) : Int)) (s : Nat) 0 false := by
  have hed : ∀ a b, Ed (wo (Wr N T x N) ((N - 1 : Nat) : Int)) (Hr (N - 1)) a b → a < b := by
    rintro a b ⟨m, hm, rfl, t, ht, rfl, hc⟩
    obtain ⟨hm1, hm2⟩ := mem_wo.1 hm
    obtain ⟨j, hj, rfl⟩ := mem_Wr.1 hm1
    obtain ⟨i, hi, rfl⟩ := mem_Hr.1 ht
    have hl := Nat.mod_lt (j + T) (show 0 < N by omega)
    obtain ⟨q, hq⟩ : ∃ q, (j + T) % N = q := ⟨_, rfl⟩
    rw [hq] at hm2 hl hc ⊢
    unfold clash at hc
    simp only [Bool.and_eq_true, decide_eq_true_eq] at hc
    have h1 : (q : Int) ≠ ((N - 1 : Nat) : Int) := hm2
    rw [Nat.mod_eq_of_lt (show q + 1 < N by omega)] at hc
    have h2 := nm_inj (by omega) (by omega) hc.2.1
    show (q : Int) < (i : Int)
    omega
  have hr : ∀ a b, Rch (wo (Wr N T x N) ((N - 1 : Nat) : Int)) (Hr (N - 1)) a b → a < b := fun a b h => by
    refine h.closed (fun y => a < y) (fun y hy => hed a y hy) fun u v hu hv => ?_
    have := hed u v hv
    omega
  refine .inr ⟨rfl, rfl, fun y hy hz => ?_⟩
  have := hr _ _ hy
  have := hr _ _ hz
  omega
/-! no waits, or one alone: no ring -/
theorem vic_none (H : List Hd) (s : Int) : Vic H [] s 0 false := by
  refine .inr ⟨rfl, rfl, fun y hy _ => ?_⟩
  obtain ⟨z, m, hm, _⟩ := hy.head
  simp at hm
theorem vic_one (H : List Hd) (h : Hd) (s : Int) : Vic H [h] s 0 false := by
  refine .inr ⟨rfl, rfl, fun y hy hz => ?_⟩
  obtain ⟨z, m, hm, h1, _⟩ := hy.head
  obtain ⟨z', m', hm', h1', _⟩ := hz.head
  obtain rfl := List.mem_singleton.1 hm
  obtain rfl := List.mem_singleton.1 hm'
  have he : ∀ a b, Rch [m'] H a b → b ≠ m'.s := fun a b hr => by
    have hd : ∀ a b, Ed [m'] H a b → b ≠ m'.s := by
      rintro a b ⟨q, hq, rfl, t, ht, rfl, hc⟩
      obtain rfl := List.mem_singleton.1 hq
      unfold clash at hc
      simp only [Bool.and_eq_true, decide_eq_true_eq] at hc
      exact fun e => hc.1 e.symm
    exact hr.closed (fun b => b ≠ m'.s) (fun y hy => hd a y hy) fun u v _ hv => hd u v hv
  exact he _ _ hy h1'.symm
end Go.Proofs.Ytllijeciodmckaa
