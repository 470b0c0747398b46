/-
  Locks in plain words: holds, what is asked for and freed, who is held up by whom, who of a ring is to go.
-/
import Derived.WalkKit
namespace Go.Proofs.Ytllijeciodmckaa

/-- A session's hold of a table. -/
structure Hd where
  s : Int
  t : List UInt8
  x : Bool
theorem Hd.ext_iff (a b : Hd) : a = b ↔ a.s = b.s ∧ a.t = b.t ∧ a.x = b.x := by
  cases a
  cases b
  simp
instance : DecidableEq Hd := fun a b => decidable_of_iff _ (Hd.ext_iff a b).symm
/-- Two holds that cannot both be held. -/
def clash (a b : Hd) : Bool := decide (a.s ≠ b.s) && (decide (a.t = b.t) && (a.x || b.x))
theorem clash_comm (a b : Hd) : clash a b = clash b a := by
  unfold clash
  rw [Bool.or_comm a.x]
  congr 1
  · exact decide_eq_decide.2 ⟨fun h => h.symm, fun h => h.symm⟩
  · congr 1
    exact decide_eq_decide.2 ⟨fun h => h.symm, fun h => h.symm⟩
/-- What others than s have. -/
def wo (l : List Hd) (s : Int) : List Hd := l.filter fun h => decide (h.s ≠ s)
/-- What s has. -/
def own (l : List Hd) (s : Int) : List Hd := l.filter fun h => decide (h.s = s)
def Hd.as (h : Hd) (x : Bool) : Hd := { h with x := x }
def covers (H : List Hd) (h : Hd) : Bool := decide (h ∈ H) || decide (h.as true ∈ H)
/-- Where the first one like x stands, or -1. -/
def idx (l : List Hd) (h : Hd) : Int := match l.findIdx? (fun k => decide (h = k)) with | some i => (i : Int) | none => -1
def wthH (H : List Hd) (h : Hd) : List Hd := match H.findIdx? (fun k => decide (h.as false = k)) with | some i => H.set i h | none => H ++ [h]
/-- Ask: the holds, the waits, what it says. -/
def askH (H : List Hd) (h : Hd) : List Hd := if covers H h then H else if H.any (clash h) then H else wthH H h
def askW (H W : List Hd) (h : Hd) : List Hd := if covers H h then wo W h.s else if H.any (clash h) then wo W h.s ++ [h] else wo W h.s
def askB (H : List Hd) (h : Hd) : Bool := if covers H h then true else if H.any (clash h) then false else true

theorem mem_wo {l : List Hd} {s : Int} {h : Hd} : h ∈ wo l s ↔ h ∈ l ∧ h.s ≠ s := by simp [wo]
theorem mem_own {l : List Hd} {s : Int} {h : Hd} : h ∈ own l s ↔ h ∈ l ∧ h.s = s := by simp [own]
theorem wo_wo (l : List Hd) (s : Int) : wo (wo l s) s = wo l s := by
  unfold wo
  rw [List.filter_filter]
  simp
theorem wo_append (l m : List Hd) (s : Int) : wo (l ++ m) s = wo l s ++ wo m s := List.filter_append ..
theorem own_append (l m : List Hd) (s : Int) : own (l ++ m) s = own l s ++ own m s := List.filter_append ..

/-- a is held up by b: one of a's of M stands against one of b's of T. -/
def Ed (M T : List Hd) (a b : Int) : Prop := ∃ m ∈ M, m.s = a ∧ ∃ t ∈ T, t.s = b ∧ clash m t = true
theorem Ed.symm {M T : List Hd} {a b : Int} (h : Ed M T a b) : Ed T M b a := by
  obtain ⟨m, hm, h1, t, ht, h2, h3⟩ := h
  exact ⟨t, ht, h2, m, hm, h1, by rw [clash_comm]; exact h3⟩
/-- .. over any number of them (one at least). -/
inductive Rch (M T : List Hd) : Int → Int → Prop
  | one {a b : Int} : Ed M T a b → Rch M T a b
  | more {a b c : Int} : Rch M T a b → Ed M T b c → Rch M T a c
theorem Rch.trans {M T : List Hd} {a b c : Int} (h : Rch M T a b) (k : Rch M T b c) : Rch M T a c := by
  induction k with
  | one e => exact .more h e
  | more _ e ih => exact .more ih e
theorem Rch.symm {M T : List Hd} {a b : Int} (h : Rch M T a b) : Rch T M b a := by
  induction h with
  | one e => exact .one e.symm
  | more _ e ih => exact (Rch.one e.symm).trans ih
/-- Whatever holds of whom a is held up by, and goes on over who holds up, holds of all. -/
theorem Rch.closed {M T : List Hd} {a b : Int} (P : Int → Prop) (h : Rch M T a b) (h0 : ∀ y, Ed M T a y → P y) (h1 : ∀ x y, P x → Ed M T x y → P y) : P b := by
  induction h with
  | one e => exact h0 _ e
  | more _ e ih => exact h1 _ _ ih e
theorem Rch.head {M T : List Hd} {a b : Int} (h : Rch M T a b) : ∃ y, Ed M T a y := by
  induction h with
  | one e => exact ⟨_, e⟩
  | more _ _ ih => exact ih

/-- WHO IS TO GO. -/
def Vic (H W : List Hd) (s v : Int) (ok : Bool) : Prop :=
  (ok = true ∧ Rch W H s v ∧ Rch W H v s ∧ ∀ x, Rch W H s x → Rch W H x s → x ≤ v) ∨ (ok = false ∧ v = 0 ∧ ∀ x, Rch W H s x → Rch W H x s → False)
theorem Vic.unique {H W : List Hd} {s v v' : Int} {b b' : Bool} (h : Vic H W s v b) (k : Vic H W s v' b') : v = v' ∧ b = b' := by
  rcases h with ⟨rfl, h1, h2, h3⟩ | ⟨rfl, rfl, h3⟩ <;> rcases k with ⟨rfl, k1, k2, k3⟩ | ⟨rfl, rfl, k3⟩
  · have := h3 _ k1 k2
    have := k3 _ h1 h2
    exact ⟨by omega, rfl⟩
  · exact (k3 _ h1 h2).elim
  · exact (h3 _ k1 k2).elim
  · exact ⟨rfl, rfl⟩

/-- ON THE WAY: L are those that were come upon (in their order); i of s :: L have been gone on from. -/
structure Bf (M T : List Hd) (s : Int) (L : List Int) (i : Nat) : Prop where
  rch : ∀ x ∈ L, Rch M T s x
  nodup : L.Nodup
  inT : ∀ x ∈ L, x ∈ T.map Hd.s
  done : ∀ j, j < i → ∀ a, (s :: L)[j]? = some a → ∀ y, Ed M T a y → y ∈ L
theorem Bf.start (M T : List Hd) (s : Int) : Bf M T s [] 0 := ⟨by simp, by simp, by simp, by omega⟩
theorem nodup_le : ∀ (L K : List Int), L.Nodup → (∀ x ∈ L, x ∈ K) → L.length ≤ K.length
  | [], K, _, _ => by simp
  | a :: L, K, h, hs => by
    have ha := hs a (by simp)
    rw [List.nodup_cons] at h
    have h1 := nodup_le L (K.erase a) h.2 (fun x hx => (List.mem_erase_of_ne (fun e => h.1 (by rw [← e]; exact hx))).2 (hs x (by simp [hx])))
    rw [List.length_erase_of_mem ha] at h1
    have := List.length_pos_of_mem ha
    simp
    omega
theorem Bf.small {M T : List Hd} {s : Int} {L : List Int} {i : Nat} (h : Bf M T s L i) : L.length ≤ T.length := by
  have := nodup_le L (T.map Hd.s) h.nodup h.inT
  simpa using this
/-- One more is come upon, from one that was. -/
theorem Bf.add {M T : List Hd} {s : Int} {L : List Int} {i : Nat} (h : Bf M T s L i) {a y : Int} (hL : a = s ∨ a ∈ L) (he : Ed M T a y) (hy : y ∉ L) (hi : i ≤ L.length) : Bf M T s (L ++ [y]) i := by
  refine ⟨fun x hx => ?_, ?_, fun x hx => ?_, fun j hj a' ha' z hz => ?_⟩
  · rcases List.mem_append.1 hx with hx | hx
    · exact h.rch x hx
    · obtain rfl := List.mem_singleton.1 hx
      rcases hL with rfl | hL
      · exact .one he
      · exact .more (h.rch a hL) he
  · rw [List.nodup_append]
    refine ⟨h.nodup, by simp, fun p hp q hq e => ?_⟩
    obtain rfl := List.mem_singleton.1 hq
    exact hy (by rw [← e]; exact hp)
  · rcases List.mem_append.1 hx with hx | hx
    · exact h.inT x hx
    · obtain rfl := List.mem_singleton.1 hx
      obtain ⟨m, _, _, t, ht, h2, _⟩ := he
      exact List.mem_map.2 ⟨t, ht, h2⟩
  · rw [← List.cons_append, List.getElem?_append_left (by simp; omega)] at ha'
    exact List.mem_append.2 (.inl (h.done j hj a' ha' z hz))
/-- All of one's are done. -/
theorem Bf.next {M T : List Hd} {s : Int} {L : List Int} {i : Nat} (h : Bf M T s L i) {a : Int} (ha : (s :: L)[i]? = some a) (hd : ∀ m ∈ own M a, ∀ t ∈ T, clash m t = true → t.s ∈ L) : Bf M T s L (i + 1) := by
  refine ⟨h.rch, h.nodup, h.inT, fun j hj a' ha' y hy => ?_⟩
  by_cases e : j < i
  · exact h.done j e a' ha' y hy
  · obtain rfl : j = i := by omega
    rw [ha] at ha'
    obtain rfl := Option.some.inj ha'
    obtain ⟨m, hm, h1, t, ht, h2, h3⟩ := hy
    rw [← h2]
    exact hd m (mem_own.2 ⟨hm, h1⟩) t ht h3
theorem Bf.all {M T : List Hd} {s : Int} {L : List Int} {i : Nat} (h : Bf M T s L i) (hi : L.length < i) (x : Int) : x ∈ L ↔ Rch M T s x := by
  refine ⟨h.rch x, fun hr => ?_⟩
  refine hr.closed (· ∈ L) (fun y hy => h.done 0 (by omega) s rfl y hy) fun a y ha hy => ?_
  obtain ⟨j, hj⟩ := List.getElem?_of_mem ha
  have hjl := (List.getElem?_eq_some_iff.1 hj).1
  exact h.done (j + 1) (by omega) a (by simpa using hj) y hy

/-- THE GREATEST OF THOSE THAT HAVE BOTH: what was found among some of them. -/
def Gr (P : Int → Prop) (v : Int) (ok : Bool) : Prop := (ok = true ∧ P v ∧ ∀ x, P x → x ≤ v) ∨ (ok = false ∧ v = 0 ∧ ∀ x, ¬ P x)
theorem Gr.start : Gr (fun _ => False) 0 false := .inr ⟨rfl, rfl, fun _ h => h⟩
theorem Gr.congr {P Q : Int → Prop} {v : Int} {ok : Bool} (h : Gr P v ok) (he : ∀ x, P x ↔ Q x) : Gr Q v ok := by
  rcases h with ⟨h1, h2, h3⟩ | ⟨h1, h2, h3⟩
  · exact .inl ⟨h1, (he v).1 h2, fun x hx => h3 x ((he x).2 hx)⟩
  · exact .inr ⟨h1, h2, fun x hx => h3 x ((he x).2 hx)⟩
/-- One more: it is greater, or the first. -/
theorem Gr.step {P : Int → Prop} {v : Int} {ok : Bool} (h : Gr P v ok) (y : Int) (hy : ok = false ∨ v < y) : Gr (fun x => P x ∨ x = y) y true := by
  refine .inl ⟨rfl, .inr rfl, fun x hx => ?_⟩
  rcases hx with hx | rfl
  · rcases h with ⟨h1, h2, h3⟩ | ⟨h1, h2, h3⟩
    · have := h3 x hx
      rcases hy with hy | hy
      · rw [h1] at hy; cases hy
      · omega
    · exact (h3 x hx).elim
  · omega
/-- One more that is not. -/
theorem Gr.skip {P : Int → Prop} {v : Int} {ok : Bool} (h : Gr P v ok) (y : Int) (hy : ok = true ∧ y ≤ v) : Gr (fun x => P x ∨ x = y) v ok := by
  rcases h with ⟨h1, h2, h3⟩ | ⟨h1, h2, h3⟩
  · refine .inl ⟨h1, .inl h2, fun x hx => ?_⟩
    rcases hx with hx | rfl
    · exact h3 x hx
    · exact hy.2
  · rw [h1] at hy; cases hy.1
theorem Vic.of_gr {H W : List Hd} {s v : Int} {ok : Bool} (h : Gr (fun x => Rch W H s x ∧ Rch H W s x) v ok) : Vic H W s v ok := by
  rcases h with ⟨h1, h2, h3⟩ | ⟨h1, h2, h3⟩
  · exact .inl ⟨h1, h2.1, h2.2.symm, fun x hx hy => h3 x ⟨hx, hy.symm⟩⟩
  · exact .inr ⟨h1, h2, fun x hx hy => h3 x ⟨hx, hy.symm⟩⟩
end Go.Proofs.Ytllijeciodmckaa
