/-
  A region that draws its order, by ONE condition on what has come up, the frame and the world: each operation is shown once to carry it on, whatever has come up ahead of it. Of no program.
-/
import Derived.RegionTactic
import Derived.WalkKit
import Derived.Deep.RegionHeld
namespace Go.Proofs.Ytllijeciodmckaa
open Go.RowKit

section
variable {P : Program} {ops : Array Oper} {Q : Exit → Act → World → Prop} {md : Region.Mode} {I : Array Bool → Act → World → Prop}

/-- Each operation waits for earlier ones alone. -/
def backB (md : Region.Mode) (ops : Array Oper) : Bool :=
  (List.range ops.size).all fun j => ((ops[j]?).map (·.after.all fun e => !Region.binds md e || decide (e.on < j))).getD true
theorem backB_spec (h : backB md ops = true) (j : Nat) (o : Oper) (ho : ops[j]? = some o) (e : Edge) (he : e ∈ o.after) (hb : Region.binds md e = true) : e.on < j := by
  have hj : j < ops.size := (Array.getElem?_eq_some_iff.1 ho).1
  have h1 := List.all_eq_true.1 h j (List.mem_range.2 hj)
  rw [ho] at h1
  simp only [Option.map_some, Option.getD_some, Array.all_eq_true_iff_forall_mem] at h1
  have h2 := h1 e he
  simpa [hb] using h2
theorem listed_all {listed : Array Bool} (hb : backB md ops = true) (hs : listed.size = ops.size) (hr : Region.ready md ops listed = []) : ∀ j, j < ops.size → listed.getD j false = true := by
  intro j
  induction j using Nat.strongRecOn with
  | _ j ih =>
    intro hj
    cases hl : listed.getD j false with
    | true => rfl
    | false =>
      exfalso
      have hm : j ∈ Region.ready md ops listed := by
        refine mem_ready.2 ⟨?_, ops[j], Array.getElem?_eq_getElem hj, fun e he hbe => ?_⟩
        · simp [hs, hj] at hl ⊢
          exact hl
        · have h1 := backB_spec hb j _ (Array.getElem?_eq_getElem hj) e he hbe
          exact ih e.on h1 (by omega)
      rw [hr] at hm
      cases hm
theorem listed_rep {listed : Array Bool} {n : Nat} (hs : listed.size = n) (h : ∀ j, j < n → listed.getD j false = true) : listed = Array.replicate n true := by
  apply Array.ext
  · simp [hs]
  · intro i h1 h2
    have := h i (by omega)
    simp [h1] at this
    simp [this]
/-- How many have not come up. -/
def unl (listed : Array Bool) : Nat := listed.toList.countP (fun b => !b)
theorem countP_set : ∀ (l : List Bool) (i : Nat), l[i]? = some false → (l.set i true).countP (fun b => !b) + 1 = l.countP (fun b => !b)
  | [], i, h => by simp at h
  | b :: l, 0, h => by
    obtain rfl : b = false := by simpa using h
    simp
  | b :: l, i + 1, h => by
    have := countP_set l i (by simpa using h)
    simp only [List.set_cons_succ, List.countP_cons]
    omega
theorem unl_set {listed : Array Bool} {i : Nat} (h : listed.getD i true = false) : unl (listed.setIfInBounds i true) + 1 = unl listed := by
  unfold unl
  rw [Array.toList_setIfInBounds]
  refine countP_set _ _ ?_
  rcases Nat.lt_or_ge i listed.size with h' | h'
  · simp [h'] at h ⊢
    exact h
  · simp [Array.getElem?_eq_none h'] at h
/-- Operation number j carries I on. -/
def StepOK (P : Program) (md : Region.Mode) (ops : Array Oper) (Q : Exit → Act → World → Prop) (I : Array Bool → Act → World → Prop) (j : Nat) (o : Oper) : Prop :=
  ∀ listed a w, I listed a w → listed.getD j true = false → (∀ e ∈ o.after, Region.binds md e = true → listed.getD e.on false = true) →
    ∀ K : Act → World → Prop, Shut (∀ a w, I (listed.setIfInBounds j true) a w → K a w) → if Region.wanted o (yielded ops a.tmps) = true then Oper.wp P o a w K Q else K (a.put o.dst undef) w
def StepsOK (P : Program) (md : Region.Mode) (ops : Array Oper) (Q : Exit → Act → World → Prop) (I : Array Bool → Act → World → Prop) : Nat → List Oper → Prop
  | _, [] => True
  | j, o :: r => StepOK P md ops Q I j o ∧ StepsOK P md ops Q I (j + 1) r
theorem StepsOK.get : ∀ (l : List Oper) (j i : Nat) (o : Oper), StepsOK P md ops Q I j l → l[i]? = some o → StepOK P md ops Q I (j + i) o
  | [], _, _, _, _, h => by simp at h
  | _ :: _, _, 0, _, hs, h => by
    obtain rfl := by simpa using h
    exact hs.1
  | _ :: l, j, i + 1, o, hs, h => by
    have := StepsOK.get l (j + 1) i o hs.2 (by simpa using h)
    rwa [show j + (i + 1) = j + 1 + i by omega]
theorem wpAny_inv (hb : backB md ops = true) (hs : StepsOK P md ops Q I 0 ops.toList) (hd : ∀ a w, I (Array.replicate ops.size true) a w → Q .normal a w) :
    ∀ (fuel : Nat) (listed : Array Bool) (a : Act) (w : World), listed.size = ops.size → unl listed ≤ fuel → I listed a w → wpAny P md ops Q fuel listed a w := by
  have done : ∀ listed a w, listed.size = ops.size → I listed a w → Region.ready md ops listed = [] → Q .normal a w := fun listed a w hz hI hr => by
    have := listed_rep hz (listed_all hb hz hr)
    rw [this] at hI
    exact hd a w hI
  intro fuel
  induction fuel with
  | zero =>
    intro listed a w hz hu hI
    have hr : Region.ready md ops listed = [] := by
      cases hr : Region.ready md ops listed with
      | nil => rfl
      | cons x r =>
        exfalso
        have hm : x ∈ Region.ready md ops listed := by rw [hr]; simp
        have := unl_set (mem_ready.1 hm).1
        omega
    exact ⟨hr, done listed a w hz hI hr⟩
  | succ fuel ih =>
    intro listed a w hz hu hI
    refine ⟨done listed a w hz hI, fun i hi => ?_⟩
    obtain ⟨h0, o, ho, hall⟩ := mem_ready.1 hi
    have h1 : StepOK P md ops Q I i o := by
      have := StepsOK.get ops.toList 0 i o hs (by simpa using ho)
      rwa [Nat.zero_add] at this
    have hu2 := unl_set h0
    exact wpOp_step ho fun K hK => h1 listed a w hI h0 hall K (fun a' w' h' => hK a' w' (ih _ a' w' (by simp [hz]) (by omega) h'))
theorem unl_rep (n : Nat) : unl (Array.replicate n false) = n := by simp [unl, List.countP_replicate]
/-- THE LAW: the condition (of the frame and the world at the start) stands at the start, is carried on by each operation, and is enough at the end. -/
theorem region_inv (I : Act → World → Array Bool → Act → World → Prop) {id : Nat} {a : Act} {w : World} (hm : P.follows .mixedOrders = true) (hb : backB .any ops = true) (h0 : I a w.drew (Array.replicate ops.size false) a w.drew)
    (hs : StepsOK P .any ops Q (I a w.drew) 0 ops.toList) (hd : ∀ a' w', I a w.drew (Array.replicate ops.size true) a' w' → Q .normal a' w') : (Code.region id ops true).wp P Q a w :=
  wp_region_any hm (wpAny_inv hb hs hd ops.size _ a w.drew (by simp) (by rw [unl_rep]; exact Nat.le_refl _) h0)
end
end Go.Proofs.Ytllijeciodmckaa
