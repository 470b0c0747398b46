/-
  Slices of sums: what they read as ('IsH'), a row of the call's own ('OwnH'), append to it; a sum is read whole.
  Roots, proofs and ways of a list of sums, plain: from above and from below they are the same.
  merkle's sums of marked bytes: marked, Leaf, pair; the reference's Leaf and Two.
  The sum over two: merkle's pair and Leaf.
  merkle's above: the row above.
-/
import Derived.Test.YtdmnjjknkcnkgaaDoorMg6
import Derived.Great.BuildSlice
import Derived.KernelRfl
import Derived.StillTailTactics
import Derived.Outline
import Derived.Deep.RegionHeld3
namespace Go.Proofs.YtdmnjjknkcnkgaaDoor
open Go.RowKit

/-- THE SLICE ao, n, cap READS AS THE SUMS hs. -/
structure IsH (w : World) (ao : Option Addr) (n cap : Nat) (hs : List (List UInt8)) : Prop where
  len : hs.length = n
  le : n ≤ cap
  max : cap ≤ maxLen
  nil : ao = none → cap = 0
  all : ∀ h ∈ hs, h.length = 32
  at_ : ∀ a, ao = some a → ∀ i, i < n → AtA w (a.add (i * 32)) (hs.getD i [])
theorem IsH.past {w w' : World} {ao : Option Addr} {n cap : Nat} {hs : List (List UInt8)} (h : IsH w ao n cap hs) (hb : Below w.heap.size w w') : IsH w' ao n cap hs :=
  ⟨h.len, h.le, h.max, h.nil, h.all, fun a ha i hi => (h.at_ a ha i hi).past hb⟩
theorem IsH.one {w : World} {ao : Option Addr} {n cap : Nat} {hs : List (List UInt8)} (h : IsH w ao n cap hs) (i : Nat) (hi : i < n) : (hs.getD i []).length = 32 := by
  have hl := h.len
  have : hs.getD i [] = hs[i] := by simp [List.getD, show i < hs.length by omega]
  rw [this]
  exact h.all _ (List.getElem_mem _)
theorem IsH.has {w : World} {ao : Option Addr} {n cap : Nat} {hs : List (List UInt8)} (h : IsH w ao n cap hs) (hn : 0 < n) : ∃ a, ao = some a := by
  cases ao with
  | none => have := h.nil rfl; have := h.le; omega
  | some a => exact ⟨a, rfl⟩
theorem IsH.nilH (w : World) : IsH w none 0 0 [] := ⟨rfl, Nat.le_refl _, Nat.zero_le _, fun _ => rfl, by simp, fun a h => by cases h⟩
theorem getD_take' {α : Type} (l : List α) (d : α) (k j : Nat) (h : j < k) : (l.take k).getD j d = l.getD j d := by simp [List.getD, h]
theorem getD_drop' {α : Type} (l : List α) (d : α) (k j : Nat) : (l.drop k).getD j d = l.getD (k + j) d := by simp [List.getD]
theorem IsH_take {w : World} {ao : Option Addr} {n cap : Nat} {hs : List (List UInt8)} (h : IsH w ao n cap hs) (m : Nat) (hm : m ≤ n) : IsH w ao m cap (hs.take m) := by
  have h1 := h.len
  have h2 := h.le
  exact ⟨by rw [List.length_take]; omega, by omega, h.max, h.nil, fun x hx => h.all x (List.mem_of_mem_take hx), fun a ha i hi => by rw [getD_take' _ _ _ _ hi]; exact h.at_ a ha i (by omega)⟩
theorem IsH_drop {w : World} {ao : Option Addr} {n cap : Nat} {hs : List (List UInt8)} (h : IsH w ao n cap hs) (m : Nat) (hm : m ≤ n) : IsH w (ao.map fun x => x.add (m * 32)) (n - m) (cap - m) (hs.drop m) := by
  have h1 := h.len
  have h2 := h.le
  have h3 := h.max
  refine ⟨by rw [List.length_drop]; omega, by omega, by omega, fun hn => ?_, fun x hx => h.all x (List.mem_of_mem_drop hx), fun a ha i hi => ?_⟩
  · have := h.nil (by simpa using hn)
    omega
  · obtain ⟨b, rfl, rfl⟩ := Option.map_eq_some_iff.1 ha
    rw [Addr.add_add, getD_drop', ← Nat.add_mul]
    exact h.at_ b rfl (m + i) (by omega)
theorem IsH_end {w : World} {ao : Option Addr} {n cap : Nat} {hs : List (List UInt8)} (h : IsH w ao n cap hs) : IsH w ao 0 0 (hs.drop n) := by
  have h1 := h.len
  rw [List.drop_eq_nil_of_le (by omega)]
  exact ⟨rfl, Nat.le_refl _, Nat.zero_le _, fun _ => rfl, by simp, fun a ha i hi => by omega⟩
theorem elemH (w' : World) : (sizeOf (Tryd.prog.elem 97)).run Tryd.prog w' = .ok 32 w' := by kernel_rfl
/-- 'l[c:]'. -/
theorem IsH_cut {w : World} {ao : Option Addr} {n cap : Nat} {hs : List (List UInt8)} (h : IsH w ao n cap hs) (c : Nat) (hc : c ≤ n) :
    ∃ ao2, (∀ w' : World, (Instr.slice 97 (.slice ao n cap) (some (.int .i64 c)) none none).run Tryd.prog w' = .ok (.slice ao2 (n - c) (cap - c)) w') ∧ IsH w ao2 (n - c) (cap - c) (hs.drop c) ∧ (∀ a, ao = some a → ∃ b, ao2 = some b) := by
  have hle := h.le
  have hrun : ∀ w' : World, (Instr.slice 97 (.slice ao n cap) (some (.int .i64 c)) none none).run Tryd.prog w' = .ok (sliced ao c n cap 32) w' := fun w' => by
    rw [run_slice_l w' 97 ao n cap (by kernel_rfl) .i64 (c : Int) (by omega) (by omega), elemH]
    simp [Result.andThen]
  by_cases he : cap = c
  · have hn : n = c := by omega
    refine ⟨ao, fun w' => by rw [hrun, sliced, if_pos he], ?_⟩
    subst he
    subst hn
    rw [Nat.sub_self]
    exact ⟨IsH_end h, fun a ha => ⟨a, ha⟩⟩
  · exact ⟨ao.map fun x => x.add (c * 32), fun w' => by rw [hrun, sliced, if_neg he], IsH_drop h c hc, fun a ha => ⟨_, by rw [ha]; rfl⟩⟩
/-- 'l[:c]'. -/
theorem IsH_head {w : World} {ao : Option Addr} {n cap : Nat} {hs : List (List UInt8)} (h : IsH w ao n cap hs) (c : Nat) (hc : c ≤ n) :
    ∃ ao2, (∀ w' : World, (Instr.slice 97 (.slice ao n cap) none (some (.int .i64 c)) none).run Tryd.prog w' = .ok (.slice ao2 c cap) w') ∧ IsH w ao2 c cap (hs.take c) := by
  have hle := h.le
  have hrun : ∀ w' : World, (Instr.slice 97 (.slice ao n cap) none (some (.int .i64 c)) none).run Tryd.prog w' = .ok (sliced ao 0 c cap 32) w' := fun w' => by
    rw [run_slice_h w' 97 ao n cap (by kernel_rfl) .i64 (c : Int) (by omega) (by omega), elemH]
    simp [Result.andThen]
  by_cases he : cap = 0
  · exact ⟨ao, fun w' => by rw [hrun, sliced, if_pos he]; simp, IsH_take h c hc⟩
  · refine ⟨ao.map fun x => x.add 0, fun w' => by rw [hrun, sliced, if_neg he]; simp, ?_⟩
    have hd := IsH_drop h 0 (by omega)
    have := IsH_take hd c (by omega)
    simpa using this

/-- A ROW OF THE CALL'S OWN (or nil), from block base on: k sums hs. -/
def OwnH (w : World) (base : Nat) (v : Value) (k : Nat) (hs : List (List UInt8)) : Prop :=
  w.ownsRow base 47 32 v k (bcs hs.flatten) ∧ hs.length = k ∧ ∀ h ∈ hs, h.length = 32
theorem OwnH.nil (w : World) (base : Nat) : OwnH w base (.slice none 0 0) 0 [] := ⟨⟨rfl, .inl ⟨rfl, rfl⟩⟩, rfl, by simp⟩
theorem OwnH.alloc {w : World} {base : Nat} {v : Value} {k : Nat} {hs : List (List UInt8)} (h : OwnH w base v k hs) (o : Obj) : OwnH (w.alloc o) base v k hs := ⟨h.1.alloc o, h.2⟩
theorem OwnH.ge {w : World} {base : Nat} {v : Value} {k : Nat} {hs : List (List UInt8)} (h : OwnH w base v k hs) (g : Nat) (hg : v.ownBlock = some g) : base ≤ g := by
  obtain ⟨⟨_, ho⟩, _, _⟩ := h
  rcases ho with ⟨rfl, rfl⟩ | ⟨g', cap, cur, rfl, hg', _⟩
  · cases hg
  · cases hg
    exact hg'
theorem OwnH.past {w w' : World} {base : Nat} {v : Value} {k : Nat} {hs : List (List UInt8)} (h : OwnH w base v k hs) (hb : Below w.heap.size w w') : OwnH w' base v k hs := by
  obtain ⟨⟨hl, ho⟩, h2⟩ := h
  refine ⟨⟨hl, ?_⟩, h2⟩
  rcases ho with ho | ⟨g', cap, cur, rfl, hg', hc, hr⟩
  · exact .inl ho
  · exact .inr ⟨g', cap, cur, rfl, hg', by rw [hb.block _ (Array.getElem?_eq_some_iff.1 hc).1]; exact hc, hr⟩
theorem flat_get : ∀ (hs : List (List UInt8)) (i j : Nat), (∀ h ∈ hs, h.length = 32) → i < hs.length → j < 32 → hs.flatten[i * 32 + j]? = (hs.getD i [])[j]?
  | h :: hs, 0, j, ha, _, hj => by
    have := ha h (by simp)
    simp only [List.flatten_cons, Nat.zero_mul, Nat.zero_add, List.getD_cons_zero]
    rw [List.getElem?_append_left (by omega)]
  | h :: hs, i + 1, j, ha, hi, hj => by
    have h32 := ha h (by simp)
    simp only [List.flatten_cons, List.getD_cons_succ]
    rw [List.getElem?_append_right (by omega), h32, show (i + 1) * 32 + j - 32 = i * 32 + j by omega]
    exact flat_get hs i j (fun x hx => ha x (by simp [hx])) (by simpa using hi) hj
  | [], i, j, _, hi, _ => by simp at hi
theorem flat_length : ∀ (hs : List (List UInt8)), (∀ h ∈ hs, h.length = 32) → hs.flatten.length = hs.length * 32
  | [], _ => rfl
  | h :: hs, ha => by
    rw [List.flatten_cons, List.length_append, ha h (by simp), flat_length hs (fun x hx => ha x (by simp [hx])), List.length_cons]
    omega
theorem OwnH.isH {w : World} {base : Nat} {v : Value} {k : Nat} {hs : List (List UInt8)} (h : OwnH w base v k hs) : ∃ ao cap, v = .slice ao k cap ∧ IsH w ao k cap hs ∧ (∀ a, ao = some a → base ≤ a.block) := by
  obtain ⟨⟨hl, ho⟩, hk, ha⟩ := h
  rcases ho with ⟨rfl, rfl⟩ | ⟨g, cap, cur, rfl, hg, hc, hn, hm, hs', ht⟩
  · have : hs = [] := List.eq_nil_of_length_eq_zero hk
    subst this
    exact ⟨none, 0, rfl, IsH.nilH w, fun a h => by cases h⟩
  · refine ⟨_, cap, rfl, ⟨hk, hn, hm, fun h => (by cases h), ha, fun a e i hi j u hu => ?_⟩, fun a e => by cases e; exact hg⟩
    obtain rfl := Option.some.inj e
    have h32 : (hs.getD i []).length = 32 := by
      have : hs.getD i [] = hs[i]'(by omega) := by simp [List.getD, show i < hs.length by omega]
      rw [this]
      exact ha _ (List.getElem_mem _)
    have hj : j < 32 := by have := (List.getElem?_eq_some_iff.1 hu).1; omega
    rw [Addr.add_lit, Addr.add_lit, Nat.zero_add, cell_of_row w g _ cur _ (0, 0) hc]
    have h1 : (bcs hs.flatten)[i * 32 + j]? = some (bc u) := by rw [bcs_get, flat_get hs i j ha (by omega) hj, hu]; rfl
    rw [← ht, List.getElem?_take_of_lt (by omega)] at h1
    simpa using h1
theorem info_hash : (Tryd.prog.info? 47).map (fun i => (i.zero, i.size, i.bytes)) = some (some (.agg (bcs (List.replicate 32 0)).toArray), 32, 32) := by kernel_rfl
/-- append of some sums. -/
theorem wp_append_hs {w : World} {o : Oper} {a : Act} {K : Act → World → Prop} {Q : Exit → Act → World → Prop} (s x : Operand)
    (ho : o.op = .call { callee := .builtin .append, args := #[s, x], argTypes := #[97, 97] }) (base : Nat) (hbase : base ≤ w.heap.size)
    (v : Value) (k : Nat) (hs : List (List UInt8)) (hsv : a.eval s = v) (hown : OwnH w base v k hs) (ad : Addr) (m c : Nat) (ns : List (List UInt8)) (hx : a.eval x = .slice (some ad) m c)
    (hN : IsH w (some ad) m c ns) (hk : k + m ≤ 1000000)
    (h : ∀ v' w', OwnH w' base v' (k + m) (hs ++ ns) → w.grownBy w' v.ownBlock → K (a.put o.dst v') w') : o.wp Tryd.prog a w K Q := by
  obtain ⟨ho2, hp, ha⟩ := hown
  obtain ⟨i0, hi, hz0, hz1, hz2⟩ := info_parts info_hash
  have hfl := flat_length ns hN.all
  have hnl := hN.len
  refine wp_append_own w s x 97 ho base 47 i0 (.agg (bcs (List.replicate 32 0)).toArray) 32 32 Tryd.underlying97 hi hz0 hz1 hz2 (by simp [Value.cells, bcs_length]) (by decide) v k (bcs hs.flatten) hsv ho2 ad m c (bcs ns.flatten) hx (by rw [bcs_length, hfl, hnl]) ?_ (bcs_one _) (by unfold maxLen; omega) (by omega) hbase fun v' w' h1 h2 _ => h v' w' ⟨by rw [List.flatten_append, bcs_append]; exact h1, by simp [hp, hnl], fun y hy => ?_⟩ h2
  · intro j u hu
    rw [bcs_get] at hu
    obtain ⟨x', hx', rfl⟩ := Option.map_eq_some_iff.1 hu
    have hj : j < ns.flatten.length := (List.getElem?_eq_some_iff.1 hx').1
    have h2 := flat_get ns (j / 32) (j % 32) hN.all (by omega) (by omega)
    rw [show j / 32 * 32 + j % 32 = j by omega, hx'] at h2
    have := hN.at_ ad rfl (j / 32) (by omega) (j % 32) x' h2.symm
    rw [Addr.add_add, show j / 32 * 32 + j % 32 = j by omega] at this
    exact this
  · rcases List.mem_append.1 hy with h3 | h3
    · exact ha y h3
    · exact hN.all y h3
theorem wpList_append_hs {w : World} {ops : Array Oper} {rest : List Oper} {o : Oper} {a : Act} {Q : Exit → Act → World → Prop} (hgd : o.guard = none) (s x : Operand)
    (ho : o.op = .call { callee := .builtin .append, args := #[s, x], argTypes := #[97, 97] }) (base : Nat) (hbase : base ≤ w.heap.size)
    (v : Value) (k : Nat) (hs : List (List UInt8)) (hsv : a.eval s = v) (hown : OwnH w base v k hs) (ad : Addr) (m c : Nat) (ns : List (List UInt8)) (hx : a.eval x = .slice (some ad) m c)
    (hN : IsH w (some ad) m c ns) (hk : k + m ≤ 1000000)
    (h : ∀ v' w', OwnH w' base v' (k + m) (hs ++ ns) → w.grownBy w' v.ownBlock → wpList Tryd.prog ops Q rest (a.put o.dst v') w') : wpList Tryd.prog ops Q (o :: rest) a w :=
  wpList_plain hgd fun _ hK => wp_append_hs s x ho base hbase v k hs hsv hown ad m c ns hx hN hk fun v' w' h1 h2 => hK _ _ (h v' w' h1 h2)
theorem isH_blk {w : World} {g n : Nat} {t : TypeId} {hs : List (List UInt8)} (hb : w.heap[g]? = some (.cells (bcs hs.flatten).toArray t (0, 0))) (hl : hs.length = n) (ha : ∀ h ∈ hs, h.length = 32) (hn : n ≤ 1000000) : IsH w (some ⟨g, 0, none⟩) n n hs :=
  ⟨hl, Nat.le_refl _, by unfold maxLen; omega, (fun h => by cases h), ha, fun a e i hi j u hu => by
    obtain rfl := Option.some.inj e
    have h32 : (hs.getD i []).length = 32 := by
      have : hs.getD i [] = hs[i]'(by omega) := by simp [List.getD, show i < hs.length by omega]
      rw [this]
      exact ha _ (List.getElem_mem _)
    have hj : j < 32 := by have := (List.getElem?_eq_some_iff.1 hu).1; omega
    rw [Addr.add_lit, Addr.add_lit, Nat.zero_add, cell_of_row w g _ _ _ (0, 0) hb]
    have h1 : (bcs hs.flatten)[i * 32 + j]? = some (bc u) := by rw [bcs_get, flat_get hs i j ha (by omega) hj, hu]; rfl
    simpa using h1⟩
theorem cells_hs : ∀ hs : List (List UInt8), ((hs.map fun h => Value.agg (bcs h).toArray).flatMap fun v => v.cells.toList) = bcs hs.flatten
  | [] => rfl
  | h :: hs => by
    simp only [List.map_cons, List.flatMap_cons, List.flatten_cons, bcs_append, cells_hs hs]
    simp [Value.cells]
/-- A slice literal of sums. -/
theorem wp_buildSlice_hs {o : Oper} {a : Act} {w : World} {K : Act → World → Prop} {Q : Exit → Act → World → Prop} (len : Nat) (parts : Array (Nat × Operand)) (ho : o.op = .buildSlice 97 len parts)
    (hs : List (List UInt8)) (hl : hs.length = len) (ha : ∀ h ∈ hs, h.length = 32) (hpos : 0 < len) (hsmall : len ≤ 1000)
    (hp : (parts.map fun (i, x) => (i, a.eval x)).toList = ((hs.map fun h => Value.agg (bcs h).toArray).zipIdx 0).map fun x => (x.2, x.1))
    (hK : ∀ w', w'.heap[w.heap.size]? = some (.cells (bcs hs.flatten).toArray 47 (0, 0)) → IsH w' (some ⟨w.heap.size, 0, none⟩) len len hs → Below w.heap.size w w' → K (a.put o.dst (.slice (some ⟨w.heap.size, 0, none⟩) len len)) w') : o.wp Tryd.prog a w K Q := by
  obtain ⟨i0, hi, hz0, hz1, hz2⟩ := info_parts info_hash
  refine wp_buildSlice 97 47 len parts ho (bcs hs.flatten).toArray i0 _ Tryd.underlying97 hi hz0 (by rw [hz1]; omega) (by rw [hz1]; omega) ?_ (hK _ (heap_alloc_new w _) ?_ ((Below.refl _ _).alloc (Nat.le_refl _) _))
  · rw [hp, hz1, Great.fill_whole (by omega) _ _ (fun v hv => by obtain ⟨h, hh, rfl⟩ := List.mem_map.1 hv; simp [Value.cells, bcs_length, ha h hh]) (by simp [hl]), cells_hs]
  · exact isH_blk (heap_alloc_new w _) hl ha (by omega)
theorem wpList_buildSlice_hs {w : World} {ops : Array Oper} {rest : List Oper} {o : Oper} {a : Act} {Q : Exit → Act → World → Prop} (hgd : o.guard = none) (len : Nat) (parts : Array (Nat × Operand)) (ho : o.op = .buildSlice 97 len parts)
    (hs : List (List UInt8)) (hl : hs.length = len) (ha : ∀ h ∈ hs, h.length = 32) (hpos : 0 < len) (hsmall : len ≤ 1000)
    (hp : (parts.map fun (i, x) => (i, a.eval x)).toList = ((hs.map fun h => Value.agg (bcs h).toArray).zipIdx 0).map fun x => (x.2, x.1))
    (hK : ∀ w', w'.heap[w.heap.size]? = some (.cells (bcs hs.flatten).toArray 47 (0, 0)) → IsH w' (some ⟨w.heap.size, 0, none⟩) len len hs → Below w.heap.size w w' → wpList Tryd.prog ops Q rest (a.put o.dst (.slice (some ⟨w.heap.size, 0, none⟩) len len)) w') : wpList Tryd.prog ops Q (o :: rest) a w :=
  wpList_plain hgd fun _ hK' => wp_buildSlice_hs len parts ho hs hl ha hpos hsmall hp fun w' h1 h2 h3 => hK' _ _ (hK w' h1 h2 h3)
theorem isH_one (w : World) (t : TypeId) (l : List UInt8) (hl : l.length = 32) : IsH (w.alloc (.cells (bcs l).toArray t)) (some ⟨w.heap.size, 0, none⟩) 1 1 [l] :=
  ⟨rfl, Nat.le_refl _, by unfold maxLen; omega, (fun h => by cases h), by simp [hl], fun a ha i hi j u hu => by
    obtain rfl := Option.some.inj ha
    obtain rfl : i = 0 := by omega
    simp only [List.getD_cons_zero] at hu
    rw [Addr.add_lit, Addr.add_lit, cell_of_row _ _ _ _ t (0, 0) (heap_alloc_new w _)]
    simp [bcs, hu]⟩
theorem OwnH.step {w0 w w' : World} {B base : Nat} {v : Value} {k : Nat} {hs : List (List UInt8)} (h : OwnH w base v k hs) (hb : Below B w0 w) (hB : B ≤ w.heap.size) (hbase : B ≤ base) (g : w.grownBy w' v.ownBlock) : Below B w0 w' :=
  hb.grown g hB (fun k hk => Nat.le_trans hbase (h.ge k hk))
theorem hash_size (l : List UInt8) (hl : l.length = 32) : (Tryd.prog.info? 47).map (·.size) = some l.length := by rw [hl]; exact sizeHash
end Go.Proofs.YtdmnjjknkcnkgaaDoor
namespace Go.Proofs.YtdmnjjknkcnkgaaDoor.Mk
section
variable {H : Type}

/-- The greatest power of two that is less than n; n from 2 on. -/
def part (n : Nat) : Nat := 2 ^ (n - 1).log2
theorem part_pos (n : Nat) : 1 ≤ part n := Nat.one_le_two_pow
theorem part_lt {n : Nat} (h : 2 ≤ n) : part n < n := by
  have := Nat.log2_self_le (n := n - 1) (by omega)
  unfold part
  omega
theorem part_le {n : Nat} : n ≤ 2 * part n := by
  have := Nat.lt_log2_self (n := n - 1)
  unfold part
  rw [Nat.pow_succ] at this
  omega
theorem part_eq {n j : Nat} (h1 : 2 ^ j < n) (h2 : n ≤ 2 * 2 ^ j) : part n = 2 ^ j := by
  unfold part
  have : (n - 1).log2 = j := (Nat.log2_eq_iff (by omega)).2 ⟨by omega, by rw [Nat.pow_succ]; omega⟩
  rw [this]
theorem part_two : part 2 = 1 := part_eq (j := 0) (by omega) (by omega)
theorem part_even {n : Nat} (h : 3 ≤ n) : part n % 2 = 0 ∧ 2 ≤ part n := by
  have h2 : n ≤ 2 * part n := part_le
  unfold part at *
  cases hj : (n - 1).log2 with
  | zero => rw [hj] at h2; omega
  | succ j => rw [Nat.pow_succ]; have := Nat.one_le_two_pow (n := j); omega
theorem part_half {n : Nat} (h : 3 ≤ n) : part ((n + 1) / 2) = part n / 2 := by
  have h2 : n ≤ 2 * part n := part_le
  have h1 := part_lt (n := n) (by omega)
  have h3 := (part_even h).2
  unfold part at h1 h2 h3 ⊢
  cases hj : (n - 1).log2 with
  | zero => rw [hj] at h3; omega
  | succ j =>
    rw [hj] at h1 h2 h3
    rw [Nat.pow_succ] at *
    have e : 2 ^ j * 2 / 2 = 2 ^ j := by omega
    rw [e]
    exact part_eq (by omega) (by omega)

variable (two : H → H → H) (e : H)
def root (l : List H) : H :=
  if _h : l.length < 2 then l.headD e else two (root (l.take (part l.length))) (root (l.drop (part l.length)))
termination_by l.length
decreasing_by
  · have := part_lt (n := l.length) (by omega); simp; omega
  · have := part_pos l.length; simp; omega
def proof (l : List H) (i : Nat) : List H :=
  if _h : l.length < 2 then [] else if i < part l.length then proof (l.take (part l.length)) i ++ [root two e (l.drop (part l.length))] else proof (l.drop (part l.length)) (i - part l.length) ++ [root two e (l.take (part l.length))]
termination_by l.length
decreasing_by
  · have := part_lt (n := l.length) (by omega); simp; omega
  · have := part_pos l.length; simp; omega
/-- On which side the sum stands, from below: true: to the left. -/
def dirs (n i : Nat) : List Bool :=
  if _h : n < 2 then [] else if i < part n then dirs (part n) i ++ [true] else dirs (n - part n) (i - part n) ++ [false]
termination_by n
decreasing_by
  · exact part_lt (by omega)
  · have := part_pos n; omega
def led (h : H) : List Bool → List H → H
  | d :: ds, x :: p => led (if d then two h x else two x h) ds p
  | _, _ => h
def above : List H → List H
  | a :: b :: t => two a b :: above t
  | l => l
def sib (i : Nat) : Nat := if i % 2 = 0 then i + 1 else i - 1

theorem above_length : ∀ l : List H, (above two l).length = (l.length + 1) / 2
  | [] => by simp [above]
  | [_] => by simp [above]
  | _ :: _ :: t => by simp only [above, List.length_cons, above_length t]; omega
theorem above_append : ∀ (l m : List H), l.length % 2 = 0 → above two (l ++ m) = above two l ++ above two m
  | [], _, _ => rfl
  | [_], _, h => by simp at h
  | a :: b :: t, m, h => by
    simp only [List.length_cons] at h
    simp only [List.cons_append, above, above_append t m (by omega)]
theorem root_one (l : List H) (h : l.length < 2) : root two e l = l.headD e := by rw [root, dif_pos h]
theorem root_more (l : List H) (h : 2 ≤ l.length) : root two e l = two (root two e (l.take (part l.length))) (root two e (l.drop (part l.length))) := by
  rw [root, dif_neg (by omega)]
theorem proof_one (l : List H) (i : Nat) (h : l.length < 2) : proof two e l i = [] := by rw [proof, dif_pos h]
theorem proof_left (l : List H) (i : Nat) (h : 2 ≤ l.length) (hi : i < part l.length) : proof two e l i = proof two e (l.take (part l.length)) i ++ [root two e (l.drop (part l.length))] := by
  rw [proof, dif_neg (by omega), if_pos hi]
theorem proof_right (l : List H) (i : Nat) (h : 2 ≤ l.length) (hi : part l.length ≤ i) : proof two e l i = proof two e (l.drop (part l.length)) (i - part l.length) ++ [root two e (l.take (part l.length))] := by
  rw [proof, dif_neg (by omega), if_neg (by omega)]
theorem dirs_one (n i : Nat) (h : n < 2) : dirs n i = [] := by rw [dirs, dif_pos h]
theorem dirs_left (n i : Nat) (h : 2 ≤ n) (hi : i < part n) : dirs n i = dirs (part n) i ++ [true] := by rw [dirs, dif_neg (by omega), if_pos hi]
theorem dirs_right (n i : Nat) (h : 2 ≤ n) (hi : part n ≤ i) : dirs n i = dirs (n - part n) (i - part n) ++ [false] := by rw [dirs, dif_neg (by omega), if_neg (by omega)]

theorem above_cut (l : List H) (h : 3 ≤ l.length) : (above two l).take (part l.length / 2) = above two (l.take (part l.length)) ∧ (above two l).drop (part l.length / 2) = above two (l.drop (part l.length)) := by
  have h1 := part_lt (n := l.length) (by omega)
  obtain ⟨h2, h3⟩ := part_even h
  have e1 : above two l = above two (l.take (part l.length)) ++ above two (l.drop (part l.length)) := by
    rw [← above_append two _ _ (by rw [List.length_take]; omega), List.take_append_drop]
  have e2 : (above two (l.take (part l.length))).length = part l.length / 2 := by rw [above_length, List.length_take]; omega
  rw [e1]
  exact ⟨by rw [← e2]; exact List.take_left, by rw [← e2]; exact List.drop_left⟩
theorem above_short (l : List H) (h : l.length < 2) : above two l = l := by
  match l, h with
  | [], _ => rfl
  | [_], _ => rfl
theorem root_above_n : ∀ n, ∀ l : List H, l.length = n → root two e (above two l) = root two e l := by
  intro n
  induction n using Nat.strongRecOn with
  | ind n ih =>
    intro l hl
    by_cases h2 : n < 2
    · rw [above_short two l (by omega)]
    · by_cases h3 : n = 2
      · match l, hl, h3 with
        | [a, b], _, _ =>
          rw [root_more _ _ [a, b] (by simp), root_one]
          · simp [above, part_two, root_one]
          · simp [above]
      · obtain ⟨c1, c2⟩ := above_cut two l (by omega)
        have hp := part_lt (n := l.length) (by omega)
        have hq := part_pos l.length
        have hh : (above two l).length = (l.length + 1) / 2 := above_length two l
        rw [root_more _ _ (above two l) (by omega), hh, part_half (by omega), c1, c2, ih (part l.length) (by omega) _ (by rw [List.length_take]; omega), ih (l.length - part l.length) (by omega) _ (by simp), ← root_more two e l (by omega)]
theorem root_above (l : List H) : root two e (above two l) = root two e l := root_above_n two e _ l rfl

theorem sib_lt {i k : Nat} (h : i < k) (hk : k % 2 = 0) : sib i < k := by unfold sib; split <;> omega
theorem sib_ge {i k : Nat} (h : k ≤ i) (hk : k % 2 = 0) : sib i = k + sib (i - k) := by unfold sib; split <;> split <;> omega

theorem getD_take (l : List H) (k j : Nat) (h : j < k) : (l.take k).getD j e = l.getD j e := by simp [List.getD, h]
theorem getD_drop (l : List H) (k j : Nat) : (l.drop k).getD j e = l.getD (k + j) e := by simp [List.getD]
theorem proof_above_n : ∀ n, ∀ (l : List H) (i : Nat), l.length = n → 2 ≤ n → i < n → proof two e l i = (if sib i < n then [l.getD (sib i) e] else []) ++ proof two e (above two l) (i / 2) := by
  intro n
  induction n using Nat.strongRecOn with
  | ind n ih =>
    intro l i hl h2 hi
    subst hl
    by_cases h3 : l.length = 2
    · match l, h3, hi with
      | [a, b], _, hi =>
        have : proof two e (above two [a, b]) (i / 2) = [] := proof_one _ _ _ _ (by simp [above])
        rw [this]
        have hi' : i = 0 ∨ i = 1 := by simp at hi; omega
        rcases hi' with rfl | rfl
        · rw [proof_left _ _ _ _ (by simp) (by simp [part_two])]
          simp [part_two, proof_one, root_one, sib]
        · rw [proof_right _ _ _ _ (by simp) (by simp [part_two])]
          simp [part_two, proof_one, root_one, sib]
    · obtain ⟨c1, c2⟩ := above_cut two l (by omega)
      obtain ⟨he, hk2⟩ := part_even (n := l.length) (by omega)
      have hp := part_lt (n := l.length) (by omega)
      have hh : (above two l).length = (l.length + 1) / 2 := above_length two l
      have hpp : part (above two l).length = part l.length / 2 := by rw [hh, part_half (by omega)]
      by_cases hk : i < part l.length
      · rw [proof_left _ _ l i (by omega) hk, proof_left _ _ (above two l) (i / 2) (by omega) (by rw [hpp]; omega), hpp, c1, c2, root_above,
          ih (part l.length) (by omega) (l.take (part l.length)) i (by rw [List.length_take]; omega) hk2 hk]
        have hs := sib_lt hk he
        rw [if_pos hs, if_pos (by omega), getD_take _ _ _ _ hs, List.append_assoc]
      · rw [proof_right _ _ l i (by omega) (by omega), proof_right _ _ (above two l) (i / 2) (by omega) (by rw [hpp]; omega), hpp, c1, c2, root_above, ← List.append_assoc]
        congr 1
        have hs := sib_ge (show part l.length ≤ i by omega) he
        have hdl : (l.drop (part l.length)).length = l.length - part l.length := List.length_drop
        have hdiv : i / 2 - part l.length / 2 = (i - part l.length) / 2 := by omega
        rw [hdiv]
        by_cases h1 : l.length - part l.length = 1
        · have hi0 : i - part l.length = 0 := by omega
          rw [proof_one _ _ _ _ (by omega), proof_one _ _ (above two (l.drop _)) _ (by rw [above_length]; omega), hs, hi0, if_neg (by simp [sib]; omega)]
          rfl
        · rw [ih (l.length - part l.length) (by omega) _ _ hdl (by omega) (by omega), getD_drop, ← hs]
          congr 1
          by_cases hc : sib i < l.length
          · rw [if_pos hc, if_pos (by omega)]
          · rw [if_neg hc, if_neg (by omega)]
theorem proof_above (l : List H) (i : Nat) (h2 : 2 ≤ l.length) (hi : i < l.length) : proof two e l i = (if sib i < l.length then [l.getD (sib i) e] else []) ++ proof two e (above two l) (i / 2) :=
  proof_above_n two e _ l i rfl h2 hi
theorem dirs_up : ∀ n i : Nat, 2 ≤ n → i < n → dirs n i = (if sib i < n then [i % 2 == 0] else []) ++ dirs ((n + 1) / 2) (i / 2) := by
  intro n
  induction n using Nat.strongRecOn with
  | ind n ih =>
    intro i h2 hi
    by_cases h3 : n = 2
    · subst h3
      rw [dirs_one ((2 + 1) / 2) _ (by omega)]
      have hi' : i = 0 ∨ i = 1 := by omega
      rcases hi' with rfl | rfl
      · rw [dirs_left _ _ (by simp) (by simp [part_two])]
        simp [part_two, dirs_one, sib]
      · rw [dirs_right _ _ (by simp) (by simp [part_two])]
        simp [part_two, dirs_one, sib]
    · obtain ⟨he, hk2⟩ := part_even (n := n) (by omega)
      have hp := part_lt (n := n) (by omega)
      have hpp : part ((n + 1) / 2) = part n / 2 := part_half (by omega)
      by_cases hk : i < part n
      · rw [dirs_left n i (by omega) hk, dirs_left ((n + 1) / 2) (i / 2) (by omega) (by rw [hpp]; omega), hpp, ih (part n) (by omega) i hk2 hk]
        have hs := sib_lt hk he
        rw [if_pos hs, if_pos (by omega), List.append_assoc, show (part n + 1) / 2 = part n / 2 by omega]
      · rw [dirs_right n i (by omega) (by omega), dirs_right ((n + 1) / 2) (i / 2) (by omega) (by rw [hpp]; omega), hpp, ← List.append_assoc]
        congr 1
        have hs := sib_ge (show part n ≤ i by omega) he
        have hdiv : i / 2 - part n / 2 = (i - part n) / 2 := by omega
        have hdn : (n + 1) / 2 - part n / 2 = (n - part n + 1) / 2 := by omega
        rw [hdiv, hdn]
        by_cases h1 : n - part n = 1
        · have hi0 : i - part n = 0 := by omega
          rw [h1, dirs_one _ _ (by omega), dirs_one _ _ (by omega), hs, hi0, if_neg (by simp [sib]; omega)]
          rfl
        · rw [ih (n - part n) (by omega) _ (by omega) (by omega)]
          congr 1
          have hpar : (i - part n) % 2 = i % 2 := by omega
          rw [hpar]
          by_cases hc : sib i < n
          · rw [if_pos hc, if_pos (by omega)]
          · rw [if_neg hc, if_neg (by omega)]
theorem proof_length : ∀ n, ∀ (l : List H) (i : Nat), l.length = n → (proof two e l i).length = (dirs n i).length := by
  intro n
  induction n using Nat.strongRecOn with
  | ind n ih =>
    intro l i hl
    subst hl
    by_cases h2 : l.length < 2
    · rw [proof_one _ _ _ _ h2, dirs_one _ _ h2]; rfl
    · have hp := part_lt (n := l.length) (by omega)
      have hq := part_pos l.length
      by_cases hk : i < part l.length
      · rw [proof_left _ _ _ _ (by omega) hk, dirs_left _ _ (by omega) hk, List.length_append, List.length_append, ih (part l.length) hp _ _ (by rw [List.length_take]; omega)]; rfl
      · rw [proof_right _ _ _ _ (by omega) (by omega), dirs_right _ _ (by omega) (by omega), List.length_append, List.length_append, ih (l.length - part l.length) (by omega) _ _ (by simp)]; rfl
theorem led_append : ∀ (ds ds' : List Bool) (p p' : List H) (h : H), ds.length = p.length → led two h (ds ++ ds') (p ++ p') = led two (led two h ds p) ds' p'
  | [], _, [], _, _, _ => by simp [led]
  | d :: ds, ds', x :: p, p', h, hl => by simp only [List.cons_append, led]; exact led_append ds ds' p p' _ (by simpa using hl)
  | [], _, _ :: _, _, _, hl => by simp at hl
  | _ :: _, _, [], _, _, hl => by simp at hl
theorem led_proof : ∀ n, ∀ (l : List H) (i : Nat), l.length = n → i < n → led two (l.getD i e) (dirs n i) (proof two e l i) = root two e l := by
  intro n
  induction n using Nat.strongRecOn with
  | ind n ih =>
    intro l i hl hi
    subst hl
    by_cases h2 : l.length < 2
    · match l, h2, hi with
      | [a], _, hi =>
        have : i = 0 := by simpa using hi
        subst this
        rw [proof_one _ _ _ _ (by simp), dirs_one _ _ (by simp), root_one _ _ _ (by simp)]
        rfl
    · have hp := part_lt (n := l.length) (by omega)
      have hq := part_pos l.length
      by_cases hk : i < part l.length
      · rw [proof_left _ _ _ _ (by omega) hk, dirs_left _ _ (by omega) hk, led_append _ _ _ _ _ _ (proof_length two e _ _ _ (by rw [List.length_take]; omega)).symm, root_more _ _ l (by omega)]
        have := ih (part l.length) hp (l.take (part l.length)) i (by rw [List.length_take]; omega) hk
        rw [getD_take _ _ _ _ hk] at this
        rw [this]
        rfl
      · rw [proof_right _ _ _ _ (by omega) (by omega), dirs_right _ _ (by omega) (by omega), led_append _ _ _ _ _ _ (proof_length two e _ _ _ (by simp)).symm, root_more _ _ l (by omega)]
        have := ih (l.length - part l.length) (by omega) (l.drop (part l.length)) (i - part l.length) (by simp) (by omega)
        rw [getD_drop, show part l.length + (i - part l.length) = i by omega] at this
        rw [this]
        rfl
theorem dirs_short : ∀ (d n i : Nat), n ≤ 2 ^ d → i < n → (dirs n i).length ≤ d
  | 0, n, i, h, _ => by rw [dirs_one _ _ (by rw [Nat.pow_zero] at h; omega)]; simp
  | d + 1, n, i, h, hi => by
    by_cases h2 : n < 2
    · rw [dirs_one _ _ h2]; simp
    · rw [dirs_up _ _ (by omega) hi, List.length_append]
      have := dirs_short d ((n + 1) / 2) (i / 2) (by rw [Nat.pow_succ] at h; omega) (by omega)
      split <;> simp <;> omega
theorem dirs_some (n i : Nat) (h : 2 ≤ n) : 1 ≤ (dirs n i).length := by
  by_cases hk : i < part n
  · rw [dirs_left _ _ h hk]; simp
  · rw [dirs_right _ _ h (by omega)]; simp
end
end Go.Proofs.YtdmnjjknkcnkgaaDoor.Mk
namespace Go.Proofs.YtdmnjjknkcnkgaaDoor
open Go.RowKit

def two (a b : List UInt8) : List UInt8 := sha (1 :: (a ++ b))
def leafS (b : List UInt8) : List UInt8 := sha (0 :: b)
theorem two_length (a b : List UInt8) : (two a b).length = 32 := sha_length _
theorem leafS_length (b : List UInt8) : (leafS b).length = 32 := sha_length _

theorem OwnP.lit {w0 w : World} {base g : Nat} {bo : Option Addr} {bn bc' : Nat} {l : List UInt8} (hg : base ≤ g) (hb : w.heap[g]? = some (.cells #[.slice bo bn bc'] 44 (0, 0))) (hl : IsB w0 bo bn bc' l) : OwnP w0 w base (.slice (some ⟨g, 0, none⟩) 1 1) 1 [l] :=
  ⟨[.slice bo bn bc'], ⟨rfl, .inr ⟨g, 1, _, rfl, hg, hb, Nat.le_refl _, by unfold maxLen; omega, rfl, rfl⟩⟩, rfl, fun j hj => by
    obtain rfl : j = 0 := by omega
    exact ⟨bo, bn, bc', rfl, hl⟩⟩
/-- append of some pieces. -/
theorem wpList_append_pieces {w0 w : World} {ops : Array Oper} {rest : List Oper} {o : Oper} {a : Act} {Q : Exit → Act → World → Prop} (hgd : o.guard = none) (s x : Operand)
    (ho : o.op = .call { callee := .builtin .append, args := #[s, x], argTypes := #[87, 87] }) (base : Nat) (hbase : base ≤ w.heap.size)
    (v : Value) (k : Nat) (ps : List (List UInt8)) (hs : a.eval s = v) (hown : OwnP w0 w base v k ps) (ad : Addr) (m c : Nat) (ns : List (List UInt8)) (hx : a.eval x = .slice (some ad) m c)
    (hN : IsP w0 (some ad) m ns) (hcell : ∀ j v, w0.cell? (ad.add j) = some v → w.cell? (ad.add j) = some v) (hk : k + m ≤ 1000000)
    (h : ∀ v' w', OwnP w0 w' base v' (k + m) (ps ++ ns) → w.grownBy w' v.ownBlock → wpList Tryd.prog ops Q rest (a.put o.dst v') w') : wpList Tryd.prog ops Q (o :: rest) a w := by
  obtain ⟨xs, ho2, hp, hxs⟩ := hown
  obtain ⟨i0, hi, hz0, hz1, hz2⟩ := info_parts info_row
  have each : ∀ j, j < m → ∃ y : Value × Option Addr × Nat × Nat, w0.cell? (ad.add j) = some y.1 ∧ y.1 = .slice y.2.1 y.2.2.1 y.2.2.2 ∧ IsB w0 y.2.1 y.2.2.1 y.2.2.2 (ns.getD j []) := fun j hj => by
    obtain ⟨bo, bn, bc', h1, h2⟩ := hN.cell ad rfl j hj
    exact ⟨(_, bo, bn, bc'), h1, rfl, h2⟩
  obtain ⟨f, hf⟩ := Deep.choose_lt each
  have hnl := hN.len
  refine wpList_append_own w hgd s x 87 ho base 44 i0 (.slice none 0 0) 1 24 Tryd.underlying87 hi hz0 hz1 hz2 rfl (by decide) v k xs hs ho2 ad m c ((List.range m).map fun j => (f j).1) hx (by simp) ?_ ?_ (by unfold maxLen; omega) (by omega) hbase fun v' w' h1 h2 _ => h v' w' ⟨_, h1, by simp [hp, hnl], fun j hj => ?_⟩ h2
  · intro j u hu
    have hj : j < m := by have := (List.getElem?_eq_some_iff.1 hu).1; simpa using this
    simp [hj] at hu
    rw [← hu]
    exact hcell j _ (hf j hj).1
  · intro u hu
    obtain ⟨j, hj, rfl⟩ := List.mem_map.1 hu
    obtain ⟨_, h2, _⟩ := hf j (List.mem_range.1 hj)
    rw [h2]
    rfl
  · have hxl : xs.length = k := by have := ho2.1; omega
    by_cases hjk : j < k
    · obtain ⟨b1, b2, b3, h3, h4⟩ := hxs j hjk
      refine ⟨b1, b2, b3, ?_, ?_⟩
      · rw [List.getElem?_append_left (by omega)]
        exact h3
      · have e : (ps ++ ns).getD j [] = ps.getD j [] := by simp only [List.getD]; rw [List.getElem?_append_left (by omega)]
        rw [e]
        exact h4
    · obtain ⟨h5, h6, h7⟩ := hf (j - k) (by omega)
      refine ⟨(f (j - k)).2.1, (f (j - k)).2.2.1, (f (j - k)).2.2.2, ?_, ?_⟩
      · rw [List.getElem?_append_right (by omega), hxl]
        simp only [List.getElem?_map, List.getElem?_range (show j - k < m by omega), Option.map_some]
        rw [h6]
      · have e : (ps ++ ns).getD j [] = ns.getD (j - k) [] := by simp only [List.getD]; rw [List.getElem?_append_right (by omega), hp]
        rw [e]
        exact h7

def wMark (w1 : World) (x : UInt8) : World := (w1.alloc (.cells #[.int .u8 (ub x)] 5)).alloc (.cells #[.slice (some ⟨w1.heap.size, 0, none⟩) 1 1] 44)
def wMk (w1 : World) (x : UInt8) : World := w1.alloc (.cells #[.int .u8 (ub x)] 5)
theorem mark_own (w1 : World) (x : UInt8) (base : Nat) (hb : base ≤ w1.heap.size) : OwnP (wMk w1 x) (wMark w1 x) base (.slice (some ⟨w1.heap.size + 1, 0, none⟩) 1 1) 1 [[x]] := by
  have h1 := heap_alloc_new (w1.alloc (.cells #[.int .u8 (ub x)] 5)) (.cells #[.slice (some ⟨w1.heap.size, 0, none⟩) 1 1] 44)
  rw [World.size_alloc] at h1
  exact OwnP.lit (by omega) h1 (isB_one w1 (.int .u8 (ub x)) x 5 rfl)
theorem mk_below (w1 : World) (x : UInt8) : Below w1.heap.size w1 (wMk w1 x) := (Below.refl _ _).alloc (Nat.le_refl _) _
theorem mk_mark (w1 : World) (x : UInt8) : Below (wMk w1 x).heap.size (wMk w1 x) (wMark w1 x) := (Below.refl _ _).alloc (Nat.le_refl _) _
theorem mk_size (w1 : World) (x : UInt8) : (wMk w1 x).heap.size = w1.heap.size + 1 := by simp [wMk]
theorem mark_below (w1 : World) (x : UInt8) : Below w1.heap.size w1 (wMark w1 x) := ((Below.refl _ _).alloc (Nat.le_refl _) _).alloc (by simp) _
theorem mark_size (w1 : World) (x : UInt8) : w1.heap.size ≤ (wMark w1 x).heap.size := (mark_below w1 x).size
set_option maxRecDepth 100000 in
set_option maxHeartbeats 1000000 in
theorem marked_any (x : UInt8) (ad : Addr) (n c : Nat) (ps : List (List UInt8)) (w : World) (hC : RC w) (h : IsP w (some ad) n ps) (hn : n ≤ 10) (hm : ps.flatten.length ≤ 900000) :
    Calls Tryd.prog 48 #[.int .u8 (ub x), .slice (some ad) n c] w fun e w' => e = .returned (.agg (bcs (sha (x :: ps.flatten))).toArray) ∧ Below w.heap.size w w' := by
  go_enter Tryd.func48, Tryd.ntmps48
  go_wp2_with (first
    | (with_reducible refine wpList_alloc_blk (o := ⟨some 4, _, _, _, _, _⟩) rfl 47 rfl _ zeroHash ?_; intro w1 gr h1 b1 q1; have ow := mark_own w1 x w.heap.size b1.size; have k0 : Below w.heap.size w (wMk w1 x) := b1.trans ((mk_below w1 x).mono b1.size); have hP := h.past k0; have km := mark_size w1 x)
    | (at_builtin; refine wpList_append_pieces (w0 := wMk w1 x) (w := wMark w1 x) rfl (.tmp 7) (.tmp 8) rfl w.heap.size (Nat.le_trans b1.size km) _ 1 [[x]] rfl ow ad n c ps rfl hP (fun j v hv => by rw [(mk_mark w1 x).cell (World.block_lt_of_cell? _ _ hv)]; exact hv) (by omega) ?_; intro v2 w3 hO3 g3))
  have g3' : (wMark w1 x).grownBy w3 (some (w1.heap.size + 1)) := g3
  have bA : Below (wMk w1 x).heap.size (wMk w1 x) w3 := (mk_mark w1 x).grown g3' (mk_mark w1 x).size (fun k hk => by cases hk; rw [mk_size]; omega)
  have B3 : Below w.heap.size w w3 := k0.trans (bA.mono (by rw [mk_size]; have := b1.size; omega))
  have R3 : Hid (w3.heap[gr]? = some (.cells (bcs (List.replicate 32 0)).toArray 47 (0, 0))) := by
    have hl : gr < w1.heap.size := (Array.getElem?_eq_some_iff.1 h1.out).1
    unfold Hid
    rw [bA.block gr (by rw [mk_size]; omega), (mk_below w1 x).block gr hl]
    exact h1.out
  obtain ⟨ao, cap, rfl, hP3⟩ := hO3.isP bA
  have hR3 : RC w3 := hC.past B3
  have hfl : ([[x]] ++ ps).flatten = x :: ps.flatten := by simp
  have HFL := Lib.hid hfl
  clear g3 g3' bA hO3 ow k0 hP km h1 b1 hfl
  refine (sum_any ao (1 + n) cap _ _ hR3 hP3 (by omega) (by rw [HFL.out, List.length_cons]; omega)).mono ?_
  rintro e w4 ⟨rfl, b4⟩
  rw [HFL.out]
  have R4 : Hid (w4.heap[gr]? = some (.cells (bcs (List.replicate 32 0)).toArray 47 (0, 0))) := (b4.block gr (Array.getElem?_eq_some_iff.1 R3.out).1).trans R3.out
  have B4 := B3.trans (b4.mono B3.size)
  clear R3 B3 hR3 hP3 b4
  go_wp2_with ((with_reducible refine wpList_store_blk rfl 47 _ _ rfl gr _ (bcs (sha (x :: ps.flatten))).toArray ?_ ?_ _ R4 32 sizeHash (by simp [bcs_length]) (by simp [bcs_length, sha_length]) (bcs_all _) ?_); (rfl); (rfl); (intro w8 h8 b8))
  refine bodyPost_ret (v := .agg (bcs (sha (x :: ps.flatten))).toArray) (results_cell_row rfl _ _ gr _ _ (0, 0) _ rfl h8.out Tryd.underlying47 rfl (by rw [sizeHash]; simp [bcs_length, sha_length])) rfl ⟨rfl, ?_⟩
  exact B4.grown b8 B4.size (fun k hk => by cases hk; omega)

set_option maxRecDepth 100000 in
set_option maxHeartbeats 1000000 in
theorem leaf_any (a0 : Option Addr) (n0 c0 : Nat) (l : List UInt8) (w : World) (hC : RC w) (h : IsB w a0 n0 c0 l) (hn : n0 ≤ 900000) :
    Calls Tryd.prog 32 #[.slice a0 n0 c0] w fun e w' => e = .returned (.agg (bcs (leafS l)).toArray) ∧ Below w.heap.size w w' := by
  have hl := h.len
  have HL := Lib.hid hl
  clear hl
  go_enter Tryd.func32, Tryd.ntmps32
  go_wp2_with (first
    | (with_reducible refine wpList_alloc_blk (o := ⟨some 2, _, _, _, _, _⟩) rfl 47 rfl _ zeroHash ?_; intro w1 gr h1 b1 q1))
  have hR1 : RC w1 := hC.past b1
  have hm := marked_any 0 ⟨w1.heap.size, 0, none⟩ 1 1 [l] _ (hR1.alloc (.cells #[.slice a0 n0 c0] 44)) (isP_one w1 44 _ _ _ l (h.past b1)) (by omega) (by rw [one_flat, HL.out]; exact hn)
  rw [one_flat] at hm
  refine hm.mono ?_
  rintro e w4 ⟨rfl, b4⟩
  have hl1 : gr < w1.heap.size := (Array.getElem?_eq_some_iff.1 h1.out).1
  have R4 : Hid (w4.heap[gr]? = some (.cells (bcs (List.replicate 32 0)).toArray 47 (0, 0))) := by
    unfold Hid
    rw [b4.block gr (by simp; omega), Below.heap_alloc _ _ _ hl1]
    exact h1.out
  have B4 : Below w.heap.size w w4 := (b1.alloc b1.size _).trans (b4.mono (by have := b1.size; simp; omega))
  clear hm hR1 h1 b1 b4
  go_wp2_with ((with_reducible refine wpList_store_blk rfl 47 _ _ rfl gr _ (bcs (leafS l)).toArray ?_ ?_ _ R4 32 sizeHash (by simp [bcs_length]) (by simp [bcs_length, leafS_length]) (bcs_all _) ?_); (rfl); (rfl); (intro w8 h8 b8))
  refine bodyPost_ret (v := .agg (bcs (leafS l)).toArray) (results_cell_row rfl _ _ gr _ _ (0, 0) _ rfl h8.out Tryd.underlying47 rfl (by rw [sizeHash]; simp [bcs_length, leafS_length])) rfl ⟨rfl, ?_⟩
  exact B4.grown b8 B4.size (fun k hk => by cases hk; omega)
end Go.Proofs.YtdmnjjknkcnkgaaDoor
namespace Go.Proofs.YtdmnjjknkcnkgaaDoor
open Go.RowKit

theorem slice_all (g : Nat) (w : World) : (Instr.sliceAt 47 (.pointer (some ⟨g, 0, none⟩)) none none none).run Tryd.prog w = .ok (.slice (some ⟨g, 0, none⟩) 32 32) w := by kernel_rfl
theorem two_flat (a b : List UInt8) : [a, b].flatten = a ++ b := by simp
set_option maxRecDepth 100000 in
set_option maxHeartbeats 1000000 in
theorem pair_any (a b : List UInt8) (w : World) (hC : RC w) (ha : a.length = 32) (hb : b.length = 32) :
    Calls Tryd.prog 72 #[.agg (bcs a).toArray, .agg (bcs b).toArray] w fun e w' => e = .returned (.agg (bcs (two a b)).toArray) ∧ Below w.heap.size w w' := by
  have sa : Hid ((bcs a).toArray.size = 32) := by simp [Hid, bcs_length, ha]
  have sb : Hid ((bcs b).toArray.size = 32) := by simp [Hid, bcs_length, hb]
  have HA := Lib.hid ha
  have HB := Lib.hid hb
  clear ha hb
  have hsl := slice_all
  have b0 : Below w.heap.size w ((w.alloc (.cells (bcs a).toArray 47)).alloc (.cells (bcs b).toArray 47)) := ((Below.refl _ _).alloc (Nat.le_refl _) _).alloc (by simp) _
  have Ia : IsB ((w.alloc (.cells (bcs a).toArray 47)).alloc (.cells (bcs b).toArray 47)) (some ⟨w.heap.size, 0, none⟩) 32 32 a := (isB_lit w _ 47 a 32 rfl HA.out (by omega)).alloc _
  have Ib : IsB ((w.alloc (.cells (bcs a).toArray 47)).alloc (.cells (bcs b).toArray 47)) (some ⟨w.heap.size + 1, 0, none⟩) 32 32 b := by
    have := isB_lit (w.alloc (.cells (bcs a).toArray 47)) _ 47 b 32 rfl HB.out (by omega)
    rw [World.size_alloc] at this
    exact this
  go_enter Tryd.func72, Tryd.ntmps72
  go_wp2_with (first | (with_reducible refine wpList_alloc_blk (o := ⟨some 4, _, _, _, _, _⟩) rfl 47 rfl _ zeroHash ?_; intro w1 gr h1 b1 q1))
  refine region_tail 2 (by kernel_rfl) (by kernel_rfl) ?_
  intro wx hx bx
  have bx1 := b1.trans (bx.mono b1.size)
  have hRx : Hid (wx.heap[gr]? = some (.cells (bcs (List.replicate 32 0)).toArray 47 (0, 0))) := (heap_hid hx gr).trans h1.out
  have Iax := Ia.past bx1
  have Ibx := Ib.past bx1
  have Bx : Below w.heap.size w wx := b0.trans (bx1.mono b0.size)
  have hgr : w.heap.size ≤ gr := Nat.le_trans b0.size q1
  clear Ia Ib b0 b1 bx bx1 h1 q1 hx
  simp only [List.take_succ_cons, List.take_zero, List.drop_succ_cons, List.drop_zero]
  iterate 2 still_step
  refine wpStill_nil ?_
  go_wp2_with fail
  have hm := marked_any 1 ⟨wx.heap.size, 0, none⟩ 2 2 [a, b] _ ((hC.past Bx).alloc (.cells #[.slice (some ⟨w.heap.size, 0, none⟩) 32 32, .slice (some ⟨w.heap.size + 1, 0, none⟩) 32 32] 44)) (isP_two wx 44 _ _ _ a Iax _ _ _ b Ibx) (by omega) (by rw [two_flat, List.length_append, HA.out, HB.out]; omega)
  rw [two_flat] at hm
  refine hm.mono ?_
  rintro e w4 ⟨rfl, b4⟩
  have hl1 : gr < wx.heap.size := (Array.getElem?_eq_some_iff.1 hRx.out).1
  have R4 : Hid (w4.heap[gr]? = some (.cells (bcs (List.replicate 32 0)).toArray 47 (0, 0))) := by
    unfold Hid
    rw [b4.block gr (by simp; omega), Below.heap_alloc _ _ _ hl1]
    exact hRx.out
  have B4 : Below w.heap.size w w4 := (Bx.alloc Bx.size _).trans (b4.mono (by have := Bx.size; simp; omega))
  clear hm Bx b4 hRx Iax Ibx hsl
  go_wp2_with ((with_reducible refine wpList_store_blk rfl 47 _ _ rfl gr _ (bcs (two a b)).toArray ?_ ?_ _ R4 32 sizeHash (by simp [bcs_length]) (by simp [bcs_length, two_length]) (bcs_all _) ?_); (rfl); (rfl); (intro w8 h8 b8))
  refine bodyPost_ret (v := .agg (bcs (two a b)).toArray) (results_cell_row rfl _ _ gr _ _ (0, 0) _ rfl h8.out Tryd.underlying47 rfl (by rw [sizeHash]; simp [bcs_length, two_length])) rfl ⟨rfl, ?_⟩
  exact B4.grown b8 B4.size (fun k hk => by cases hk; omega)

end Go.Proofs.YtdmnjjknkcnkgaaDoor
namespace Go.Proofs.YtdmnjjknkcnkgaaDoor
open Go.RowKit
set_option linter.unusedSimpArgs false

/-- A ROW OF SUMS IS ANSWERED: the call's own. -/
def HsOut (w : World) (n : Nat) (hs : List (List UInt8)) (e : Ending) (w' : World) : Prop := ∃ v, e = .returned v ∧ OwnH w' w.heap.size v n hs ∧ Below w.heap.size w w'
/-- 'make([]api.Hash, 0, N)'. -/
theorem wpList_make_hs {w : World} {ops : Array Oper} {rest : List Oper} {o : Oper} {a : Act} {Q : Exit → Act → World → Prop} (hgd : o.guard = none) (l c : Operand)
    (ho : o.op = Op.makeSlice 97 l c) (kl kc : IntKind) (C : Int) (N : Nat) (hl : a.eval l = .int kl 0) (hc : a.eval c = .int kc C) (hC : C = (N : Int)) (hN : N ≤ 100000)
    (hK : ∀ v w', OwnH w' w.heap.size v 0 [] → Below w.heap.size w w' → wpList Tryd.prog ops Q rest (a.put o.dst v) w') :
    wpList Tryd.prog ops Q (o :: rest) a w := by
  obtain ⟨i, hi, hz, hsize, hby⟩ := info_parts info_hash
  refine wpList_make_own w hgd l c 97 ho w.heap.size 47 i (.agg (bcs (List.replicate 32 0)).toArray) 32 Tryd.underlying97 hi hz hsize kl kc C N hl hc hC (by rw [hby]; omega) (by unfold maxLen; omega) (Nat.le_refl _) fun w' hown hgr => ?_
  exact hK _ w' ⟨hown, rfl, by simp⟩ ((Below.refl _ w).grown hgr (Nat.le_refl _) (fun k h => by cases h))
theorem above_snoc (hs : List (List UInt8)) (k : Nat) (hk : 2 * k + 1 < hs.length) : Mk.above two (hs.take (2 * (k + 1))) = Mk.above two (hs.take (2 * k)) ++ [two (hs.getD (2 * k) []) (hs.getD (2 * k + 1) [])] := by
  have e : hs.take (2 * (k + 1)) = hs.take (2 * k) ++ [hs.getD (2 * k) [], hs.getD (2 * k + 1) []] := by
    rw [show 2 * (k + 1) = 2 * k + 1 + 1 by omega, List.take_succ_eq_append_getElem (by omega), List.take_succ_eq_append_getElem (by omega)]
    have e1 : hs.getD (2 * k) [] = hs[2 * k] := by simp [List.getD, show 2 * k < hs.length by omega]
    have e2 : hs.getD (2 * k + 1) [] = hs[2 * k + 1] := by simp [List.getD, show 2 * k + 1 < hs.length by omega]
    rw [e1, e2, List.append_assoc]
    rfl
  rw [e, Mk.above_append two _ _ (by rw [List.length_take]; omega)]
  rfl
theorem above_end (hs : List (List UInt8)) : Mk.above two hs = Mk.above two (hs.take (2 * (hs.length / 2))) ++ hs.drop (2 * (hs.length / 2)) := by
  conv => lhs; rw [← List.take_append_drop (2 * (hs.length / 2)) hs]
  rw [Mk.above_append two _ _ (by rw [List.length_take]; omega), Mk.above_short two (hs.drop _) (by rw [List.length_drop]; omega)]

set_option maxRecDepth 100000 in
set_option maxHeartbeats 2000000 in
theorem above_any (a0 : Addr) (n0 c0 : Nat) (hs : List (List UInt8)) (w : World) (hC : RC w) (h : IsH w (some a0) n0 c0 hs) (hn : n0 ≤ 1000) :
    Calls Tryd.prog 65 #[.slice (some a0) n0 c0] w (HsOut w ((n0 + 1) / 2) (Mk.above two hs)) := by
  have hl := h.len
  have HL := Lib.hid hl
  clear hl
  obtain ⟨p, hp⟩ : ∃ p, p = n0 / 2 := ⟨_, rfl⟩
  have ep : (n0 : Int) / 2 = p := by omega
  have hpn : 2 * p ≤ n0 := by omega
  have en : (n0 : Int) - (p : Int) = ((n0 - p : Nat) : Int) := by omega
  have EN := Lib.hid en
  have HP := Lib.hid hp
  clear en hp
  go_enter Tryd.func65, Tryd.ntmps65
  go_wp2_with (at_make; refine wpList_make_hs rfl _ _ rfl .i64 .i64 _ (n0 - p) rfl rfl EN.out (by omega) ?_; intro v1 w1 hO1 B1)
  clear ep
  go_loopw [4, 15] (fun v i wq => ∃ k : Nat, k ≤ p ∧ i = .int .i64 k ∧ OwnH wq w.heap.size v k (Mk.above two (hs.take (2 * k))) ∧ Below w.heap.size w wq) (fun _ i _ => p - (intOf i).toNat)
  case atStart => exact ⟨0, by omega, rfl, hO1, B1⟩
  case round =>
    clear hO1 B1
    obtain ⟨k, hk, rfl, hO, hB⟩ := hrel
    have hs1 := hB.size
    by_cases hkp : k < p
    · have hA1 := h.at_ a0 rfl (2 * k) (by omega)
      have hA2 := h.at_ a0 rfl (2 * k + 1) (by omega)
      have h1 := h.one (2 * k) (by omega)
      have h2 := h.one (2 * k + 1) (by omega)
      have HX := above_snoc hs k (by rw [HL.out]; omega)
      generalize hs.getD (2 * k) [] = x at hA1 h1 HX
      generalize hs.getD (2 * k + 1) [] = y at hA2 h2 HX
      have HX2 := Lib.hid HX
      have H1 := Lib.hid h1
      have H2 := Lib.hid h2
      clear HX h1 h2
      have m1 : 2 * (k : Int) < n0 := by omega
      have m2 : 2 * (k : Int) + 1 < n0 := by omega
      go_wp2_with fail
      have u24 := Tryd.underlying47
      have e1 := IntWalk.i64_in (2 * (k : Int)) (by omega)
      have e2 := IntWalk.i64_in (2 * (k : Int) + 1) (by omega)
      have z1 : 0 ≤ 2 * (k : Int) := by omega
      have z2 : 0 ≤ 2 * (k : Int) + 1 := by omega
      have c1 : (2 * (k : Int)).toNat = 2 * k := by omega
      have c2 : (2 * (k : Int) + 1).toNat = 2 * k + 1 := by omega
      refine wp_region_held_drew (S := fun w' => Below w.heap.size w w') (by kernel_rfl) hB.drew (fun hHeld => ?_)
      refine wpAnyH_take (i := 0) (v := ?_) rfl (by kernel_rfl) (by kernel_rfl) (by kernel_rfl) (fun _ _ _ h => h) (Or.inl ⟨by rfl, ?_⟩) hHeld ?_
      rotate_left 1
      focus (intro wq hSw; go_simp; try with_reducible rfl)
      try (simp only [Act.put, List.getElem_toArray, List.getElem_cons_succ, List.getElem_cons_zero, List.setIfInBounds_toArray, List.set_cons_zero, List.set_cons_succ])
      refine wpAnyH_take (i := 1) (v := ?_) rfl (by kernel_rfl) (by kernel_rfl) (by kernel_rfl) (fun _ _ _ h => h) (Or.inl ⟨by rfl, ?_⟩) hHeld ?_
      rotate_left 1
      focus (intro wq hSw; go_simp; try with_reducible rfl)
      try (simp only [Act.put, List.getElem_toArray, List.getElem_cons_succ, List.getElem_cons_zero, List.setIfInBounds_toArray, List.set_cons_zero, List.set_cons_succ])
      refine wpAnyH_take (i := 2) (v := ?_) rfl (by kernel_rfl) (by kernel_rfl) (by kernel_rfl) (fun _ _ _ h => h) (Or.inl ⟨by rfl, ?_⟩) hHeld ?_
      rotate_left 1
      focus (intro wq hSw; go_simp; try with_reducible rfl)
      try (simp only [Act.put, List.getElem_toArray, List.getElem_cons_succ, List.getElem_cons_zero, List.setIfInBounds_toArray, List.set_cons_zero, List.set_cons_succ])
      refine wpAnyH_take (i := 3) (v := ?_) rfl (by kernel_rfl) (by kernel_rfl) (by kernel_rfl) (fun _ _ _ h => h) (Or.inl ⟨by rfl, ?_⟩) hHeld ?_
      rotate_left 1
      focus (intro wq hSw; go_simp; try with_reducible rfl)
      try (simp only [Act.put, List.getElem_toArray, List.getElem_cons_succ, List.getElem_cons_zero, List.setIfInBounds_toArray, List.set_cons_zero, List.set_cons_succ])
      refine wpAnyH_take (i := 4) (v := ?_) rfl (by kernel_rfl) (by kernel_rfl) (by kernel_rfl) (fun _ _ _ h => h) (Or.inl ⟨by rfl, ?_⟩) hHeld ?_
      rotate_left 1
      focus (intro wq hSw; go_simp; try with_reducible rfl)
      try (simp only [Act.put, List.getElem_toArray, List.getElem_cons_succ, List.getElem_cons_zero, List.setIfInBounds_toArray, List.set_cons_zero, List.set_cons_succ])
      refine wpAnyH_take (i := 5) (v := .agg (bcs (x)).toArray) rfl (by kernel_rfl) (by kernel_rfl) (by kernel_rfl) (fun _ _ _ h => h) (yieldsIf_load_at (by rfl) 47 _ rfl (a0.add (2 * k * 32)) rfl (x) (fun wq hSw => hA1.past hSw) _ _ u24 (hash_size x H1.out)) hHeld ?_
      try (simp only [Act.put, List.getElem_toArray, List.getElem_cons_succ, List.getElem_cons_zero, List.setIfInBounds_toArray, List.set_cons_zero, List.set_cons_succ])
      refine wpAnyH_take (i := 6) (v := ?_) rfl (by kernel_rfl) (by kernel_rfl) (by kernel_rfl) (fun _ _ _ h => h) (Or.inl ⟨by rfl, ?_⟩) hHeld ?_
      rotate_left 1
      focus (intro wq hSw; go_simp; try with_reducible rfl)
      try (simp only [Act.put, List.getElem_toArray, List.getElem_cons_succ, List.getElem_cons_zero, List.setIfInBounds_toArray, List.set_cons_zero, List.set_cons_succ])
      refine wpAnyH_take (i := 7) (v := ?_) rfl (by kernel_rfl) (by kernel_rfl) (by kernel_rfl) (fun _ _ _ h => h) (Or.inl ⟨by rfl, ?_⟩) hHeld ?_
      rotate_left 1
      focus (intro wq hSw; go_simp; try with_reducible rfl)
      try (simp only [Act.put, List.getElem_toArray, List.getElem_cons_succ, List.getElem_cons_zero, List.setIfInBounds_toArray, List.set_cons_zero, List.set_cons_succ])
      refine wpAnyH_take (i := 8) (v := ?_) rfl (by kernel_rfl) (by kernel_rfl) (by kernel_rfl) (fun _ _ _ h => h) (Or.inl ⟨by rfl, ?_⟩) hHeld ?_
      rotate_left 1
      focus (intro wq hSw; go_simp; try with_reducible rfl)
      try (simp only [Act.put, List.getElem_toArray, List.getElem_cons_succ, List.getElem_cons_zero, List.setIfInBounds_toArray, List.set_cons_zero, List.set_cons_succ])
      refine wpAnyH_take (i := 9) (v := ?_) rfl (by kernel_rfl) (by kernel_rfl) (by kernel_rfl) (fun _ _ _ h => h) (Or.inl ⟨by rfl, ?_⟩) hHeld ?_
      rotate_left 1
      focus (intro wq hSw; go_simp; try with_reducible rfl)
      try (simp only [Act.put, List.getElem_toArray, List.getElem_cons_succ, List.getElem_cons_zero, List.setIfInBounds_toArray, List.set_cons_zero, List.set_cons_succ])
      refine wpAnyH_take (i := 10) (v := ?_) rfl (by kernel_rfl) (by kernel_rfl) (by kernel_rfl) (fun _ _ _ h => h) (Or.inl ⟨by rfl, ?_⟩) hHeld ?_
      rotate_left 1
      focus (intro wq hSw; go_simp; try with_reducible rfl)
      try (simp only [Act.put, List.getElem_toArray, List.getElem_cons_succ, List.getElem_cons_zero, List.setIfInBounds_toArray, List.set_cons_zero, List.set_cons_succ])
      refine wpAnyH_take (i := 11) (v := .agg (bcs (y)).toArray) rfl (by kernel_rfl) (by kernel_rfl) (by kernel_rfl) (fun _ _ _ h => h) (yieldsIf_load_at (by rfl) 47 _ rfl (a0.add ((2 * k + 1) * 32)) rfl (y) (fun wq hSw => hA2.past hSw) _ _ u24 (hash_size y H2.out)) hHeld ?_
      try (simp only [Act.put, List.getElem_toArray, List.getElem_cons_succ, List.getElem_cons_zero, List.setIfInBounds_toArray, List.set_cons_zero, List.set_cons_succ])
      refine wpAnyH_ready (rs := [12]) (by kernel_rfl) (by simp) ?_
      refine AllReadyH.cons rfl (fun K hK => ?_) AllReadyH.nil
      go_simp
      go_at_call 72
      (with_reducible refine (pair_any x y _ ?_ H1.out H2.out).mono ?_)
      · exact hC.past hB.drew
      rintro e w3 ⟨rfl, b3⟩
      have O3 : OwnH w3 w.heap.size u4 k (Mk.above two (hs.take (2 * k))) := hO.past ((Below.refl _ _).drew.trans b3)
      have B3 : Below w.heap.size w w3 := hB.drew.trans (b3.mono hs1)
      refine hK.out _ _ (B3) (fun hHeld => ?_)
      clear hK K
      try (simp only [Act.put, List.getElem_toArray, List.getElem_cons_succ, List.getElem_cons_zero, List.setIfInBounds_toArray, List.set_cons_zero, List.set_cons_succ])
      refine wpAnyH_ready (rs := [13]) (by kernel_rfl) (by simp) ?_
      refine AllReadyH.cons rfl (fun K hK => ?_) AllReadyH.nil
      rw [if_pos (by rfl)]
      refine wp_buildSlice_hs 1 _ rfl [two x y] rfl (by simp [two_length]) (by omega) (by omega) (by simp only [List.map_toArray, List.map_cons, List.map_nil]; rfl) fun w5 _ I5 b5 => ?_
      have O5 := O3.past b5
      have B5 := B3.trans (b5.mono B3.size)
      refine hK.out _ _ B5 (fun hHeld => ?_)
      clear hK K O3 b5
      try (simp only [Act.put, List.getElem_toArray, List.getElem_cons_succ, List.getElem_cons_zero, List.setIfInBounds_toArray, List.set_cons_zero, List.set_cons_succ])
      refine wpAnyH_ready (rs := [14]) (by kernel_rfl) (by simp) ?_
      refine AllReadyH.cons rfl (fun K hK => ?_) AllReadyH.nil
      rw [if_pos (by rfl)]
      refine wp_append_hs (.tmp 18) (.tmp 31) rfl w.heap.size B5.size _ k _ rfl O5 ⟨w3.heap.size, 0, none⟩ 1 1 [two x y] rfl I5 (by omega) fun v2 w4 hO4 g4 => ?_
      have B4 := O5.step B5 B5.size (Nat.le_refl _) g4
      rw [← HX2.out] at hO4
      refine hK.out _ _ B4 (fun hHeld => ?_)
      clear hK K O5 I5 B5 B3 g4
      try (simp only [Act.put, List.getElem_toArray, List.getElem_cons_succ, List.getElem_cons_zero, List.setIfInBounds_toArray, List.set_cons_zero, List.set_cons_succ])
      refine wpAnyH_take (i := 15) (v := ?_) rfl (by kernel_rfl) (by kernel_rfl) (by kernel_rfl) (fun _ _ _ h => h) (Or.inl ⟨by rfl, ?_⟩) hHeld ?_
      rotate_left 1
      focus (intro wq hSw; go_simp; try with_reducible rfl)
      try (simp only [Act.put, List.getElem_toArray, List.getElem_cons_succ, List.getElem_cons_zero, List.setIfInBounds_toArray, List.set_cons_zero, List.set_cons_succ])
      refine wpAnyH_done (by kernel_rfl) ?_ _
      clear hHeld
      go_wp2_with fail
      go_roundw
      case rel => exact ⟨k + 1, by omega, by go_num, hO4, B4⟩
      case measure => simp [intOf]; omega
    · obtain rfl : k = p := by omega
      have hIs := h.past hB
      obtain ⟨ao2, hcut, hI2, hsome⟩ := IsH_cut hIs (2 * k) (by omega)
      obtain ⟨b2, rfl⟩ := hsome a0 rfl
      have hcut' : ∀ w' : World, (Instr.slice 97 (.slice (some a0) n0 c0) (some (.int .i64 (2 * (k : Int)))) none none).run Tryd.prog w' = .ok (.slice (some b2) (n0 - 2 * k) (c0 - 2 * k)) w' := hcut
      have hap := above_end hs
      rw [HL.out, ← HP.out] at hap
      have HAP := Lib.hid hap
      have hm : k + (n0 - 2 * k) = (n0 + 1) / 2 := by have := HP.out; omega
      have HM := Lib.hid hm
      clear hcut hap hm hIs
      go_wp2_with (at_builtin; refine wpList_append_hs rfl (.tmp 34) (.tmp 38) rfl w.heap.size hs1 _ k _ rfl hO b2 _ _ _ rfl hI2 (by omega) ?_; intro v2 w4 hO4 g4)
      rw [← HAP.out, HM.out] at hO4
      have B4 := hO.step hB hs1 (Nat.le_refl _) g4
      have FIN : Hid (HsOut w ((n0 + 1) / 2) (Mk.above two hs) (.returned v2) w4) := ⟨v2, rfl, hO4, B4⟩
      clear hO hB hO4 g4 hcut' hI2
      go_wp2_with fail
      go_ret
      exact FIN.out
end Go.Proofs.YtdmnjjknkcnkgaaDoor
