/-
  table: behind, holding, fresh (by gen_tabh.py).
-/
import Derived.Test.YtllijeciodmckaaTabK
namespace Go.Proofs.Ytllijeciodmckaa
open Go.RowKit
set_option linter.unusedSimpArgs false
theorem wp_store_blkT {P : Program} {w : World} {o : Oper} {a : Act} {K : Act → World → Prop} {Q : Exit → Act → World → Prop} (ty : TypeId) (x y : Operand) (ho : o.op = .store ty x y)
    (g : Nat) (old cs : Array Value) (hx : a.eval x = .pointer (some ⟨g, 0, none⟩)) (hy : a.eval y = .agg cs) (t : TypeId) (hg : Hid (w.heap[g]? = some (.cells old t (0, 0)))) (N : Nat) (hi : (P.info? ty).map (·.size) = some N) (hl : old.size = N) (hm : cs.size = N) (h1 : cs.all (·.oneCell') = true)
    (hK : ∀ w', Hid (w'.heap[g]? = some (.cells cs t (0, 0))) → w.grownBy w' (some g) → K (a.put o.dst undef) w') : o.wp P a w K Q := by
  refine wp_store_row ty x y ho g cs hx hy t old hg.out (by rw [hi, hm]) (by rw [hl, hm]) h1 (hK _ (setRow_heap w g _ _ _ _ hg.out) ⟨rfl, rfl, rfl, by simp, fun k _ hk => setRow_other w g k _ (fun e => hk (by rw [e]))⟩)
def scC (l : List UInt8) (co : Option Addr) (cn cc : Nat) (key : Int) (only : Bool) : Array Value := #[.string (bsOf l), .slice co cn cc, .int .i64 key, .bool only]
theorem sc_cells {w : World} {p : Nat} {l : List UInt8} {co : Option Addr} {cn cc : Nat} {ky : Int} {only : Bool} {t : TypeId} (h : Bk w p (scC l co cn cc ky only) t) :
    w.cell? ⟨p, 0, none⟩ = some (.string (bsOf l)) ∧ w.cell? ⟨p, 1, none⟩ = some (.slice co cn cc) ∧ w.cell? ⟨p, 2, none⟩ = some (.int .i64 ky) ∧ w.cell? ⟨p, 3, none⟩ = some (.bool only) :=
  ⟨h.c rfl, h.c rfl, h.c rfl, h.c rfl⟩
/-- What stands while the region's operations come up. -/
inductive Behind1 (B : Nat) (p : Nat) (l : List UInt8) (co : Option Addr) (cn : Nat) (cc : Nat) (ky : Int) (only : Bool) (ro : Option Addr) (rn : Nat) (rc : Nat) (m : Nat) (tk : Bool) (nx : Nat) (A2 : Option Addr) (a0 : Act) (w0 : World) (L : Array Bool) (a : Act) (w : World) : Prop
  | mk (b0 b1 b2 b3 b4 b5 b6 : Bool) (x3 x4 x5 x6 x7 x8 x2 : Value) (hL : L = #[b0, b1, b2, b3, b4, b5, b6]) (ha : a = ⟨(((((((a0.tmps.setIfInBounds 3 x3).setIfInBounds 4 x4).setIfInBounds 5 x5).setIfInBounds 6 x6).setIfInBounds 7 x7).setIfInBounds 8 x8).setIfInBounds 2 x2), a0.defers⟩) (hb : Below B w0 w) (cd0 : Hid (b0 = true → x3 = .pointer (some ⟨p, 0, none⟩))) (cd1 : Hid (b1 = true → x4 = .pointer (some ⟨p, 4, none⟩))) (cd2 : Hid (b2 = true → x5 = .slice ro rn rc)) (cd3 : Hid (b3 = true → x6 = .agg #[.string (bsOf l), .slice co cn cc, .int .i64 ky, .bool only, .slice ro rn rc, .int .i64 (m : Nat), .bool tk])) (cd4 : Hid (b4 = true → x7 = .int .i64 (nx : Nat))) (cd5 : Hid (b5 = true → x8 = .slice A2 (rn - nx) (rc - nx))) (cd6 : Hid (b6 = true → x2 = .slice A2 (rn - nx) (rc - nx))) : Behind1 B p l co cn cc ky only ro rn rc m tk nx A2 a0 w0 L a w
def nxN (m : Nat) (tk : Bool) : Nat := if tk then m + 1 else m
set_option maxRecDepth 100000 in
set_option maxHeartbeats 1000000 in
theorem behind_any (w : World) (l : List UInt8) (co : Option Addr) (cn cc : Nat) (ky : Int) (only : Bool) (ro : Option Addr) (rn rc : Nat) (hs : List HdR) (h : IsR EH w ro rn rc hs) (m : Nat) (tk : Bool) (hm : nxN m tk ≤ rn) (hr : rn ≤ 1000) :
    Calls Try.prog 80 #[spV l co cn cc ky only ro rn rc (m : Nat) tk] w fun e w' => ∃ ao c, e = .returned (.slice ao (rn - nxN m tk) c) ∧ IsR EH w' ao (rn - nxN m tk) c (hs.drop (nxN m tk)) ∧ Below w.heap.size w w' := by
  have hle := h.le
  have hln := h.len
  have HN0 := fun w' : World => next_any w' l co cn cc ky only ro rn rc m (by unfold nxN at hm; split at hm <;> omega) tk
  have e0 : (if tk then ((m + 1 : Nat) : Int) else (m : Int)) = ((nxN m tk : Nat) : Int) := by unfold nxN; split <;> rfl
  simp only [e0] at HN0
  obtain ⟨nx, hnx⟩ : ∃ nx, nxN m tk = nx := ⟨_, rfl⟩
  simp only [hnx] at HN0 hm ⊢
  have h3 : IsR EH w (if rc = nx then ro else Option.map (fun x => x.add nx) ro) (rn - nx) (rc - nx) (hs.drop nx) := by
    have := h.part nx rn rc hm (Nat.le_refl _) hle (Nat.le_refl _)
    rw [List.take_of_length_le (by rw [List.length_drop]; omega)] at this
    simpa [EH] using this
  have HN : ∀ w' : World, Calls Try.prog 90 #[.agg #[.string (bsOf l), .slice co cn cc, .int .i64 ky, .bool only, .slice ro rn rc, .int .i64 (m : Nat), .bool tk]] w' fun e w'' => e = .returned (.int .i64 (nx : Nat)) ∧ Below w'.heap.size w' w'' := HN0
  clear e0 hnx HN0
  obtain ⟨A2, hA⟩ : ∃ A2, (if rc = nx then ro else Option.map (fun x => x.add nx) ro) = A2 := ⟨_, rfl⟩
  rw [hA] at h3
  have HA := Lib.hid hA
  clear hA
  have hnr : (nx : Int) ≤ (rn : Int) := by omega
  have hnc : (rn : Int) ≤ (rc : Int) := by omega
  have B0 : Below w.heap.size w (w.alloc (.cells #[.string (bsOf l), .slice co cn cc, .int .i64 ky, .bool only, .slice ro rn rc, .int .i64 (m : Nat), .bool tk] 161)) := (Below.refl _ _).alloc (Nat.le_refl _) _
  have hT : Bk (w.alloc (.cells #[.string (bsOf l), .slice co cn cc, .int .i64 ky, .bool only, .slice ro rn rc, .int .i64 (m : Nat), .bool tk] 161)) w.heap.size (spC l co cn cc ky only ro rn rc (m : Nat) tk) 161 := Bk.new w _ _
  unfold spV
  go_enter Try.func80, Try.ntmps80
  go_upto_region 1 with fail
  generalize w.alloc (.cells #[.string (bsOf l), .slice co cn cc, .int .i64 ky, .bool only, .slice ro rn rc, .int .i64 (m : Nat), .bool tk] 161) = W at B0 hT ⊢
  obtain ⟨p, hp⟩ : ∃ p, w.heap.size = p := ⟨_, rfl⟩
  have HP := Lib.hid hp
  rw [hp] at hT B0
  simp only [hp]
  have hpW : p ≤ W.heap.size := Nat.le_of_lt hT.lt
  obtain ⟨t0, t1, t2, t3, t4, t5, t6⟩ := sp_cells hT
  have hpB := hT.lt
  have hB0 : W.heap.size ≤ W.heap.size := Nat.le_refl _
  clear hp
  refine region_inv (Behind1 W.heap.size p l co cn cc ky only ro rn rc m tk nx A2) (by kernel_rfl) (by kernel_rfl) ?_ ?_ ?_
  · exact ⟨false, false, false, false, false, false, false, undef, undef, undef, undef, undef, undef, .slice none 0 0, rfl, (by simp only [Act.put, List.setIfInBounds_toArray, List.set_cons_zero, List.set_cons_succ]), Below.refl _ _, (fun h => by cases h), (fun h => by cases h), (fun h => by cases h), (fun h => by cases h), (fun h => by cases h), (fun h => by cases h), (fun h => by cases h)⟩
  · refine ⟨?_, ?_, ?_, ?_, ?_, ?_, ?_, trivial⟩
    · rintro L a w ⟨b0, b1, b2, b3, b4, b5, b6, x3, x4, x5, x6, x7, x8, x2, rfl, rfl, hb, cd0, cd1, cd2, cd3, cd4, cd5, cd6⟩ hf hd
      have hf' : b0 = false := hf
      subst hf'
      clear hf hd
      try simp only [List.setIfInBounds_toArray, List.set_cons_zero, List.set_cons_succ]
      intro K hK
      rw [if_pos (by rfl)]
      go_simp
      exact hK.out _ _ ⟨true, b1, b2, b3, b4, b5, b6, (.pointer (some ⟨p, 0, none⟩)), x4, x5, x6, x7, x8, x2, (by simp only [Act.put, List.setIfInBounds_toArray, List.set_cons_zero, List.set_cons_succ]), (by simp only [Act.put, List.setIfInBounds_toArray, List.set_cons_zero, List.set_cons_succ]), hb, (fun _ => rfl), cd1, cd2, cd3, cd4, cd5, cd6⟩
    · rintro L a w ⟨b0, b1, b2, b3, b4, b5, b6, x3, x4, x5, x6, x7, x8, x2, rfl, rfl, hb, cd0, cd1, cd2, cd3, cd4, cd5, cd6⟩ hf hd
      have hf' : b1 = false := hf
      subst hf'
      have d0 : b0 = true := hd ⟨0, .data⟩ (by simp) rfl
      subst d0
      obtain rfl := cd0.out rfl
      clear hf hd
      try simp only [List.setIfInBounds_toArray, List.set_cons_zero, List.set_cons_succ]
      intro K hK
      rw [if_pos (by rfl)]
      go_simp
      exact hK.out _ _ ⟨true, true, b2, b3, b4, b5, b6, .pointer (some ⟨p, 0, none⟩), (.pointer (some ⟨p, 4, none⟩)), x5, x6, x7, x8, x2, (by simp only [Act.put, List.setIfInBounds_toArray, List.set_cons_zero, List.set_cons_succ]), (by simp only [Act.put, List.setIfInBounds_toArray, List.set_cons_zero, List.set_cons_succ]), hb, (fun _ => rfl), (fun _ => rfl), cd2, cd3, cd4, cd5, cd6⟩
    · rintro L a w ⟨b0, b1, b2, b3, b4, b5, b6, x3, x4, x5, x6, x7, x8, x2, rfl, rfl, hb, cd0, cd1, cd2, cd3, cd4, cd5, cd6⟩ hf hd
      have hf' : b2 = false := hf
      subst hf'
      have d1 : b1 = true := hd ⟨1, .data⟩ (by simp) rfl
      subst d1
      obtain rfl := cd1.out rfl
      clear hf hd
      try simp only [List.setIfInBounds_toArray, List.set_cons_zero, List.set_cons_succ]
      have z0 := (hb.cell hpB).trans t4
      intro K hK
      rw [if_pos (by rfl)]
      go_simp
      exact hK.out _ _ ⟨b0, true, true, b3, b4, b5, b6, x3, .pointer (some ⟨p, 4, none⟩), (.slice ro rn rc), x6, x7, x8, x2, (by simp only [Act.put, List.setIfInBounds_toArray, List.set_cons_zero, List.set_cons_succ]), (by simp only [Act.put, List.setIfInBounds_toArray, List.set_cons_zero, List.set_cons_succ]), hb, cd0, (fun _ => rfl), (fun _ => rfl), cd3, cd4, cd5, cd6⟩
    · rintro L a w ⟨b0, b1, b2, b3, b4, b5, b6, x3, x4, x5, x6, x7, x8, x2, rfl, rfl, hb, cd0, cd1, cd2, cd3, cd4, cd5, cd6⟩ hf hd
      have hf' : b3 = false := hf
      subst hf'
      clear hf hd
      try simp only [List.setIfInBounds_toArray, List.set_cons_zero, List.set_cons_succ]
      have z0 := (hb.cell hpB).trans t0
      have z1 := (hb.cell hpB).trans t1
      have z2 := (hb.cell hpB).trans t2
      have z3 := (hb.cell hpB).trans t3
      have z4 := (hb.cell hpB).trans t4
      have z5 := (hb.cell hpB).trans t5
      have z6 := (hb.cell hpB).trans t6
      intro K hK
      rw [if_pos (by rfl)]
      go_simp
      exact hK.out _ _ ⟨b0, b1, b2, true, b4, b5, b6, x3, x4, x5, (.agg #[.string (bsOf l), .slice co cn cc, .int .i64 ky, .bool only, .slice ro rn rc, .int .i64 (m : Nat), .bool tk]), x7, x8, x2, (by simp only [Act.put, List.setIfInBounds_toArray, List.set_cons_zero, List.set_cons_succ]), (by simp only [Act.put, List.setIfInBounds_toArray, List.set_cons_zero, List.set_cons_succ]), hb, cd0, cd1, cd2, (fun _ => rfl), cd4, cd5, cd6⟩
    · rintro L a w ⟨b0, b1, b2, b3, b4, b5, b6, x3, x4, x5, x6, x7, x8, x2, rfl, rfl, hb, cd0, cd1, cd2, cd3, cd4, cd5, cd6⟩ hf hd
      have hf' : b4 = false := hf
      subst hf'
      have d3 : b3 = true := hd ⟨3, .data⟩ (by simp) rfl
      subst d3
      obtain rfl := cd3.out rfl
      clear hf hd
      try simp only [List.setIfInBounds_toArray, List.set_cons_zero, List.set_cons_succ]
      intro K hK
      rw [if_pos (by rfl)]
      go_simp
      go_at_call 90
      refine (HN _).mono ?_
      rintro e w' ⟨rfl, bx⟩
      exact hK.out _ _ ⟨b0, b1, b2, true, true, b5, b6, x3, x4, x5, .agg #[.string (bsOf l), .slice co cn cc, .int .i64 ky, .bool only, .slice ro rn rc, .int .i64 (m : Nat), .bool tk], (.int .i64 (nx : Nat)), x8, x2, (by simp only [Act.put, List.setIfInBounds_toArray, List.set_cons_zero, List.set_cons_succ]), (by simp only [Act.put, List.setIfInBounds_toArray, List.set_cons_zero, List.set_cons_succ]), hb.trans (bx.mono (Nat.le_trans hB0 hb.size)), cd0, cd1, cd2, (fun _ => rfl), (fun _ => rfl), cd5, cd6⟩
    · rintro L a w ⟨b0, b1, b2, b3, b4, b5, b6, x3, x4, x5, x6, x7, x8, x2, rfl, rfl, hb, cd0, cd1, cd2, cd3, cd4, cd5, cd6⟩ hf hd
      have hf' : b5 = false := hf
      subst hf'
      have d2 : b2 = true := hd ⟨2, .data⟩ (by simp) rfl
      subst d2
      have d4 : b4 = true := hd ⟨4, .data⟩ (by simp) rfl
      subst d4
      obtain rfl := cd2.out rfl
      obtain rfl := cd4.out rfl
      clear hf hd
      try simp only [List.setIfInBounds_toArray, List.set_cons_zero, List.set_cons_succ]
      intro K hK
      rw [if_pos (by rfl)]
      go_simp
      rw [HA.out]
      exact hK.out _ _ ⟨b0, b1, true, b3, true, true, b6, x3, x4, .slice ro rn rc, x6, .int .i64 (nx : Nat), (.slice A2 (rn - nx) (rc - nx)), x2, (by simp only [Act.put, List.setIfInBounds_toArray, List.set_cons_zero, List.set_cons_succ]), (by simp only [Act.put, List.setIfInBounds_toArray, List.set_cons_zero, List.set_cons_succ]), hb, cd0, cd1, (fun _ => rfl), cd3, (fun _ => rfl), (fun _ => rfl), cd6⟩
    · rintro L a w ⟨b0, b1, b2, b3, b4, b5, b6, x3, x4, x5, x6, x7, x8, x2, rfl, rfl, hb, cd0, cd1, cd2, cd3, cd4, cd5, cd6⟩ hf hd
      have hf' : b6 = false := hf
      subst hf'
      have d5 : b5 = true := hd ⟨5, .data⟩ (by simp) rfl
      subst d5
      have d4 : b4 = true := hd ⟨4, .chain⟩ (by simp) rfl
      subst d4
      have d0 : b0 = true := hd ⟨0, .phase⟩ (by simp) rfl
      subst d0
      have d1 : b1 = true := hd ⟨1, .phase⟩ (by simp) rfl
      subst d1
      have d2 : b2 = true := hd ⟨2, .phase⟩ (by simp) rfl
      subst d2
      have d3 : b3 = true := hd ⟨3, .phase⟩ (by simp) rfl
      subst d3
      obtain rfl := cd5.out rfl
      obtain rfl := cd4.out rfl
      obtain rfl := cd0.out rfl
      obtain rfl := cd1.out rfl
      obtain rfl := cd2.out rfl
      obtain rfl := cd3.out rfl
      clear hf hd
      try simp only [List.setIfInBounds_toArray, List.set_cons_zero, List.set_cons_succ]
      intro K hK
      rw [if_pos (by rfl)]
      go_simp
      exact hK.out _ _ ⟨true, true, true, true, true, true, true, .pointer (some ⟨p, 0, none⟩), .pointer (some ⟨p, 4, none⟩), .slice ro rn rc, .agg #[.string (bsOf l), .slice co cn cc, .int .i64 ky, .bool only, .slice ro rn rc, .int .i64 (m : Nat), .bool tk], .int .i64 (nx : Nat), .slice A2 (rn - nx) (rc - nx), (.slice A2 (rn - nx) (rc - nx)), (by simp only [Act.put, List.setIfInBounds_toArray, List.set_cons_zero, List.set_cons_succ]), (by simp only [Act.put, List.setIfInBounds_toArray, List.set_cons_zero, List.set_cons_succ]), hb, (fun _ => rfl), (fun _ => rfl), (fun _ => rfl), (fun _ => rfl), (fun _ => rfl), (fun _ => rfl), (fun _ => rfl)⟩
  · rintro act V ⟨b0, b1, b2, b3, b4, b5, b6, x3, x4, x5, x6, x7, x8, x2, hL, rfl, hb, cd0, cd1, cd2, cd3, cd4, cd5, cd6⟩
    have hL' : [true, true, true, true, true, true, true] = [b0, b1, b2, b3, b4, b5, b6] := congrArg Array.toList hL
    simp only [List.cons.injEq, and_true] at hL'
    obtain ⟨rfl, rfl, rfl, rfl, rfl, rfl, rfl⟩ := hL'
    obtain rfl := cd0.out rfl
    obtain rfl := cd1.out rfl
    obtain rfl := cd2.out rfl
    obtain rfl := cd3.out rfl
    obtain rfl := cd4.out rfl
    obtain rfl := cd5.out rfl
    obtain rfl := cd6.out rfl
    clear hL cd0 cd1 cd2 cd3 cd4 cd5 cd6
    simp only [List.setIfInBounds_toArray, List.set_cons_zero, List.set_cons_succ]
    have BV : Below w.heap.size w V := by rw [HP.out]; exact B0.trans (((Below.refl _ _).drew.trans hb).mono hpW)
    go_wp2_with fail
    go_ret
    exact ⟨_, _, rfl, h3.past BV, BV⟩
/-- What stands while the region's operations come up. -/
inductive Holding3 (B : Nat) (q : Nat) (g : Nat) (r : Nat) (l : List UInt8) (cn : Nat) (c2 : Nat) (cs : List Co) (ky : Int) (only : Bool) (pa : Option Addr) (k : Nat) (c : Nat) (N : Nat) (ls : List (List V)) (a0 : Act) (w0 : World) (L : Array Bool) (a : Act) (w : World) : Prop
  | mk (b0 b1 b2 b3 b4 : Bool) (x12 x13 x14 x15 : Value) (ro2 : Option Addr) (rc2 : Nat) (hL : L = #[b0, b1, b2, b3, b4]) (ha : a = ⟨((((a0.tmps.setIfInBounds 12 x12).setIfInBounds 13 x13).setIfInBounds 14 x14).setIfInBounds 15 x15), a0.defers⟩) (hb : Below B w0 w) (cd0 : Hid (b0 = true → x12 = .agg #[.string (bsOf l), .slice (some ⟨g, 0, none⟩) cn c2, .int .i64 ky, .bool only])) (cd1 : Hid (b1 = true → x13 = .slice pa k c)) (cd2 : Hid (b2 = true → x14 = .slice ro2 N rc2)) (cd3 : Hid (b3 = true → x15 = .agg #[.string (bsOf l), .slice (some ⟨g, 0, none⟩) cn c2, .int .i64 ky, .bool only, .slice ro2 N rc2])) (f_q : Hid (Bk w q (scC l (some ⟨g, 0, none⟩) cn c2 ky only) 40)) (f_g : Hid (OwnR encCo w 156 g cn c2 cs)) (f_r : Hid (b4 = false → Bk w r (tbC [] none 0 0 0 false none 0 0) 47)) (f_ir : Hid (b2 = true → IsRR EV w w0.heap.size ro2 N rc2 ls)) (f_rs : Hid (b4 = true → Bk w r (tbC l (some ⟨g, 0, none⟩) cn c2 ky only ro2 N rc2) 47)) (f_o4 : Hid (b4 = true → b2 = true)) (w_3_2 : Hid (b3 = true → b2 = true)) : Holding3 B q g r l cn c2 cs ky only pa k c N ls a0 w0 L a w
/-- A table is answered, in new memory. -/
def TabIs (w : World) (l : List UInt8) (cs : List Co) (cn : Nat) (ky : Int) (only : Bool) (rs : List (List V)) (rn : Nat) (e : Ending) (w' : World) : Prop :=
  ∃ co cc ro rc, e = .returned (tbV l co cn cc ky only ro rn rc) ∧ IsT w' w.heap.size co cn cc cs ro rn rc rs ∧ Below w.heap.size w w'
set_option maxRecDepth 100000 in
set_option maxHeartbeats 2000000 in
theorem holding_any (w : World) (l : List UInt8) (co : Option Addr) (cn cc : Nat) (ky : Int) (only : Bool) (ro : Option Addr) (rn rc : Nat) (cs : List Co) (hc : IsR encCo w co cn cc cs) (h0 : 0 < cn) (hcn : cn ≤ 1000) (B : Nat) (pa : Option Addr) (k c : Nat) (ps : List (List HdR)) (h : IsRR EH w B pa k c ps) (hk : k ≤ 10) (ls : List (List V)) (hR : Rd EV w ps.flatten ls) (N : Nat) (hN : ls.length = N) (hN2 : N ≤ 1000) (hM : ls.flatten.length ≤ 100000) :
    Calls Try.prog 78 #[tbV l co cn cc ky only ro rn rc, .slice pa k c] w (TabIs w l cs cn ky only ls N) := by
  have hB : Below w.heap.size w (((w.alloc (.cells #[.string (bsOf l), .slice co cn cc, .int .i64 ky, .bool only, .slice ro rn rc] 47)).alloc (.cells #[.string ⟨#[]⟩, .slice none 0 0, .int .i64 0, .bool false, .slice none 0 0] 47)).alloc (.cells #[.string (bsOf l), .slice co cn cc, .int .i64 ky, .bool only] 40)) := (((Below.refl _ _).alloc (Nat.le_refl _) _).alloc (by simp) _).alloc (by simp; omega) _
  have hRr : Bk (((w.alloc (.cells #[.string (bsOf l), .slice co cn cc, .int .i64 ky, .bool only, .slice ro rn rc] 47)).alloc (.cells #[.string ⟨#[]⟩, .slice none 0 0, .int .i64 0, .bool false, .slice none 0 0] 47)).alloc (.cells #[.string (bsOf l), .slice co cn cc, .int .i64 ky, .bool only] 40)) (w.heap.size + 1) (tbC [] none 0 0 0 false none 0 0) 47 := by
    have := (Bk.new (w.alloc (.cells #[.string (bsOf l), .slice co cn cc, .int .i64 ky, .bool only, .slice ro rn rc] 47)) #[.string ⟨#[]⟩, .slice none 0 0, .int .i64 0, .bool false, .slice none 0 0] 47).alloc (.cells #[.string (bsOf l), .slice co cn cc, .int .i64 ky, .bool only] 40)
    rwa [World.size_alloc] at this
  have hQ : Bk (((w.alloc (.cells #[.string (bsOf l), .slice co cn cc, .int .i64 ky, .bool only, .slice ro rn rc] 47)).alloc (.cells #[.string ⟨#[]⟩, .slice none 0 0, .int .i64 0, .bool false, .slice none 0 0] 47)).alloc (.cells #[.string (bsOf l), .slice co cn cc, .int .i64 ky, .bool only] 40)) (w.heap.size + 1 + 1) (scC l co cn cc ky only) 40 := by
    have := Bk.new ((w.alloc (.cells #[.string (bsOf l), .slice co cn cc, .int .i64 ky, .bool only, .slice ro rn rc] 47)).alloc (.cells #[.string ⟨#[]⟩, .slice none 0 0, .int .i64 0, .bool false, .slice none 0 0] 47)) #[.string (bsOf l), .slice co cn cc, .int .i64 ky, .bool only] 40
    rwa [World.size_alloc, World.size_alloc] at this
  unfold tbV
  go_enter Try.func78, Try.ntmps78
  go_upto_region 2 with fail
  generalize ((w.alloc (.cells #[.string (bsOf l), .slice co cn cc, .int .i64 ky, .bool only, .slice ro rn rc] 47)).alloc (.cells #[.string ⟨#[]⟩, .slice none 0 0, .int .i64 0, .bool false, .slice none 0 0] 47)).alloc (.cells #[.string (bsOf l), .slice co cn cc, .int .i64 ky, .bool only] 40) = W at hB hRr hQ ⊢
  obtain ⟨p, hp⟩ : ∃ p, w.heap.size = p := ⟨_, rfl⟩
  have HP := Lib.hid hp
  obtain ⟨r, hr⟩ : ∃ r, p + 1 = r := ⟨_, rfl⟩
  obtain ⟨q, hq⟩ : ∃ q, r + 1 = q := ⟨_, rfl⟩
  simp only [hp, hr, hq] at hRr hQ ⊢
  have hcW := hc.past hB
  have HCl := clone_c W co cn cc cs hcW h0 (by omega)
  obtain ⟨z0, z1, z2, z3⟩ := sc_cells hQ
  go_upto_region 3 with (go_at_call 135; refine HCl.mono ?_; rintro e w1 ⟨g, c2, rfl, o1, b1, q1⟩; have hQ1 := hQ.past b1; obtain ⟨y0, y1, y2, y3⟩ := sc_cells hQ1; have hfr := free_blk (i := 1) hQ1)
  have hqg : q ≠ g := by have := hQ.lt; omega
  have hrg : r ≠ g := by have := hRr.lt; omega
  have hpg : p ≤ g := by have := hRr.lt; omega
  have oG : OwnR encCo (w1.setCell ⟨q, 1, none⟩ (.slice (some ⟨g, 0, none⟩) cn c2)) 156 g cn c2 cs := o1.kept (heap_setCell_other _ _ g _ (fun e => hqg e.symm))
  have hQ2 : Bk (w1.setCell ⟨q, 1, none⟩ (.slice (some ⟨g, 0, none⟩) cn c2)) q (scC l (some ⟨g, 0, none⟩) cn c2 ky only) 40 := (Go.Proofs.Ytllijeciodmckaa.heap_setCell_same (i := 1) hQ1).trans rfl
  have hR2 : Bk (w1.setCell ⟨q, 1, none⟩ (.slice (some ⟨g, 0, none⟩) cn c2)) r (tbC [] none 0 0 0 false none 0 0) 47 := (heap_setCell_other _ _ r _ (by show r ≠ q; omega)).trans (hRr.past b1)
  have hpW1 : p ≤ W.heap.size := by have := hRr.lt; omega
  have hB' : Below p w W := by rw [← hp]; exact hB
  have B2 : Below p w (w1.setCell ⟨q, 1, none⟩ (.slice (some ⟨g, 0, none⟩) cn c2)) := (hB'.trans (b1.mono hpW1)).setCell (p := ⟨q, 1, none⟩) (by show p ≤ q; omega) _
  generalize w1.setCell ⟨q, 1, none⟩ (.slice (some ⟨g, 0, none⟩) cn c2) = W2 at oG hQ2 hR2 B2 ⊢
  have HO := fun (w' : World) (hb : Below p W2.drew w') => own_any w' B pa k c ps (h.past (by rw [HP.out]; exact B2.trans ((Below.refl _ _).drew.trans hb))) hk ls (hR.past (by rw [HP.out]; exact B2.trans ((Below.refl _ _).drew.trans hb))) N hN hN2 hM
  have hrW : r < W2.heap.size := hR2.lt
  have hpW : p ≤ W2.heap.size := by omega
  have hB0 : p ≤ W2.heap.size := hpW
  have hBr : p ≤ r := by omega
  have hqr : some q ≠ some r := by intro e; have := Option.some.inj e; omega
  have hgr : some g ≠ some r := by intro e; exact hrg (Option.some.inj e).symm
  clear hp hr hq hcW HCl z0 z1 z2 z3 hB hRr hQ hQ1 y0 y1 y2 y3 hfr o1 b1 hB'
  refine region_inv (Holding3 p q g r l cn c2 cs ky only pa k c N ls) (by kernel_rfl) (by kernel_rfl) ?_ ?_ ?_
  · exact ⟨false, false, false, false, false, undef, undef, undef, undef, none, 0, rfl, (by simp only [Act.put, List.setIfInBounds_toArray, List.set_cons_zero, List.set_cons_succ]), Below.refl _ _, (fun h => by cases h), (fun h => by cases h), (fun h => by cases h), (fun h => by cases h), (hQ2), (oG.drew), (fun h1 => hR2), (fun h => by cases h), (fun h => by cases h), (fun h => by cases h), (fun h => by cases h)⟩
  · refine ⟨?_, ?_, ?_, ?_, ?_, trivial⟩
    · rintro L a w ⟨b0, b1, b2, b3, b4, x12, x13, x14, x15, ro2, rc2, rfl, rfl, hb, cd0, cd1, cd2, cd3, f_q, f_g, f_r, f_ir, f_rs, f_o4, w_3_2⟩ hf hd
      have hf' : b0 = false := hf
      subst hf'
      clear hf hd
      have W_q := f_q.out
      have W_g := f_g.out
      try simp only [List.setIfInBounds_toArray, List.set_cons_zero, List.set_cons_succ]
      obtain ⟨z0, z1, z2, z3⟩ := sc_cells W_q
      intro K hK
      rw [if_pos (by rfl)]
      go_simp
      exact hK.out _ _ ⟨true, b1, b2, b3, b4, (.agg #[.string (bsOf l), .slice (some ⟨g, 0, none⟩) cn c2, .int .i64 ky, .bool only]), x13, x14, x15, ro2, rc2, (by simp only [Act.put, List.setIfInBounds_toArray, List.set_cons_zero, List.set_cons_succ]), (by simp only [Act.put, List.setIfInBounds_toArray, List.set_cons_zero, List.set_cons_succ]), hb, (fun _ => rfl), cd1, cd2, cd3, f_q, f_g, f_r, f_ir, f_rs, f_o4, w_3_2⟩
    · rintro L a w ⟨b0, b1, b2, b3, b4, x12, x13, x14, x15, ro2, rc2, rfl, rfl, hb, cd0, cd1, cd2, cd3, f_q, f_g, f_r, f_ir, f_rs, f_o4, w_3_2⟩ hf hd
      have hf' : b1 = false := hf
      subst hf'
      clear hf hd
      have W_q := f_q.out
      have W_g := f_g.out
      try simp only [List.setIfInBounds_toArray, List.set_cons_zero, List.set_cons_succ]
      intro K hK
      rw [if_pos (by rfl)]
      go_simp
      exact hK.out _ _ ⟨b0, true, b2, b3, b4, x12, (.slice pa k c), x14, x15, ro2, rc2, (by simp only [Act.put, List.setIfInBounds_toArray, List.set_cons_zero, List.set_cons_succ]), (by simp only [Act.put, List.setIfInBounds_toArray, List.set_cons_zero, List.set_cons_succ]), hb, cd0, (fun _ => rfl), cd2, cd3, f_q, f_g, f_r, f_ir, f_rs, f_o4, w_3_2⟩
    · rintro L a w ⟨b0, b1, b2, b3, b4, x12, x13, x14, x15, ro2, rc2, rfl, rfl, hb, cd0, cd1, cd2, cd3, f_q, f_g, f_r, f_ir, f_rs, f_o4, w_3_2⟩ hf hd
      have hf' : b2 = false := hf
      subst hf'
      have d1 : b1 = true := hd ⟨1, .data⟩ (by simp) rfl
      subst d1
      obtain rfl := cd1.out rfl
      clear hf hd
      have W_q := f_q.out
      have W_g := f_g.out
      try simp only [List.setIfInBounds_toArray, List.set_cons_zero, List.set_cons_succ]
      intro K hK
      rw [if_pos (by rfl)]
      go_simp
      go_at_call 91
      refine (HO _ hb).mono ?_
      rintro e w' ⟨ro3, rc3, rfl, ir, bx⟩
      have e_3 : b3 = false := by cases hq : b3 with | false => rfl | true => exact absurd (w_3_2.out hq) (by simp)
      subst e_3
      exact hK.out _ _ ⟨b0, true, true, false, b4, x12, .slice pa k c, (.slice ro3 N rc3), x15, ro3, rc3, (by simp only [Act.put, List.setIfInBounds_toArray, List.set_cons_zero, List.set_cons_succ]), (by simp only [Act.put, List.setIfInBounds_toArray, List.set_cons_zero, List.set_cons_succ]), hb.trans (bx.mono (Nat.le_trans hB0 hb.size)), cd0, (fun _ => rfl), (fun _ => rfl), (fun h => by cases h), (f_q.out.past bx), (f_g.out.past bx), (fun h1 => (f_r.out h1).past bx), (fun _ => ir.mono hb.size), (fun h0 => absurd (f_o4.out h0) (by simp)), (fun _ => rfl), (fun _ => rfl)⟩
    · rintro L a w ⟨b0, b1, b2, b3, b4, x12, x13, x14, x15, ro2, rc2, rfl, rfl, hb, cd0, cd1, cd2, cd3, f_q, f_g, f_r, f_ir, f_rs, f_o4, w_3_2⟩ hf hd
      have hf' : b3 = false := hf
      subst hf'
      have d0 : b0 = true := hd ⟨0, .data⟩ (by simp) rfl
      subst d0
      have d2 : b2 = true := hd ⟨2, .data⟩ (by simp) rfl
      subst d2
      obtain rfl := cd0.out rfl
      obtain rfl := cd2.out rfl
      clear hf hd
      have W_q := f_q.out
      have W_g := f_g.out
      have W_ir := f_ir.out rfl
      try simp only [List.setIfInBounds_toArray, List.set_cons_zero, List.set_cons_succ]
      intro K hK
      rw [if_pos (by rfl)]
      go_simp
      exact hK.out _ _ ⟨true, b1, true, true, b4, .agg #[.string (bsOf l), .slice (some ⟨g, 0, none⟩) cn c2, .int .i64 ky, .bool only], x13, .slice ro2 N rc2, (.agg #[.string (bsOf l), .slice (some ⟨g, 0, none⟩) cn c2, .int .i64 ky, .bool only, .slice ro2 N rc2]), ro2, rc2, (by simp only [Act.put, List.setIfInBounds_toArray, List.set_cons_zero, List.set_cons_succ]), (by simp only [Act.put, List.setIfInBounds_toArray, List.set_cons_zero, List.set_cons_succ]), hb, (fun _ => rfl), cd1, (fun _ => rfl), (fun _ => rfl), f_q, f_g, f_r, f_ir, f_rs, f_o4, (fun _ => rfl)⟩
    · rintro L a w ⟨b0, b1, b2, b3, b4, x12, x13, x14, x15, ro2, rc2, rfl, rfl, hb, cd0, cd1, cd2, cd3, f_q, f_g, f_r, f_ir, f_rs, f_o4, w_3_2⟩ hf hd
      have hf' : b4 = false := hf
      subst hf'
      have d3 : b3 = true := hd ⟨3, .data⟩ (by simp) rfl
      subst d3
      have d2 : b2 = true := hd ⟨2, .chain⟩ (by simp) rfl
      subst d2
      have d0 : b0 = true := hd ⟨0, .phase⟩ (by simp) rfl
      subst d0
      have d1 : b1 = true := hd ⟨1, .phase⟩ (by simp) rfl
      subst d1
      obtain rfl := cd3.out rfl
      obtain rfl := cd2.out rfl
      obtain rfl := cd0.out rfl
      obtain rfl := cd1.out rfl
      clear hf hd
      have W_q := f_q.out
      have W_g := f_g.out
      have W_r := f_r.out rfl
      have W_ir := f_ir.out rfl
      try simp only [List.setIfInBounds_toArray, List.set_cons_zero, List.set_cons_succ]
      intro K hK
      rw [if_pos (by rfl)]
      refine wp_store_blkT 47 _ _ rfl r _ (tbC l (some ⟨g, 0, none⟩) cn c2 ky only ro2 N rc2) rfl rfl _ (Lib.hid W_r) 5 szTb (tbC_size ..) (tbC_size ..) (tbC_all ..) fun w2 h8 b8 => ?_
      have hb2 := hb.grown b8 (Nat.le_trans hB0 hb.size) (fun z hz => by cases hz; exact hBr)
      exact hK.out _ _ ⟨true, true, true, true, true, .agg #[.string (bsOf l), .slice (some ⟨g, 0, none⟩) cn c2, .int .i64 ky, .bool only], .slice pa k c, .slice ro2 N rc2, .agg #[.string (bsOf l), .slice (some ⟨g, 0, none⟩) cn c2, .int .i64 ky, .bool only, .slice ro2 N rc2], ro2, rc2, (by simp only [Act.put, List.setIfInBounds_toArray, List.set_cons_zero, List.set_cons_succ]), (by simp only [Act.put, List.setIfInBounds_toArray, List.set_cons_zero, List.set_cons_succ]), hb2, (fun _ => rfl), (fun _ => rfl), (fun _ => rfl), (fun _ => rfl), (Bk.grown f_q.out b8 hqr), (OwnR.grown f_g.out b8 hgr), (fun h => by cases h), (fun h0 => IsRR.grown (f_ir.out h0) b8 hrW), (fun _ => h8.out), (fun _ => rfl), (fun _ => rfl)⟩
  · rintro act V ⟨b0, b1, b2, b3, b4, x12, x13, x14, x15, ro2, rc2, hL, rfl, hb, cd0, cd1, cd2, cd3, f_q, f_g, f_r, f_ir, f_rs, f_o4, w_3_2⟩
    have hL' : [true, true, true, true, true] = [b0, b1, b2, b3, b4] := congrArg Array.toList hL
    simp only [List.cons.injEq, and_true] at hL'
    obtain ⟨rfl, rfl, rfl, rfl, rfl⟩ := hL'
    obtain rfl := cd0.out rfl
    obtain rfl := cd1.out rfl
    obtain rfl := cd2.out rfl
    obtain rfl := cd3.out rfl
    have W_q := f_q.out
    have W_g := f_g.out
    have W_ir := f_ir.out rfl
    have W_rs := f_rs.out rfl
    have W_o4 := f_o4.out rfl
    clear hL f_q f_g f_r f_ir f_rs f_o4 cd0 cd1 cd2 cd3 w_3_2
    simp only [List.setIfInBounds_toArray, List.set_cons_zero, List.set_cons_succ]
    obtain ⟨r0, r1, r2, r3, r4⟩ := tb_cells W_rs
    go_wp2_with fail
    refine bodyPost_ret (v := tbV l (some ⟨g, 0, none⟩) cn c2 ky only ro2 N rc2) (by simp [results, Try.results78, go_sem, tbV, r0, r1, r2, r3, r4]) rfl ?_
    exact ⟨_, _, _, _, rfl, ⟨W_g.isR, W_ir.mono (by rw [HP.out]; exact hpW), (fun a ha => by obtain rfl := Option.some.inj ha; rw [HP.out]; exact hpg : Frm _ _)⟩, by rw [HP.out]; exact B2.trans (Below.drew (Below.refl _ _) |>.trans hb)⟩
theorem part_one (w : World) (t : TypeId) (x : HdR) (hs : List HdR) (h : IsR EH w x.a x.n x.c hs) : IsRR EH (w.alloc (.cells #[.slice x.a x.n x.c] t)) 0 (some ⟨w.heap.size, 0, none⟩) 1 1 [hs] :=
  ⟨[x], (OwnR.ofBlk (E := EH) (l := [x]) (n := 1) (heap_alloc_new w _) rfl rfl (by omega)).isR, Rd.one (h.past ((Below.refl _ _).alloc (Nat.le_refl _) _)), (fun _ _ => Nat.zero_le _ : Frm 0 _), (fun _ _ _ _ => Nat.zero_le _ : FrmH 0 _)⟩
set_option maxRecDepth 100000 in
set_option maxHeartbeats 1000000 in
theorem fresh_any (w : World) (l : List UInt8) (co : Option Addr) (cn cc : Nat) (ky : Int) (only : Bool) (ro : Option Addr) (rn rc : Nat) (cs : List Co) (B : Nat) (rs : List (List V)) (h : IsT w B co cn cc cs ro rn rc rs) (h0 : 0 < cn) (hcn : cn ≤ 1000) (hN2 : rn ≤ 1000) (hM : rs.flatten.length ≤ 100000) :
    Calls Try.prog 75 #[tbV l co cn cc ky only ro rn rc] w (TabIs w l cs cn ky only rs rn) := by
  have hB : Below w.heap.size w ((w.alloc (.cells #[.string (bsOf l), .slice co cn cc, .int .i64 ky, .bool only, .slice ro rn rc] 47)).alloc (.cells #[.string ⟨#[]⟩, .slice none 0 0, .int .i64 0, .bool false, .slice none 0 0] 47)) := ((Below.refl _ _).alloc (Nat.le_refl _) _).alloc (by simp) _
  have hT : Bk ((w.alloc (.cells #[.string (bsOf l), .slice co cn cc, .int .i64 ky, .bool only, .slice ro rn rc] 47)).alloc (.cells #[.string ⟨#[]⟩, .slice none 0 0, .int .i64 0, .bool false, .slice none 0 0] 47)) w.heap.size (tbC l co cn cc ky only ro rn rc) 47 := (Bk.new w _ _).alloc _
  have hRr : Bk ((w.alloc (.cells #[.string (bsOf l), .slice co cn cc, .int .i64 ky, .bool only, .slice ro rn rc] 47)).alloc (.cells #[.string ⟨#[]⟩, .slice none 0 0, .int .i64 0, .bool false, .slice none 0 0] 47)) (w.heap.size + 1) (tbC [] none 0 0 0 false none 0 0) 47 := by
    have := Bk.new (w.alloc (.cells #[.string (bsOf l), .slice co cn cc, .int .i64 ky, .bool only, .slice ro rn rc] 47)) #[.string ⟨#[]⟩, .slice none 0 0, .int .i64 0, .bool false, .slice none 0 0] 47
    rwa [World.size_alloc] at this
  unfold tbV
  go_enter Try.func75, Try.ntmps75
  go_upto_region 1 with fail
  generalize (w.alloc (.cells #[.string (bsOf l), .slice co cn cc, .int .i64 ky, .bool only, .slice ro rn rc] 47)).alloc (.cells #[.string ⟨#[]⟩, .slice none 0 0, .int .i64 0, .bool false, .slice none 0 0] 47) = W at hB hT hRr ⊢
  obtain ⟨p, hp⟩ : ∃ p, w.heap.size = p := ⟨_, rfl⟩
  have HP := Lib.hid hp
  obtain ⟨r, hr⟩ : ∃ r, p + 1 = r := ⟨_, rfl⟩
  simp only [hp, hr] at hT hRr ⊢
  have hW := h.past hB
  have hpW : p ≤ W.heap.size := Nat.le_of_lt hT.lt
  have hpr : p ≤ r := by omega
  obtain ⟨hs, hh, hRd, -⟩ := hW.rows
  obtain ⟨t0, t1, t2, t3, t4⟩ := tb_cells hT
  have BL : Below W.heap.size W (W.alloc (.cells #[.slice ro rn rc] 45)) := (Below.refl _ _).alloc (Nat.le_refl _) _
  have HH := holding_any (W.alloc (.cells #[.slice ro rn rc] 45)) l co cn cc ky only ro rn rc cs (hW.cols.past BL) h0 hcn 0 (some ⟨W.heap.size, 0, none⟩) 1 1 [hs] (part_one W _ ⟨ro, rn, rc⟩ hs hh) (by omega) rs (by simpa using hRd.past BL) rn hW.rows.len hN2 hM
  have HHh := Lib.hid HH
  have hB' : Below p w W := by rw [← hp]; exact hB
  clear hp hr HH hB
  go_wp2_with (first
    | (go_at_call 78; refine HHh.out.mono ?_; rintro e w1 ⟨co1, cc1, ro1, rc1, rfl, h1, b1⟩; have hR1 : Hid (w1.heap[r]? = some (.cells (tbC [] none 0 0 0 false none 0 0) 47 (0, 0))) := (hRr.past BL).past b1)
    | ((with_reducible refine wpList_store_blk (o := ⟨none, _, _, _, _, _⟩) rfl 47 (.tmp 2) (.tmp 7) rfl r _ (tbC l co1 cn cc1 ky only ro1 rn rc1) ?_ ?_ _ hR1 5 szTb (tbC_size ..) (tbC_size ..) (tbC_all ..) ?_); (rfl); (rfl); (intro w2 h2 g2)))
  have hR2 : Bk w2 r (tbC l co1 cn cc1 ky only ro1 rn rc1) 47 := h2.out
  obtain ⟨r0, r1, r2, r3, r4⟩ := tb_cells hR2
  refine bodyPost_ret (v := tbV l co1 cn cc1 ky only ro1 rn rc1) (by simp [results, Try.results75, go_sem, tbV, r0, r1, r2, r3, r4]) rfl ?_
  have hrW := (hRr.past BL).lt
  have hWB := BL.size
  have hcc : ∀ a, co1 = some a → r < a.block := fun a ha => Nat.lt_of_lt_of_le hrW (h1.frm a ha)
  refine ⟨_, _, _, _, rfl, ⟨h1.cols.grown g2 (fun a ha e => by have := hcc a ha; have := Option.some.inj e; omega), (h1.rows.grown g2 hrW).mono (by rw [HP.out]; omega), h1.frm.mono (by rw [HP.out]; omega)⟩, ?_⟩
  rw [HP.out]
  exact (hB'.trans ((BL.trans (b1.mono BL.size)).mono hpW)).grown g2 (Nat.le_trans hpW (Nat.le_trans hWB b1.size)) (fun z hz => by cases hz; exact hpr)
end Go.Proofs.Ytllijeciodmckaa
