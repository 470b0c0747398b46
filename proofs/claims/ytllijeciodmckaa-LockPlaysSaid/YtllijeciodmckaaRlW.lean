/-
  The document's own locks: Victim (by gen_rlw.py).
-/
import Derived.Test.YtllijeciodmckaaRlV
namespace Go.Proofs.Ytllijeciodmckaa
open Go.RowKit
set_option linter.unusedSimpArgs false
/-- What Victim answers. -/
def VicPost (T M : List Hd) (s : Int) (w w' : World) (e : Ending) : Prop := ∃ v ok, e = .returned (.tuple #[.int .i64 v, .bool ok]) ∧ Vic T M s v ok ∧ Below w.heap.size w w'
theorem FromIs.past {w w' : World} {ao : Option Addr} {n c : Nat} {M T : List Hd} {s : Int} (h : FromIs w ao n c M T s) (b : Below w.heap.size w w') : FromIs w' ao n c M T s := by
  obtain ⟨L, h1, h2, h3⟩ := h
  exact ⟨L, h1.past b, h2, h3⟩
theorem take_all_i {l : List Int} {y : Int} {j : Nat} {P : Int → Prop} (hn : ∀ z ∈ l.take j, P z) (hj : l[j]? = some y) (he : P y) : ∀ z ∈ l.take (j + 1), P z := by
  intro z hz
  rw [List.take_add_one, hj] at hz
  rcases List.mem_append.1 hz with hz | hz
  · exact hn z hz
  · obtain rfl : z = y := by simpa using hz
    exact he
theorem in_from (w : World) (ao : Option Addr) (n c : Nat) (M T : List Hd) (x s : Int) (r : Bool) (hr : r = true ↔ Rch M T x s) (h : FromIs w ao n c M T x) :
    Calls Try.prog 111 #[.slice ao n c, .int .i64 s] w fun e w' => e = .returned (.bool r) ∧ w = w' := by
  obtain ⟨L, h1, h2, _⟩ := h
  have e : decide (s ∈ L) = r := by
    rw [Bool.eq_iff_iff, hr, decide_eq_true_iff]
    exact h2 s
  rw [← e]
  exact rin_any w ao n c L h1 s
/-- What stands while the region's operations come up. -/
inductive Victim8T (B : Nat) (p : Nat) (tv : Option Addr) (tn : Nat) (tc : Nat) (mo : Option Addr) (mn : Nat) (mc : Nat) (b : Nat) (off : Nat) (n : Nat) (c : Nat) (i : Nat) (x : Int) (v : Int) (s : Int) (T : List Hd) (M : List Hd) (a0 : Act) (w0 : World) (L : Array Bool) (a : Act) (w : World) : Prop
  | mk (b0 b1 b2 b3 b4 b5 b6 b7 b8 b9 b10 b11 b12 b13 b14 b15 : Bool) (x23 x24 x25 x26 x27 x28 x29 x30 x31 x32 x33 x34 x35 x36 x37 x38 : Value) (fo : Option Addr) (fm : Nat) (fc : Nat) (hL : L = #[b0, b1, b2, b3, b4, b5, b6, b7, b8, b9, b10, b11, b12, b13, b14, b15]) (ha : a = ⟨((((((((((((((((a0.tmps.setIfInBounds 23 x23).setIfInBounds 24 x24).setIfInBounds 25 x25).setIfInBounds 26 x26).setIfInBounds 27 x27).setIfInBounds 28 x28).setIfInBounds 29 x29).setIfInBounds 30 x30).setIfInBounds 31 x31).setIfInBounds 32 x32).setIfInBounds 33 x33).setIfInBounds 34 x34).setIfInBounds 35 x35).setIfInBounds 36 x36).setIfInBounds 37 x37).setIfInBounds 38 x38), a0.defers⟩) (hb : Below B w0 w) (cd0 : Hid (b0 = true → x23 = .slice (some ⟨b, off, none⟩) n c)) (cd1 : Hid (b1 = true → x24 = .int .i64 (i : Nat))) (cd2 : Hid (b2 = true → x25 = .pointer (some ⟨b, off + i, none⟩))) (cd3 : Hid (b3 = true → x26 = .int .i64 x)) (cd4 : Hid (b4 = true → x27 = .int .i64 v)) (cd5 : Hid (b5 = true → x28 = .bool true)) (cd6 : Hid (b6 = true → x29 = .bool true)) (cd7 : Hid (b7 = true → x30 = .agg #[.slice tv tn tc, .slice mo mn mc])) (cd8 : Hid (b8 = true → x31 = .slice (some ⟨b, off, none⟩) n c)) (cd9 : Hid (b9 = true → x32 = .int .i64 (i : Nat))) (cd10 : Hid (b10 = true → x33 = .pointer (some ⟨b, off + i, none⟩))) (cd11 : Hid (b11 = true → x34 = .int .i64 x)) (cd12 : Hid (b12 = true → x35 = .slice fo fm fc)) (cd13 : Hid (b13 = true → x36 = .int .i64 s)) (cd14 : Hid (b14 = true → x37 = .bool true)) (cd15 : Hid (b15 = true → x38 = .bool true)) (f_f : Hid (b12 = true → FromIs w fo fm fc M T x)) : Victim8T B p tv tn tc mo mn mc b off n c i x v s T M a0 w0 L a w

/-- What stands while the region's operations come up. -/
inductive Victim8F (B : Nat) (p : Nat) (tv : Option Addr) (tn : Nat) (tc : Nat) (mo : Option Addr) (mn : Nat) (mc : Nat) (b : Nat) (off : Nat) (n : Nat) (c : Nat) (i : Nat) (x : Int) (v : Int) (s : Int) (T : List Hd) (M : List Hd) (a0 : Act) (w0 : World) (L : Array Bool) (a : Act) (w : World) : Prop
  | mk (b0 b1 b2 b3 b4 b5 b6 b7 b8 b9 b10 b11 b12 b13 b14 b15 : Bool) (x23 x24 x25 x26 x27 x28 x29 x30 x31 x32 x33 x34 x35 x36 x37 x38 : Value) (fo : Option Addr) (fm : Nat) (fc : Nat) (hL : L = #[b0, b1, b2, b3, b4, b5, b6, b7, b8, b9, b10, b11, b12, b13, b14, b15]) (ha : a = ⟨((((((((((((((((a0.tmps.setIfInBounds 23 x23).setIfInBounds 24 x24).setIfInBounds 25 x25).setIfInBounds 26 x26).setIfInBounds 27 x27).setIfInBounds 28 x28).setIfInBounds 29 x29).setIfInBounds 30 x30).setIfInBounds 31 x31).setIfInBounds 32 x32).setIfInBounds 33 x33).setIfInBounds 34 x34).setIfInBounds 35 x35).setIfInBounds 36 x36).setIfInBounds 37 x37).setIfInBounds 38 x38), a0.defers⟩) (hb : Below B w0 w) (cd0 : Hid (b0 = true → x23 = .slice (some ⟨b, off, none⟩) n c)) (cd1 : Hid (b1 = true → x24 = .int .i64 (i : Nat))) (cd2 : Hid (b2 = true → x25 = .pointer (some ⟨b, off + i, none⟩))) (cd3 : Hid (b3 = true → x26 = .int .i64 x)) (cd4 : Hid (b4 = true → x27 = .int .i64 v)) (cd5 : Hid (b5 = true → x28 = .bool true)) (cd6 : Hid (b6 = true → x29 = .bool true)) (cd7 : Hid (b7 = true → x30 = .agg #[.slice tv tn tc, .slice mo mn mc])) (cd8 : Hid (b8 = true → x31 = .slice (some ⟨b, off, none⟩) n c)) (cd9 : Hid (b9 = true → x32 = .int .i64 (i : Nat))) (cd10 : Hid (b10 = true → x33 = .pointer (some ⟨b, off + i, none⟩))) (cd11 : Hid (b11 = true → x34 = .int .i64 x)) (cd12 : Hid (b12 = true → x35 = .slice fo fm fc)) (cd13 : Hid (b13 = true → x36 = .int .i64 s)) (cd14 : Hid (b14 = true → x37 = .bool false)) (cd15 : Hid (b15 = true → x38 = .bool false)) (f_f : Hid (b12 = true → FromIs w fo fm fc M T x)) : Victim8F B p tv tn tc mo mn mc b off n c i x v s T M a0 w0 L a w

/-- What stands while the region's operations come up. -/
inductive Victim8N (B : Nat) (p : Nat) (tv : Option Addr) (tn : Nat) (tc : Nat) (mo : Option Addr) (mn : Nat) (mc : Nat) (b : Nat) (off : Nat) (n : Nat) (c : Nat) (i : Nat) (x : Int) (v : Int) (s : Int) (a0 : Act) (w0 : World) (L : Array Bool) (a : Act) (w : World) : Prop
  | mk (b0 b1 b2 b3 b4 b5 b6 b7 b8 b9 b10 b11 b12 b13 b14 b15 : Bool) (x23 x24 x25 x26 x27 x28 x29 x30 x31 x32 x33 x34 x35 x36 x37 x38 : Value) (hL : L = #[b0, b1, b2, b3, b4, b5, b6, b7, b8, b9, b10, b11, b12, b13, b14, b15]) (ha : a = ⟨((((((((((((((((a0.tmps.setIfInBounds 23 x23).setIfInBounds 24 x24).setIfInBounds 25 x25).setIfInBounds 26 x26).setIfInBounds 27 x27).setIfInBounds 28 x28).setIfInBounds 29 x29).setIfInBounds 30 x30).setIfInBounds 31 x31).setIfInBounds 32 x32).setIfInBounds 33 x33).setIfInBounds 34 x34).setIfInBounds 35 x35).setIfInBounds 36 x36).setIfInBounds 37 x37).setIfInBounds 38 x38), a0.defers⟩) (hb : Below B w0 w) (cd0 : Hid (b0 = true → x23 = .slice (some ⟨b, off, none⟩) n c)) (cd1 : Hid (b1 = true → x24 = .int .i64 (i : Nat))) (cd2 : Hid (b2 = true → x25 = .pointer (some ⟨b, off + i, none⟩))) (cd3 : Hid (b3 = true → x26 = .int .i64 x)) (cd4 : Hid (b4 = true → x27 = .int .i64 v)) (cd5 : Hid (b5 = true → x28 = .bool false)) (cd6 : Hid (b6 = true → x29 = .bool false)) (cd7 : Hid (b7 = true → x30 = undef)) (cd8 : Hid (b8 = true → x31 = undef)) (cd9 : Hid (b9 = true → x32 = undef)) (cd10 : Hid (b10 = true → x33 = undef)) (cd11 : Hid (b11 = true → x34 = undef)) (cd12 : Hid (b12 = true → x35 = undef)) (cd13 : Hid (b13 = true → x36 = undef)) (cd14 : Hid (b14 = true → x37 = undef)) (cd15 : Hid (b15 = true → x38 = .bool false)) : Victim8N B p tv tn tc mo mn mc b off n c i x v s a0 w0 L a w
set_option maxRecDepth 100000 in
set_option maxHeartbeats 4000000 in
theorem rvictim_any (w : World) (tv : Option Addr) (tn tc : Nat) (mo : Option Addr) (mn mc : Nat) (T M : List Hd) (h1 : IsR EHd w tv tn tc T) (h2 : IsR EHd w mo mn mc M) (htn : tn ≤ 10000) (hmn : mn ≤ 10000) (s : Int) :
    Calls Try.prog 59 #[.agg #[.slice tv tn tc, .slice mo mn mc], .int .i64 s] w fun e w' => VicPost T M s w w' e := by
  have X0 := LkB.new w tv tn tc mo mn mc 99
  have BA : Below w.heap.size w (w.alloc (.cells #[.slice tv tn tc, .slice mo mn mc] 99)) := (Below.refl _ _).alloc (Nat.le_refl _) _
  have hlT := h1.len
  go_enter Try.func59, Try.ntmps59
  go_upto_region 1 with fail
  have h1 := h1.past BA
  have h2 := h2.past BA
  generalize w.alloc (.cells #[.slice tv tn tc, .slice mo mn mc] 99) = W at X0 BA h1 h2 ⊢
  obtain ⟨p, hp⟩ : ∃ p, w.heap.size = p := ⟨_, rfl⟩
  have HP := Lib.hid hp
  rw [hp] at X0 BA
  simp only [hp]
  clear hp
  have hpW := X0.lt
  obtain ⟨c0, c1⟩ := X0.c
  have HFr0 := rfrom_any W tv tn tc mo mn mc T M h1 h2 htn hmn s
  go_upto_region 2 with (go_at_call 110; refine HFr0.mono ?_; rintro e w1 ⟨so, n, c, rfl, hFI, b1⟩)
  clear HFr0 c0 c1
  obtain ⟨L, hL, hIff0, hLl⟩ := hFI
  have hIff := Lib.hid hIff0
  clear hIff0
  have hln := hL.len
  have X1 := X0.past b1
  have h1 := h1.past b1
  have h2 := h2.past b1
  have B1 := BA.trans (b1.mono (Nat.le_of_lt hpW))
  have hp1 := X1.lt
  clear X0 BA b1
  have HI := rin_any w1 so n c L hL s
  by_cases hs : s ∈ L
  · rw [decide_eq_true hs] at HI
    have hs0 := (hIff.out s).1 hs
    have hs1 : Hid (Rch M T s s ∧ Rch M T s s ∧ ∀ y ∈ L.take 0, Rch M T y s → y ≤ s) := Lib.hid ⟨hs0, hs0, by simp⟩
    clear hs hs0
    go_upto_region 5 with (go_at_call 111; refine HI.mono ?_; rintro e w2 ⟨rfl, rfl⟩)
    have BW0 : Below w1.heap.size w1 w1 := Below.refl _ _
    go_wp2_with fail
    go_loopw [7, 8] (fun zv zi wr => ∃ (v : Int) (i : Nat), zv = .int .i64 v ∧ zi = .int .i64 (i : Nat) ∧ i ≤ n ∧ Hid (Rch M T s v ∧ Rch M T v s ∧ ∀ y ∈ L.take i, Rch M T y s → y ≤ v) ∧ Below w1.heap.size w1 wr) (fun _ zi _ => n - (intOf zi).toNat)
    case atStart => exact ⟨s, 0, rfl, rfl, by omega, hs1, BW0⟩
    case round =>
      clear hs1 BW0 HI
      obtain ⟨v, i, rfl, rfl, hi, hK, BW⟩ := hrel
      by_cases hlt : i < n
      · have hlti : (i : Int) < (n : Int) := by omega
        obtain ⟨x, hx⟩ : ∃ x, L[i]? = some x := ⟨L[i]'(by omega), List.getElem?_eq_getElem _⟩
        obtain ⟨b, off, rfl, hb, hc⟩ := (hL.past BW).open (by omega) (by decide)
        have ca : wr.cell? ⟨b, off + i, none⟩ = some (.int .i64 x) := hc i _ (by have := EI.all_get L i 0 x hx (by decide); simpa [EI] using this)
        have hxh := Lib.hid hx
        have hxL := Lib.hid (List.mem_of_getElem? hx)
        clear hc hx
        obtain ⟨c0, c1⟩ := (X1.past BW).c
        go_upto_region 8 with fail
        generalize wr = W7 at BW ca c0 c1 hb ⊢
        have hbB := hb
        have hpB : p < W7.heap.size := Nat.lt_of_lt_of_le hp1 BW.size
        have hB0 : W7.heap.size ≤ W7.heap.size := Nat.le_refl _
        by_cases hgt : v < x
        · have HFr := fun (w' : World) (hb : Below W7.heap.size W7.drew w') => rfrom_any w' tv tn tc mo mn mc T M ((((h1.past BW).past (Below.refl _ _).drew)).past hb) ((((h2.past BW).past (Below.refl _ _).drew)).past hb) htn hmn x
          obtain ⟨r, hr⟩ : ∃ r : Bool, r = true ↔ Rch M T x s := by
            by_cases q : Rch M T x s
            · exact ⟨true, by simp [q]⟩
            · exact ⟨false, by simp [q]⟩
          have HIn := fun w' fo fm fc => in_from w' fo fm fc M T x s r hr
          have hrh := Lib.hid hr
          clear hr
          cases r
          · skip
            refine region_inv (Victim8F W7.heap.size p tv tn tc mo mn mc b off n c i x v s T M) (by kernel_rfl) (by kernel_rfl) ?_ ?_ ?_
            · exact ⟨false, false, false, false, false, false, false, false, false, false, false, false, false, false, false, false, u23, u24, u25, u26, u27, u28, u29, u30, u31, u32, u33, u34, u35, u36, u37, u38, none, 0, 0, rfl, (by simp only [Act.put, List.setIfInBounds_toArray, List.set_cons_zero, List.set_cons_succ]), Below.refl _ _, (fun h => by cases h), (fun h => by cases h), (fun h => by cases h), (fun h => by cases h), (fun h => by cases h), (fun h => by cases h), (fun h => by cases h), (fun h => by cases h), (fun h => by cases h), (fun h => by cases h), (fun h => by cases h), (fun h => by cases h), (fun h => by cases h), (fun h => by cases h), (fun h => by cases h), (fun h => by cases h), (fun h => by cases h)⟩
            · refine ⟨?_, ?_, ?_, ?_, ?_, ?_, ?_, ?_, ?_, ?_, ?_, ?_, ?_, ?_, ?_, ?_, trivial⟩
              · rintro L a w ⟨b0, b1, b2, b3, b4, b5, b6, b7, b8, b9, b10, b11, b12, b13, b14, b15, x23, x24, x25, x26, x27, x28, x29, x30, x31, x32, x33, x34, x35, x36, x37, x38, fo, fm, fc, rfl, rfl, hb, cd0, cd1, cd2, cd3, cd4, cd5, cd6, cd7, cd8, cd9, cd10, cd11, cd12, cd13, cd14, cd15, f_f⟩ hf hd
                have hf' : b0 = false := hf
                subst hf'
                clear hf hd
                try simp only [List.setIfInBounds_toArray, List.set_cons_zero, List.set_cons_succ]
                intro K hK
                rw [if_pos (by rfl)]
                go_simp
                exact hK.out _ _ ⟨true, b1, b2, b3, b4, b5, b6, b7, b8, b9, b10, b11, b12, b13, b14, b15, (.slice (some ⟨b, off, none⟩) n c), x24, x25, x26, x27, x28, x29, x30, x31, x32, x33, x34, x35, x36, x37, x38, fo, fm, fc, (by simp only [Act.put, List.setIfInBounds_toArray, List.set_cons_zero, List.set_cons_succ]), (by simp only [Act.put, List.setIfInBounds_toArray, List.set_cons_zero, List.set_cons_succ]), hb, (fun _ => rfl), cd1, cd2, cd3, cd4, cd5, cd6, cd7, cd8, cd9, cd10, cd11, cd12, cd13, cd14, cd15, f_f⟩
              · rintro L a w ⟨b0, b1, b2, b3, b4, b5, b6, b7, b8, b9, b10, b11, b12, b13, b14, b15, x23, x24, x25, x26, x27, x28, x29, x30, x31, x32, x33, x34, x35, x36, x37, x38, fo, fm, fc, rfl, rfl, hb, cd0, cd1, cd2, cd3, cd4, cd5, cd6, cd7, cd8, cd9, cd10, cd11, cd12, cd13, cd14, cd15, f_f⟩ hf hd
                have hf' : b1 = false := hf
                subst hf'
                clear hf hd
                try simp only [List.setIfInBounds_toArray, List.set_cons_zero, List.set_cons_succ]
                intro K hK
                rw [if_pos (by rfl)]
                go_simp
                exact hK.out _ _ ⟨b0, true, b2, b3, b4, b5, b6, b7, b8, b9, b10, b11, b12, b13, b14, b15, x23, (.int .i64 (i : Nat)), x25, x26, x27, x28, x29, x30, x31, x32, x33, x34, x35, x36, x37, x38, fo, fm, fc, (by simp only [Act.put, List.setIfInBounds_toArray, List.set_cons_zero, List.set_cons_succ]), (by simp only [Act.put, List.setIfInBounds_toArray, List.set_cons_zero, List.set_cons_succ]), hb, cd0, (fun _ => rfl), cd2, cd3, cd4, cd5, cd6, cd7, cd8, cd9, cd10, cd11, cd12, cd13, cd14, cd15, f_f⟩
              · rintro L a w ⟨b0, b1, b2, b3, b4, b5, b6, b7, b8, b9, b10, b11, b12, b13, b14, b15, x23, x24, x25, x26, x27, x28, x29, x30, x31, x32, x33, x34, x35, x36, x37, x38, fo, fm, fc, rfl, rfl, hb, cd0, cd1, cd2, cd3, cd4, cd5, cd6, cd7, cd8, cd9, cd10, cd11, cd12, cd13, cd14, cd15, f_f⟩ hf hd
                have hf' : b2 = false := hf
                subst hf'
                have d0 : b0 = true := hd ⟨0, .data⟩ (by simp) rfl
                subst d0
                have d1 : b1 = true := hd ⟨1, .data⟩ (by simp) rfl
                subst d1
                obtain rfl := cd0.out rfl
                obtain rfl := cd1.out rfl
                clear hf hd
                try simp only [List.setIfInBounds_toArray, List.set_cons_zero, List.set_cons_succ]
                intro K hK
                rw [if_pos (by rfl)]
                go_simp
                exact hK.out _ _ ⟨true, true, true, b3, b4, b5, b6, b7, b8, b9, b10, b11, b12, b13, b14, b15, .slice (some ⟨b, off, none⟩) n c, .int .i64 (i : Nat), (.pointer (some ⟨b, off + i, none⟩)), x26, x27, x28, x29, x30, x31, x32, x33, x34, x35, x36, x37, x38, fo, fm, fc, (by simp only [Act.put, List.setIfInBounds_toArray, List.set_cons_zero, List.set_cons_succ]), (by simp only [Act.put, List.setIfInBounds_toArray, List.set_cons_zero, List.set_cons_succ]), hb, (fun _ => rfl), (fun _ => rfl), (fun _ => rfl), cd3, cd4, cd5, cd6, cd7, cd8, cd9, cd10, cd11, cd12, cd13, cd14, cd15, f_f⟩
              · rintro L a w ⟨b0, b1, b2, b3, b4, b5, b6, b7, b8, b9, b10, b11, b12, b13, b14, b15, x23, x24, x25, x26, x27, x28, x29, x30, x31, x32, x33, x34, x35, x36, x37, x38, fo, fm, fc, rfl, rfl, hb, cd0, cd1, cd2, cd3, cd4, cd5, cd6, cd7, cd8, cd9, cd10, cd11, cd12, cd13, cd14, cd15, f_f⟩ hf hd
                have hf' : b3 = false := hf
                subst hf'
                have d2 : b2 = true := hd ⟨2, .data⟩ (by simp) rfl
                subst d2
                obtain rfl := cd2.out rfl
                clear hf hd
                try simp only [List.setIfInBounds_toArray, List.set_cons_zero, List.set_cons_succ]
                have z0 := (hb.cell hbB).trans ca
                intro K hK
                rw [if_pos (by rfl)]
                go_simp
                exact hK.out _ _ ⟨b0, b1, true, true, b4, b5, b6, b7, b8, b9, b10, b11, b12, b13, b14, b15, x23, x24, .pointer (some ⟨b, off + i, none⟩), (.int .i64 x), x27, x28, x29, x30, x31, x32, x33, x34, x35, x36, x37, x38, fo, fm, fc, (by simp only [Act.put, List.setIfInBounds_toArray, List.set_cons_zero, List.set_cons_succ]), (by simp only [Act.put, List.setIfInBounds_toArray, List.set_cons_zero, List.set_cons_succ]), hb, cd0, cd1, (fun _ => rfl), (fun _ => rfl), cd4, cd5, cd6, cd7, cd8, cd9, cd10, cd11, cd12, cd13, cd14, cd15, f_f⟩
              · rintro L a w ⟨b0, b1, b2, b3, b4, b5, b6, b7, b8, b9, b10, b11, b12, b13, b14, b15, x23, x24, x25, x26, x27, x28, x29, x30, x31, x32, x33, x34, x35, x36, x37, x38, fo, fm, fc, rfl, rfl, hb, cd0, cd1, cd2, cd3, cd4, cd5, cd6, cd7, cd8, cd9, cd10, cd11, cd12, cd13, cd14, cd15, f_f⟩ hf hd
                have hf' : b4 = false := hf
                subst hf'
                clear hf hd
                try simp only [List.setIfInBounds_toArray, List.set_cons_zero, List.set_cons_succ]
                intro K hK
                rw [if_pos (by rfl)]
                go_simp
                exact hK.out _ _ ⟨b0, b1, b2, b3, true, b5, b6, b7, b8, b9, b10, b11, b12, b13, b14, b15, x23, x24, x25, x26, (.int .i64 v), x28, x29, x30, x31, x32, x33, x34, x35, x36, x37, x38, fo, fm, fc, (by simp only [Act.put, List.setIfInBounds_toArray, List.set_cons_zero, List.set_cons_succ]), (by simp only [Act.put, List.setIfInBounds_toArray, List.set_cons_zero, List.set_cons_succ]), hb, cd0, cd1, cd2, cd3, (fun _ => rfl), cd5, cd6, cd7, cd8, cd9, cd10, cd11, cd12, cd13, cd14, cd15, f_f⟩
              · rintro L a w ⟨b0, b1, b2, b3, b4, b5, b6, b7, b8, b9, b10, b11, b12, b13, b14, b15, x23, x24, x25, x26, x27, x28, x29, x30, x31, x32, x33, x34, x35, x36, x37, x38, fo, fm, fc, rfl, rfl, hb, cd0, cd1, cd2, cd3, cd4, cd5, cd6, cd7, cd8, cd9, cd10, cd11, cd12, cd13, cd14, cd15, f_f⟩ hf hd
                have hf' : b5 = false := hf
                subst hf'
                have d3 : b3 = true := hd ⟨3, .data⟩ (by simp) rfl
                subst d3
                have d4 : b4 = true := hd ⟨4, .data⟩ (by simp) rfl
                subst d4
                obtain rfl := cd3.out rfl
                obtain rfl := cd4.out rfl
                clear hf hd
                try simp only [List.setIfInBounds_toArray, List.set_cons_zero, List.set_cons_succ]
                intro K hK
                rw [if_pos (by rfl)]
                go_simp
                exact hK.out _ _ ⟨b0, b1, b2, true, true, true, b6, b7, b8, b9, b10, b11, b12, b13, b14, b15, x23, x24, x25, .int .i64 x, .int .i64 v, (.bool true), x29, x30, x31, x32, x33, x34, x35, x36, x37, x38, fo, fm, fc, (by simp only [Act.put, List.setIfInBounds_toArray, List.set_cons_zero, List.set_cons_succ]), (by simp only [Act.put, List.setIfInBounds_toArray, List.set_cons_zero, List.set_cons_succ]), hb, cd0, cd1, cd2, (fun _ => rfl), (fun _ => rfl), (fun _ => rfl), cd6, cd7, cd8, cd9, cd10, cd11, cd12, cd13, cd14, cd15, f_f⟩
              · rintro L a w ⟨b0, b1, b2, b3, b4, b5, b6, b7, b8, b9, b10, b11, b12, b13, b14, b15, x23, x24, x25, x26, x27, x28, x29, x30, x31, x32, x33, x34, x35, x36, x37, x38, fo, fm, fc, rfl, rfl, hb, cd0, cd1, cd2, cd3, cd4, cd5, cd6, cd7, cd8, cd9, cd10, cd11, cd12, cd13, cd14, cd15, f_f⟩ hf hd
                have hf' : b6 = false := hf
                subst hf'
                have d5 : b5 = true := hd ⟨5, .data⟩ (by simp) rfl
                subst d5
                obtain rfl := cd5.out rfl
                clear hf hd
                try simp only [List.setIfInBounds_toArray, List.set_cons_zero, List.set_cons_succ]
                intro K hK
                rw [if_pos (by rfl)]
                go_simp
                exact hK.out _ _ ⟨b0, b1, b2, b3, b4, true, true, b7, b8, b9, b10, b11, b12, b13, b14, b15, x23, x24, x25, x26, x27, .bool true, (.bool true), x30, x31, x32, x33, x34, x35, x36, x37, x38, fo, fm, fc, (by simp only [Act.put, List.setIfInBounds_toArray, List.set_cons_zero, List.set_cons_succ]), (by simp only [Act.put, List.setIfInBounds_toArray, List.set_cons_zero, List.set_cons_succ]), hb, cd0, cd1, cd2, cd3, cd4, (fun _ => rfl), (fun _ => rfl), cd7, cd8, cd9, cd10, cd11, cd12, cd13, cd14, cd15, f_f⟩
              · rintro L a w ⟨b0, b1, b2, b3, b4, b5, b6, b7, b8, b9, b10, b11, b12, b13, b14, b15, x23, x24, x25, x26, x27, x28, x29, x30, x31, x32, x33, x34, x35, x36, x37, x38, fo, fm, fc, rfl, rfl, hb, cd0, cd1, cd2, cd3, cd4, cd5, cd6, cd7, cd8, cd9, cd10, cd11, cd12, cd13, cd14, cd15, f_f⟩ hf hd
                have hf' : b7 = false := hf
                subst hf'
                have d6 : b6 = true := hd ⟨6, .guard⟩ (by simp) rfl
                subst d6
                obtain rfl := cd6.out rfl
                clear hf hd
                try simp only [List.setIfInBounds_toArray, List.set_cons_zero, List.set_cons_succ]
                have z0 := (hb.cell hpB).trans c0
                have z1 := (hb.cell hpB).trans c1
                intro K hK
                rw [if_pos (by rfl)]
                go_simp
                exact hK.out _ _ ⟨b0, b1, b2, b3, b4, b5, true, true, b8, b9, b10, b11, b12, b13, b14, b15, x23, x24, x25, x26, x27, x28, .bool true, (.agg #[.slice tv tn tc, .slice mo mn mc]), x31, x32, x33, x34, x35, x36, x37, x38, fo, fm, fc, (by simp only [Act.put, List.setIfInBounds_toArray, List.set_cons_zero, List.set_cons_succ]), (by simp only [Act.put, List.setIfInBounds_toArray, List.set_cons_zero, List.set_cons_succ]), hb, cd0, cd1, cd2, cd3, cd4, cd5, (fun _ => rfl), (fun _ => rfl), cd8, cd9, cd10, cd11, cd12, cd13, cd14, cd15, f_f⟩
              · rintro L a w ⟨b0, b1, b2, b3, b4, b5, b6, b7, b8, b9, b10, b11, b12, b13, b14, b15, x23, x24, x25, x26, x27, x28, x29, x30, x31, x32, x33, x34, x35, x36, x37, x38, fo, fm, fc, rfl, rfl, hb, cd0, cd1, cd2, cd3, cd4, cd5, cd6, cd7, cd8, cd9, cd10, cd11, cd12, cd13, cd14, cd15, f_f⟩ hf hd
                have hf' : b8 = false := hf
                subst hf'
                have d6 : b6 = true := hd ⟨6, .guard⟩ (by simp) rfl
                subst d6
                obtain rfl := cd6.out rfl
                clear hf hd
                try simp only [List.setIfInBounds_toArray, List.set_cons_zero, List.set_cons_succ]
                intro K hK
                rw [if_pos (by rfl)]
                go_simp
                exact hK.out _ _ ⟨b0, b1, b2, b3, b4, b5, true, b7, true, b9, b10, b11, b12, b13, b14, b15, x23, x24, x25, x26, x27, x28, .bool true, x30, (.slice (some ⟨b, off, none⟩) n c), x32, x33, x34, x35, x36, x37, x38, fo, fm, fc, (by simp only [Act.put, List.setIfInBounds_toArray, List.set_cons_zero, List.set_cons_succ]), (by simp only [Act.put, List.setIfInBounds_toArray, List.set_cons_zero, List.set_cons_succ]), hb, cd0, cd1, cd2, cd3, cd4, cd5, (fun _ => rfl), cd7, (fun _ => rfl), cd9, cd10, cd11, cd12, cd13, cd14, cd15, f_f⟩
              · rintro L a w ⟨b0, b1, b2, b3, b4, b5, b6, b7, b8, b9, b10, b11, b12, b13, b14, b15, x23, x24, x25, x26, x27, x28, x29, x30, x31, x32, x33, x34, x35, x36, x37, x38, fo, fm, fc, rfl, rfl, hb, cd0, cd1, cd2, cd3, cd4, cd5, cd6, cd7, cd8, cd9, cd10, cd11, cd12, cd13, cd14, cd15, f_f⟩ hf hd
                have hf' : b9 = false := hf
                subst hf'
                have d6 : b6 = true := hd ⟨6, .guard⟩ (by simp) rfl
                subst d6
                obtain rfl := cd6.out rfl
                clear hf hd
                try simp only [List.setIfInBounds_toArray, List.set_cons_zero, List.set_cons_succ]
                intro K hK
                rw [if_pos (by rfl)]
                go_simp
                exact hK.out _ _ ⟨b0, b1, b2, b3, b4, b5, true, b7, b8, true, b10, b11, b12, b13, b14, b15, x23, x24, x25, x26, x27, x28, .bool true, x30, x31, (.int .i64 (i : Nat)), x33, x34, x35, x36, x37, x38, fo, fm, fc, (by simp only [Act.put, List.setIfInBounds_toArray, List.set_cons_zero, List.set_cons_succ]), (by simp only [Act.put, List.setIfInBounds_toArray, List.set_cons_zero, List.set_cons_succ]), hb, cd0, cd1, cd2, cd3, cd4, cd5, (fun _ => rfl), cd7, cd8, (fun _ => rfl), cd10, cd11, cd12, cd13, cd14, cd15, f_f⟩
              · rintro L a w ⟨b0, b1, b2, b3, b4, b5, b6, b7, b8, b9, b10, b11, b12, b13, b14, b15, x23, x24, x25, x26, x27, x28, x29, x30, x31, x32, x33, x34, x35, x36, x37, x38, fo, fm, fc, rfl, rfl, hb, cd0, cd1, cd2, cd3, cd4, cd5, cd6, cd7, cd8, cd9, cd10, cd11, cd12, cd13, cd14, cd15, f_f⟩ hf hd
                have hf' : b10 = false := hf
                subst hf'
                have d8 : b8 = true := hd ⟨8, .data⟩ (by simp) rfl
                subst d8
                have d9 : b9 = true := hd ⟨9, .data⟩ (by simp) rfl
                subst d9
                have d6 : b6 = true := hd ⟨6, .guard⟩ (by simp) rfl
                subst d6
                obtain rfl := cd8.out rfl
                obtain rfl := cd9.out rfl
                obtain rfl := cd6.out rfl
                clear hf hd
                try simp only [List.setIfInBounds_toArray, List.set_cons_zero, List.set_cons_succ]
                intro K hK
                rw [if_pos (by rfl)]
                go_simp
                exact hK.out _ _ ⟨b0, b1, b2, b3, b4, b5, true, b7, true, true, true, b11, b12, b13, b14, b15, x23, x24, x25, x26, x27, x28, .bool true, x30, .slice (some ⟨b, off, none⟩) n c, .int .i64 (i : Nat), (.pointer (some ⟨b, off + i, none⟩)), x34, x35, x36, x37, x38, fo, fm, fc, (by simp only [Act.put, List.setIfInBounds_toArray, List.set_cons_zero, List.set_cons_succ]), (by simp only [Act.put, List.setIfInBounds_toArray, List.set_cons_zero, List.set_cons_succ]), hb, cd0, cd1, cd2, cd3, cd4, cd5, (fun _ => rfl), cd7, (fun _ => rfl), (fun _ => rfl), (fun _ => rfl), cd11, cd12, cd13, cd14, cd15, f_f⟩
              · rintro L a w ⟨b0, b1, b2, b3, b4, b5, b6, b7, b8, b9, b10, b11, b12, b13, b14, b15, x23, x24, x25, x26, x27, x28, x29, x30, x31, x32, x33, x34, x35, x36, x37, x38, fo, fm, fc, rfl, rfl, hb, cd0, cd1, cd2, cd3, cd4, cd5, cd6, cd7, cd8, cd9, cd10, cd11, cd12, cd13, cd14, cd15, f_f⟩ hf hd
                have hf' : b11 = false := hf
                subst hf'
                have d10 : b10 = true := hd ⟨10, .data⟩ (by simp) rfl
                subst d10
                have d6 : b6 = true := hd ⟨6, .guard⟩ (by simp) rfl
                subst d6
                obtain rfl := cd10.out rfl
                obtain rfl := cd6.out rfl
                clear hf hd
                try simp only [List.setIfInBounds_toArray, List.set_cons_zero, List.set_cons_succ]
                have z0 := (hb.cell hbB).trans ca
                intro K hK
                rw [if_pos (by rfl)]
                go_simp
                exact hK.out _ _ ⟨b0, b1, b2, b3, b4, b5, true, b7, b8, b9, true, true, b12, b13, b14, b15, x23, x24, x25, x26, x27, x28, .bool true, x30, x31, x32, .pointer (some ⟨b, off + i, none⟩), (.int .i64 x), x35, x36, x37, x38, fo, fm, fc, (by simp only [Act.put, List.setIfInBounds_toArray, List.set_cons_zero, List.set_cons_succ]), (by simp only [Act.put, List.setIfInBounds_toArray, List.set_cons_zero, List.set_cons_succ]), hb, cd0, cd1, cd2, cd3, cd4, cd5, (fun _ => rfl), cd7, cd8, cd9, (fun _ => rfl), (fun _ => rfl), cd12, cd13, cd14, cd15, f_f⟩
              · rintro L a w ⟨b0, b1, b2, b3, b4, b5, b6, b7, b8, b9, b10, b11, b12, b13, b14, b15, x23, x24, x25, x26, x27, x28, x29, x30, x31, x32, x33, x34, x35, x36, x37, x38, fo, fm, fc, rfl, rfl, hb, cd0, cd1, cd2, cd3, cd4, cd5, cd6, cd7, cd8, cd9, cd10, cd11, cd12, cd13, cd14, cd15, f_f⟩ hf hd
                have hf' : b12 = false := hf
                subst hf'
                have d7 : b7 = true := hd ⟨7, .data⟩ (by simp) rfl
                subst d7
                have d11 : b11 = true := hd ⟨11, .data⟩ (by simp) rfl
                subst d11
                have d6 : b6 = true := hd ⟨6, .chain⟩ (by simp) rfl
                subst d6
                obtain rfl := cd7.out rfl
                obtain rfl := cd11.out rfl
                obtain rfl := cd6.out rfl
                clear hf hd
                try simp only [List.setIfInBounds_toArray, List.set_cons_zero, List.set_cons_succ]
                intro K hK
                rw [if_pos (by rfl)]
                go_simp
                go_at_call 110
                refine (HFr _ hb).mono ?_
                rintro e w' ⟨fo3, fm3, fc3, rfl, r9, bx⟩
                exact hK.out _ _ ⟨b0, b1, b2, b3, b4, b5, true, true, b8, b9, b10, true, true, b13, b14, b15, x23, x24, x25, x26, x27, x28, .bool true, .agg #[.slice tv tn tc, .slice mo mn mc], x31, x32, x33, .int .i64 x, (.slice fo3 fm3 fc3), x36, x37, x38, fo3, fm3, fc3, (by simp only [Act.put, List.setIfInBounds_toArray, List.set_cons_zero, List.set_cons_succ]), (by simp only [Act.put, List.setIfInBounds_toArray, List.set_cons_zero, List.set_cons_succ]), hb.trans (bx.mono (Nat.le_trans hB0 hb.size)), cd0, cd1, cd2, cd3, cd4, cd5, (fun _ => rfl), (fun _ => rfl), cd8, cd9, cd10, (fun _ => rfl), (fun _ => rfl), cd13, cd14, cd15, (fun _ => r9)⟩
              · rintro L a w ⟨b0, b1, b2, b3, b4, b5, b6, b7, b8, b9, b10, b11, b12, b13, b14, b15, x23, x24, x25, x26, x27, x28, x29, x30, x31, x32, x33, x34, x35, x36, x37, x38, fo, fm, fc, rfl, rfl, hb, cd0, cd1, cd2, cd3, cd4, cd5, cd6, cd7, cd8, cd9, cd10, cd11, cd12, cd13, cd14, cd15, f_f⟩ hf hd
                have hf' : b13 = false := hf
                subst hf'
                have d6 : b6 = true := hd ⟨6, .guard⟩ (by simp) rfl
                subst d6
                obtain rfl := cd6.out rfl
                clear hf hd
                try simp only [List.setIfInBounds_toArray, List.set_cons_zero, List.set_cons_succ]
                intro K hK
                rw [if_pos (by rfl)]
                go_simp
                exact hK.out _ _ ⟨b0, b1, b2, b3, b4, b5, true, b7, b8, b9, b10, b11, b12, true, b14, b15, x23, x24, x25, x26, x27, x28, .bool true, x30, x31, x32, x33, x34, x35, (.int .i64 s), x37, x38, fo, fm, fc, (by simp only [Act.put, List.setIfInBounds_toArray, List.set_cons_zero, List.set_cons_succ]), (by simp only [Act.put, List.setIfInBounds_toArray, List.set_cons_zero, List.set_cons_succ]), hb, cd0, cd1, cd2, cd3, cd4, cd5, (fun _ => rfl), cd7, cd8, cd9, cd10, cd11, cd12, (fun _ => rfl), cd14, cd15, f_f⟩
              · rintro L a w ⟨b0, b1, b2, b3, b4, b5, b6, b7, b8, b9, b10, b11, b12, b13, b14, b15, x23, x24, x25, x26, x27, x28, x29, x30, x31, x32, x33, x34, x35, x36, x37, x38, fo, fm, fc, rfl, rfl, hb, cd0, cd1, cd2, cd3, cd4, cd5, cd6, cd7, cd8, cd9, cd10, cd11, cd12, cd13, cd14, cd15, f_f⟩ hf hd
                have hf' : b14 = false := hf
                subst hf'
                have d12 : b12 = true := hd ⟨12, .data⟩ (by simp) rfl
                subst d12
                have d13 : b13 = true := hd ⟨13, .data⟩ (by simp) rfl
                subst d13
                have d6 : b6 = true := hd ⟨6, .guard⟩ (by simp) rfl
                subst d6
                obtain rfl := cd12.out rfl
                obtain rfl := cd13.out rfl
                obtain rfl := cd6.out rfl
                clear hf hd
                have W_f := f_f.out rfl
                try simp only [List.setIfInBounds_toArray, List.set_cons_zero, List.set_cons_succ]
                intro K hK
                rw [if_pos (by rfl)]
                go_simp
                go_at_call 111
                refine (HIn _ _ _ _ W_f).mono ?_
                rintro e w' ⟨rfl, rfl⟩
                exact hK.out _ _ ⟨b0, b1, b2, b3, b4, b5, true, b7, b8, b9, b10, b11, true, true, true, b15, x23, x24, x25, x26, x27, x28, .bool true, x30, x31, x32, x33, x34, .slice fo fm fc, .int .i64 s, (.bool false), x38, fo, fm, fc, (by simp only [Act.put, List.setIfInBounds_toArray, List.set_cons_zero, List.set_cons_succ]), (by simp only [Act.put, List.setIfInBounds_toArray, List.set_cons_zero, List.set_cons_succ]), hb, cd0, cd1, cd2, cd3, cd4, cd5, (fun _ => rfl), cd7, cd8, cd9, cd10, cd11, (fun _ => rfl), (fun _ => rfl), (fun _ => rfl), cd15, f_f⟩
              · rintro L a w ⟨b0, b1, b2, b3, b4, b5, b6, b7, b8, b9, b10, b11, b12, b13, b14, b15, x23, x24, x25, x26, x27, x28, x29, x30, x31, x32, x33, x34, x35, x36, x37, x38, fo, fm, fc, rfl, rfl, hb, cd0, cd1, cd2, cd3, cd4, cd5, cd6, cd7, cd8, cd9, cd10, cd11, cd12, cd13, cd14, cd15, f_f⟩ hf hd
                have hf' : b15 = false := hf
                subst hf'
                have d6 : b6 = true := hd ⟨6, .data⟩ (by simp) rfl
                subst d6
                have d14 : b14 = true := hd ⟨14, .data⟩ (by simp) rfl
                subst d14
                obtain rfl := cd6.out rfl
                obtain rfl := cd14.out rfl
                clear hf hd
                try simp only [List.setIfInBounds_toArray, List.set_cons_zero, List.set_cons_succ]
                intro K hK
                rw [if_pos (by rfl)]
                go_simp
                exact hK.out _ _ ⟨b0, b1, b2, b3, b4, b5, true, b7, b8, b9, b10, b11, b12, b13, true, true, x23, x24, x25, x26, x27, x28, .bool true, x30, x31, x32, x33, x34, x35, x36, .bool false, (.bool false), fo, fm, fc, (by simp only [Act.put, List.setIfInBounds_toArray, List.set_cons_zero, List.set_cons_succ]), (by simp only [Act.put, List.setIfInBounds_toArray, List.set_cons_zero, List.set_cons_succ]), hb, cd0, cd1, cd2, cd3, cd4, cd5, (fun _ => rfl), cd7, cd8, cd9, cd10, cd11, cd12, cd13, (fun _ => rfl), (fun _ => rfl), f_f⟩
            · rintro act V ⟨b0, b1, b2, b3, b4, b5, b6, b7, b8, b9, b10, b11, b12, b13, b14, b15, x23, x24, x25, x26, x27, x28, x29, x30, x31, x32, x33, x34, x35, x36, x37, x38, fo, fm, fc, hL, rfl, hb, cd0, cd1, cd2, cd3, cd4, cd5, cd6, cd7, cd8, cd9, cd10, cd11, cd12, cd13, cd14, cd15, f_f⟩
              have hL' : [true, true, true, true, true, true, true, true, true, true, true, true, true, true, true, true] = [b0, b1, b2, b3, b4, b5, b6, b7, b8, b9, b10, b11, b12, b13, b14, b15] := congrArg Array.toList hL
              simp only [List.cons.injEq, and_true] at hL'
              obtain ⟨rfl, rfl, rfl, rfl, rfl, rfl, rfl, rfl, rfl, rfl, rfl, rfl, rfl, rfl, rfl, rfl⟩ := hL'
              obtain rfl := cd0.out rfl
              obtain rfl := cd1.out rfl
              obtain rfl := cd2.out rfl
              obtain rfl := cd3.out rfl
              obtain rfl := cd4.out rfl
              obtain rfl := cd5.out rfl
              obtain rfl := cd6.out rfl
              obtain rfl := cd7.out rfl
              obtain rfl := cd8.out rfl
              obtain rfl := cd9.out rfl
              obtain rfl := cd10.out rfl
              obtain rfl := cd11.out rfl
              obtain rfl := cd12.out rfl
              obtain rfl := cd13.out rfl
              obtain rfl := cd14.out rfl
              obtain rfl := cd15.out rfl
              have W_f := f_f.out rfl
              clear hL f_f cd0 cd1 cd2 cd3 cd4 cd5 cd6 cd7 cd8 cd9 cd10 cd11 cd12 cd13 cd14 cd15
              simp only [List.setIfInBounds_toArray, List.set_cons_zero, List.set_cons_succ]
              have BV := BW.trans (((Below.refl _ _).drew.trans hb).mono BW.size)
              have ca2 : V.cell? ⟨b, off + i, none⟩ = some (.int .i64 x) := (((Below.refl _ _).drew.trans hb).cell hbB).trans ca
              have hK2 : Hid (Rch M T s v ∧ Rch M T v s ∧ ∀ y ∈ L.take (i + 1), Rch M T y s → y ≤ v) := Lib.hid ⟨hK.out.1, hK.out.2.1, take_all_i hK.out.2.2 hxh.out (fun e => absurd (hrh.out.2 e) (by simp))⟩
              clear hb hK hxh ca2 hrh
              go_wp2_with fail
              go_roundw
              case rel => exact ⟨v, i + 1, rfl, by go_num, by omega, hK2, BV⟩
              case measure => simp [intOf]; omega
          · skip
            refine region_inv (Victim8T W7.heap.size p tv tn tc mo mn mc b off n c i x v s T M) (by kernel_rfl) (by kernel_rfl) ?_ ?_ ?_
            · exact ⟨false, false, false, false, false, false, false, false, false, false, false, false, false, false, false, false, u23, u24, u25, u26, u27, u28, u29, u30, u31, u32, u33, u34, u35, u36, u37, u38, none, 0, 0, rfl, (by simp only [Act.put, List.setIfInBounds_toArray, List.set_cons_zero, List.set_cons_succ]), Below.refl _ _, (fun h => by cases h), (fun h => by cases h), (fun h => by cases h), (fun h => by cases h), (fun h => by cases h), (fun h => by cases h), (fun h => by cases h), (fun h => by cases h), (fun h => by cases h), (fun h => by cases h), (fun h => by cases h), (fun h => by cases h), (fun h => by cases h), (fun h => by cases h), (fun h => by cases h), (fun h => by cases h), (fun h => by cases h)⟩
            · refine ⟨?_, ?_, ?_, ?_, ?_, ?_, ?_, ?_, ?_, ?_, ?_, ?_, ?_, ?_, ?_, ?_, trivial⟩
              · rintro L a w ⟨b0, b1, b2, b3, b4, b5, b6, b7, b8, b9, b10, b11, b12, b13, b14, b15, x23, x24, x25, x26, x27, x28, x29, x30, x31, x32, x33, x34, x35, x36, x37, x38, fo, fm, fc, rfl, rfl, hb, cd0, cd1, cd2, cd3, cd4, cd5, cd6, cd7, cd8, cd9, cd10, cd11, cd12, cd13, cd14, cd15, f_f⟩ hf hd
                have hf' : b0 = false := hf
                subst hf'
                clear hf hd
                try simp only [List.setIfInBounds_toArray, List.set_cons_zero, List.set_cons_succ]
                intro K hK
                rw [if_pos (by rfl)]
                go_simp
                exact hK.out _ _ ⟨true, b1, b2, b3, b4, b5, b6, b7, b8, b9, b10, b11, b12, b13, b14, b15, (.slice (some ⟨b, off, none⟩) n c), x24, x25, x26, x27, x28, x29, x30, x31, x32, x33, x34, x35, x36, x37, x38, fo, fm, fc, (by simp only [Act.put, List.setIfInBounds_toArray, List.set_cons_zero, List.set_cons_succ]), (by simp only [Act.put, List.setIfInBounds_toArray, List.set_cons_zero, List.set_cons_succ]), hb, (fun _ => rfl), cd1, cd2, cd3, cd4, cd5, cd6, cd7, cd8, cd9, cd10, cd11, cd12, cd13, cd14, cd15, f_f⟩
              · rintro L a w ⟨b0, b1, b2, b3, b4, b5, b6, b7, b8, b9, b10, b11, b12, b13, b14, b15, x23, x24, x25, x26, x27, x28, x29, x30, x31, x32, x33, x34, x35, x36, x37, x38, fo, fm, fc, rfl, rfl, hb, cd0, cd1, cd2, cd3, cd4, cd5, cd6, cd7, cd8, cd9, cd10, cd11, cd12, cd13, cd14, cd15, f_f⟩ hf hd
                have hf' : b1 = false := hf
                subst hf'
                clear hf hd
                try simp only [List.setIfInBounds_toArray, List.set_cons_zero, List.set_cons_succ]
                intro K hK
                rw [if_pos (by rfl)]
                go_simp
                exact hK.out _ _ ⟨b0, true, b2, b3, b4, b5, b6, b7, b8, b9, b10, b11, b12, b13, b14, b15, x23, (.int .i64 (i : Nat)), x25, x26, x27, x28, x29, x30, x31, x32, x33, x34, x35, x36, x37, x38, fo, fm, fc, (by simp only [Act.put, List.setIfInBounds_toArray, List.set_cons_zero, List.set_cons_succ]), (by simp only [Act.put, List.setIfInBounds_toArray, List.set_cons_zero, List.set_cons_succ]), hb, cd0, (fun _ => rfl), cd2, cd3, cd4, cd5, cd6, cd7, cd8, cd9, cd10, cd11, cd12, cd13, cd14, cd15, f_f⟩
              · rintro L a w ⟨b0, b1, b2, b3, b4, b5, b6, b7, b8, b9, b10, b11, b12, b13, b14, b15, x23, x24, x25, x26, x27, x28, x29, x30, x31, x32, x33, x34, x35, x36, x37, x38, fo, fm, fc, rfl, rfl, hb, cd0, cd1, cd2, cd3, cd4, cd5, cd6, cd7, cd8, cd9, cd10, cd11, cd12, cd13, cd14, cd15, f_f⟩ hf hd
                have hf' : b2 = false := hf
                subst hf'
                have d0 : b0 = true := hd ⟨0, .data⟩ (by simp) rfl
                subst d0
                have d1 : b1 = true := hd ⟨1, .data⟩ (by simp) rfl
                subst d1
                obtain rfl := cd0.out rfl
                obtain rfl := cd1.out rfl
                clear hf hd
                try simp only [List.setIfInBounds_toArray, List.set_cons_zero, List.set_cons_succ]
                intro K hK
                rw [if_pos (by rfl)]
                go_simp
                exact hK.out _ _ ⟨true, true, true, b3, b4, b5, b6, b7, b8, b9, b10, b11, b12, b13, b14, b15, .slice (some ⟨b, off, none⟩) n c, .int .i64 (i : Nat), (.pointer (some ⟨b, off + i, none⟩)), x26, x27, x28, x29, x30, x31, x32, x33, x34, x35, x36, x37, x38, fo, fm, fc, (by simp only [Act.put, List.setIfInBounds_toArray, List.set_cons_zero, List.set_cons_succ]), (by simp only [Act.put, List.setIfInBounds_toArray, List.set_cons_zero, List.set_cons_succ]), hb, (fun _ => rfl), (fun _ => rfl), (fun _ => rfl), cd3, cd4, cd5, cd6, cd7, cd8, cd9, cd10, cd11, cd12, cd13, cd14, cd15, f_f⟩
              · rintro L a w ⟨b0, b1, b2, b3, b4, b5, b6, b7, b8, b9, b10, b11, b12, b13, b14, b15, x23, x24, x25, x26, x27, x28, x29, x30, x31, x32, x33, x34, x35, x36, x37, x38, fo, fm, fc, rfl, rfl, hb, cd0, cd1, cd2, cd3, cd4, cd5, cd6, cd7, cd8, cd9, cd10, cd11, cd12, cd13, cd14, cd15, f_f⟩ hf hd
                have hf' : b3 = false := hf
                subst hf'
                have d2 : b2 = true := hd ⟨2, .data⟩ (by simp) rfl
                subst d2
                obtain rfl := cd2.out rfl
                clear hf hd
                try simp only [List.setIfInBounds_toArray, List.set_cons_zero, List.set_cons_succ]
                have z0 := (hb.cell hbB).trans ca
                intro K hK
                rw [if_pos (by rfl)]
                go_simp
                exact hK.out _ _ ⟨b0, b1, true, true, b4, b5, b6, b7, b8, b9, b10, b11, b12, b13, b14, b15, x23, x24, .pointer (some ⟨b, off + i, none⟩), (.int .i64 x), x27, x28, x29, x30, x31, x32, x33, x34, x35, x36, x37, x38, fo, fm, fc, (by simp only [Act.put, List.setIfInBounds_toArray, List.set_cons_zero, List.set_cons_succ]), (by simp only [Act.put, List.setIfInBounds_toArray, List.set_cons_zero, List.set_cons_succ]), hb, cd0, cd1, (fun _ => rfl), (fun _ => rfl), cd4, cd5, cd6, cd7, cd8, cd9, cd10, cd11, cd12, cd13, cd14, cd15, f_f⟩
              · rintro L a w ⟨b0, b1, b2, b3, b4, b5, b6, b7, b8, b9, b10, b11, b12, b13, b14, b15, x23, x24, x25, x26, x27, x28, x29, x30, x31, x32, x33, x34, x35, x36, x37, x38, fo, fm, fc, rfl, rfl, hb, cd0, cd1, cd2, cd3, cd4, cd5, cd6, cd7, cd8, cd9, cd10, cd11, cd12, cd13, cd14, cd15, f_f⟩ hf hd
                have hf' : b4 = false := hf
                subst hf'
                clear hf hd
                try simp only [List.setIfInBounds_toArray, List.set_cons_zero, List.set_cons_succ]
                intro K hK
                rw [if_pos (by rfl)]
                go_simp
                exact hK.out _ _ ⟨b0, b1, b2, b3, true, b5, b6, b7, b8, b9, b10, b11, b12, b13, b14, b15, x23, x24, x25, x26, (.int .i64 v), x28, x29, x30, x31, x32, x33, x34, x35, x36, x37, x38, fo, fm, fc, (by simp only [Act.put, List.setIfInBounds_toArray, List.set_cons_zero, List.set_cons_succ]), (by simp only [Act.put, List.setIfInBounds_toArray, List.set_cons_zero, List.set_cons_succ]), hb, cd0, cd1, cd2, cd3, (fun _ => rfl), cd5, cd6, cd7, cd8, cd9, cd10, cd11, cd12, cd13, cd14, cd15, f_f⟩
              · rintro L a w ⟨b0, b1, b2, b3, b4, b5, b6, b7, b8, b9, b10, b11, b12, b13, b14, b15, x23, x24, x25, x26, x27, x28, x29, x30, x31, x32, x33, x34, x35, x36, x37, x38, fo, fm, fc, rfl, rfl, hb, cd0, cd1, cd2, cd3, cd4, cd5, cd6, cd7, cd8, cd9, cd10, cd11, cd12, cd13, cd14, cd15, f_f⟩ hf hd
                have hf' : b5 = false := hf
                subst hf'
                have d3 : b3 = true := hd ⟨3, .data⟩ (by simp) rfl
                subst d3
                have d4 : b4 = true := hd ⟨4, .data⟩ (by simp) rfl
                subst d4
                obtain rfl := cd3.out rfl
                obtain rfl := cd4.out rfl
                clear hf hd
                try simp only [List.setIfInBounds_toArray, List.set_cons_zero, List.set_cons_succ]
                intro K hK
                rw [if_pos (by rfl)]
                go_simp
                exact hK.out _ _ ⟨b0, b1, b2, true, true, true, b6, b7, b8, b9, b10, b11, b12, b13, b14, b15, x23, x24, x25, .int .i64 x, .int .i64 v, (.bool true), x29, x30, x31, x32, x33, x34, x35, x36, x37, x38, fo, fm, fc, (by simp only [Act.put, List.setIfInBounds_toArray, List.set_cons_zero, List.set_cons_succ]), (by simp only [Act.put, List.setIfInBounds_toArray, List.set_cons_zero, List.set_cons_succ]), hb, cd0, cd1, cd2, (fun _ => rfl), (fun _ => rfl), (fun _ => rfl), cd6, cd7, cd8, cd9, cd10, cd11, cd12, cd13, cd14, cd15, f_f⟩
              · rintro L a w ⟨b0, b1, b2, b3, b4, b5, b6, b7, b8, b9, b10, b11, b12, b13, b14, b15, x23, x24, x25, x26, x27, x28, x29, x30, x31, x32, x33, x34, x35, x36, x37, x38, fo, fm, fc, rfl, rfl, hb, cd0, cd1, cd2, cd3, cd4, cd5, cd6, cd7, cd8, cd9, cd10, cd11, cd12, cd13, cd14, cd15, f_f⟩ hf hd
                have hf' : b6 = false := hf
                subst hf'
                have d5 : b5 = true := hd ⟨5, .data⟩ (by simp) rfl
                subst d5
                obtain rfl := cd5.out rfl
                clear hf hd
                try simp only [List.setIfInBounds_toArray, List.set_cons_zero, List.set_cons_succ]
                intro K hK
                rw [if_pos (by rfl)]
                go_simp
                exact hK.out _ _ ⟨b0, b1, b2, b3, b4, true, true, b7, b8, b9, b10, b11, b12, b13, b14, b15, x23, x24, x25, x26, x27, .bool true, (.bool true), x30, x31, x32, x33, x34, x35, x36, x37, x38, fo, fm, fc, (by simp only [Act.put, List.setIfInBounds_toArray, List.set_cons_zero, List.set_cons_succ]), (by simp only [Act.put, List.setIfInBounds_toArray, List.set_cons_zero, List.set_cons_succ]), hb, cd0, cd1, cd2, cd3, cd4, (fun _ => rfl), (fun _ => rfl), cd7, cd8, cd9, cd10, cd11, cd12, cd13, cd14, cd15, f_f⟩
              · rintro L a w ⟨b0, b1, b2, b3, b4, b5, b6, b7, b8, b9, b10, b11, b12, b13, b14, b15, x23, x24, x25, x26, x27, x28, x29, x30, x31, x32, x33, x34, x35, x36, x37, x38, fo, fm, fc, rfl, rfl, hb, cd0, cd1, cd2, cd3, cd4, cd5, cd6, cd7, cd8, cd9, cd10, cd11, cd12, cd13, cd14, cd15, f_f⟩ hf hd
                have hf' : b7 = false := hf
                subst hf'
                have d6 : b6 = true := hd ⟨6, .guard⟩ (by simp) rfl
                subst d6
                obtain rfl := cd6.out rfl
                clear hf hd
                try simp only [List.setIfInBounds_toArray, List.set_cons_zero, List.set_cons_succ]
                have z0 := (hb.cell hpB).trans c0
                have z1 := (hb.cell hpB).trans c1
                intro K hK
                rw [if_pos (by rfl)]
                go_simp
                exact hK.out _ _ ⟨b0, b1, b2, b3, b4, b5, true, true, b8, b9, b10, b11, b12, b13, b14, b15, x23, x24, x25, x26, x27, x28, .bool true, (.agg #[.slice tv tn tc, .slice mo mn mc]), x31, x32, x33, x34, x35, x36, x37, x38, fo, fm, fc, (by simp only [Act.put, List.setIfInBounds_toArray, List.set_cons_zero, List.set_cons_succ]), (by simp only [Act.put, List.setIfInBounds_toArray, List.set_cons_zero, List.set_cons_succ]), hb, cd0, cd1, cd2, cd3, cd4, cd5, (fun _ => rfl), (fun _ => rfl), cd8, cd9, cd10, cd11, cd12, cd13, cd14, cd15, f_f⟩
              · rintro L a w ⟨b0, b1, b2, b3, b4, b5, b6, b7, b8, b9, b10, b11, b12, b13, b14, b15, x23, x24, x25, x26, x27, x28, x29, x30, x31, x32, x33, x34, x35, x36, x37, x38, fo, fm, fc, rfl, rfl, hb, cd0, cd1, cd2, cd3, cd4, cd5, cd6, cd7, cd8, cd9, cd10, cd11, cd12, cd13, cd14, cd15, f_f⟩ hf hd
                have hf' : b8 = false := hf
                subst hf'
                have d6 : b6 = true := hd ⟨6, .guard⟩ (by simp) rfl
                subst d6
                obtain rfl := cd6.out rfl
                clear hf hd
                try simp only [List.setIfInBounds_toArray, List.set_cons_zero, List.set_cons_succ]
                intro K hK
                rw [if_pos (by rfl)]
                go_simp
                exact hK.out _ _ ⟨b0, b1, b2, b3, b4, b5, true, b7, true, b9, b10, b11, b12, b13, b14, b15, x23, x24, x25, x26, x27, x28, .bool true, x30, (.slice (some ⟨b, off, none⟩) n c), x32, x33, x34, x35, x36, x37, x38, fo, fm, fc, (by simp only [Act.put, List.setIfInBounds_toArray, List.set_cons_zero, List.set_cons_succ]), (by simp only [Act.put, List.setIfInBounds_toArray, List.set_cons_zero, List.set_cons_succ]), hb, cd0, cd1, cd2, cd3, cd4, cd5, (fun _ => rfl), cd7, (fun _ => rfl), cd9, cd10, cd11, cd12, cd13, cd14, cd15, f_f⟩
              · rintro L a w ⟨b0, b1, b2, b3, b4, b5, b6, b7, b8, b9, b10, b11, b12, b13, b14, b15, x23, x24, x25, x26, x27, x28, x29, x30, x31, x32, x33, x34, x35, x36, x37, x38, fo, fm, fc, rfl, rfl, hb, cd0, cd1, cd2, cd3, cd4, cd5, cd6, cd7, cd8, cd9, cd10, cd11, cd12, cd13, cd14, cd15, f_f⟩ hf hd
                have hf' : b9 = false := hf
                subst hf'
                have d6 : b6 = true := hd ⟨6, .guard⟩ (by simp) rfl
                subst d6
                obtain rfl := cd6.out rfl
                clear hf hd
                try simp only [List.setIfInBounds_toArray, List.set_cons_zero, List.set_cons_succ]
                intro K hK
                rw [if_pos (by rfl)]
                go_simp
                exact hK.out _ _ ⟨b0, b1, b2, b3, b4, b5, true, b7, b8, true, b10, b11, b12, b13, b14, b15, x23, x24, x25, x26, x27, x28, .bool true, x30, x31, (.int .i64 (i : Nat)), x33, x34, x35, x36, x37, x38, fo, fm, fc, (by simp only [Act.put, List.setIfInBounds_toArray, List.set_cons_zero, List.set_cons_succ]), (by simp only [Act.put, List.setIfInBounds_toArray, List.set_cons_zero, List.set_cons_succ]), hb, cd0, cd1, cd2, cd3, cd4, cd5, (fun _ => rfl), cd7, cd8, (fun _ => rfl), cd10, cd11, cd12, cd13, cd14, cd15, f_f⟩
              · rintro L a w ⟨b0, b1, b2, b3, b4, b5, b6, b7, b8, b9, b10, b11, b12, b13, b14, b15, x23, x24, x25, x26, x27, x28, x29, x30, x31, x32, x33, x34, x35, x36, x37, x38, fo, fm, fc, rfl, rfl, hb, cd0, cd1, cd2, cd3, cd4, cd5, cd6, cd7, cd8, cd9, cd10, cd11, cd12, cd13, cd14, cd15, f_f⟩ hf hd
                have hf' : b10 = false := hf
                subst hf'
                have d8 : b8 = true := hd ⟨8, .data⟩ (by simp) rfl
                subst d8
                have d9 : b9 = true := hd ⟨9, .data⟩ (by simp) rfl
                subst d9
                have d6 : b6 = true := hd ⟨6, .guard⟩ (by simp) rfl
                subst d6
                obtain rfl := cd8.out rfl
                obtain rfl := cd9.out rfl
                obtain rfl := cd6.out rfl
                clear hf hd
                try simp only [List.setIfInBounds_toArray, List.set_cons_zero, List.set_cons_succ]
                intro K hK
                rw [if_pos (by rfl)]
                go_simp
                exact hK.out _ _ ⟨b0, b1, b2, b3, b4, b5, true, b7, true, true, true, b11, b12, b13, b14, b15, x23, x24, x25, x26, x27, x28, .bool true, x30, .slice (some ⟨b, off, none⟩) n c, .int .i64 (i : Nat), (.pointer (some ⟨b, off + i, none⟩)), x34, x35, x36, x37, x38, fo, fm, fc, (by simp only [Act.put, List.setIfInBounds_toArray, List.set_cons_zero, List.set_cons_succ]), (by simp only [Act.put, List.setIfInBounds_toArray, List.set_cons_zero, List.set_cons_succ]), hb, cd0, cd1, cd2, cd3, cd4, cd5, (fun _ => rfl), cd7, (fun _ => rfl), (fun _ => rfl), (fun _ => rfl), cd11, cd12, cd13, cd14, cd15, f_f⟩
              · rintro L a w ⟨b0, b1, b2, b3, b4, b5, b6, b7, b8, b9, b10, b11, b12, b13, b14, b15, x23, x24, x25, x26, x27, x28, x29, x30, x31, x32, x33, x34, x35, x36, x37, x38, fo, fm, fc, rfl, rfl, hb, cd0, cd1, cd2, cd3, cd4, cd5, cd6, cd7, cd8, cd9, cd10, cd11, cd12, cd13, cd14, cd15, f_f⟩ hf hd
                have hf' : b11 = false := hf
                subst hf'
                have d10 : b10 = true := hd ⟨10, .data⟩ (by simp) rfl
                subst d10
                have d6 : b6 = true := hd ⟨6, .guard⟩ (by simp) rfl
                subst d6
                obtain rfl := cd10.out rfl
                obtain rfl := cd6.out rfl
                clear hf hd
                try simp only [List.setIfInBounds_toArray, List.set_cons_zero, List.set_cons_succ]
                have z0 := (hb.cell hbB).trans ca
                intro K hK
                rw [if_pos (by rfl)]
                go_simp
                exact hK.out _ _ ⟨b0, b1, b2, b3, b4, b5, true, b7, b8, b9, true, true, b12, b13, b14, b15, x23, x24, x25, x26, x27, x28, .bool true, x30, x31, x32, .pointer (some ⟨b, off + i, none⟩), (.int .i64 x), x35, x36, x37, x38, fo, fm, fc, (by simp only [Act.put, List.setIfInBounds_toArray, List.set_cons_zero, List.set_cons_succ]), (by simp only [Act.put, List.setIfInBounds_toArray, List.set_cons_zero, List.set_cons_succ]), hb, cd0, cd1, cd2, cd3, cd4, cd5, (fun _ => rfl), cd7, cd8, cd9, (fun _ => rfl), (fun _ => rfl), cd12, cd13, cd14, cd15, f_f⟩
              · rintro L a w ⟨b0, b1, b2, b3, b4, b5, b6, b7, b8, b9, b10, b11, b12, b13, b14, b15, x23, x24, x25, x26, x27, x28, x29, x30, x31, x32, x33, x34, x35, x36, x37, x38, fo, fm, fc, rfl, rfl, hb, cd0, cd1, cd2, cd3, cd4, cd5, cd6, cd7, cd8, cd9, cd10, cd11, cd12, cd13, cd14, cd15, f_f⟩ hf hd
                have hf' : b12 = false := hf
                subst hf'
                have d7 : b7 = true := hd ⟨7, .data⟩ (by simp) rfl
                subst d7
                have d11 : b11 = true := hd ⟨11, .data⟩ (by simp) rfl
                subst d11
                have d6 : b6 = true := hd ⟨6, .chain⟩ (by simp) rfl
                subst d6
                obtain rfl := cd7.out rfl
                obtain rfl := cd11.out rfl
                obtain rfl := cd6.out rfl
                clear hf hd
                try simp only [List.setIfInBounds_toArray, List.set_cons_zero, List.set_cons_succ]
                intro K hK
                rw [if_pos (by rfl)]
                go_simp
                go_at_call 110
                refine (HFr _ hb).mono ?_
                rintro e w' ⟨fo3, fm3, fc3, rfl, r9, bx⟩
                exact hK.out _ _ ⟨b0, b1, b2, b3, b4, b5, true, true, b8, b9, b10, true, true, b13, b14, b15, x23, x24, x25, x26, x27, x28, .bool true, .agg #[.slice tv tn tc, .slice mo mn mc], x31, x32, x33, .int .i64 x, (.slice fo3 fm3 fc3), x36, x37, x38, fo3, fm3, fc3, (by simp only [Act.put, List.setIfInBounds_toArray, List.set_cons_zero, List.set_cons_succ]), (by simp only [Act.put, List.setIfInBounds_toArray, List.set_cons_zero, List.set_cons_succ]), hb.trans (bx.mono (Nat.le_trans hB0 hb.size)), cd0, cd1, cd2, cd3, cd4, cd5, (fun _ => rfl), (fun _ => rfl), cd8, cd9, cd10, (fun _ => rfl), (fun _ => rfl), cd13, cd14, cd15, (fun _ => r9)⟩
              · rintro L a w ⟨b0, b1, b2, b3, b4, b5, b6, b7, b8, b9, b10, b11, b12, b13, b14, b15, x23, x24, x25, x26, x27, x28, x29, x30, x31, x32, x33, x34, x35, x36, x37, x38, fo, fm, fc, rfl, rfl, hb, cd0, cd1, cd2, cd3, cd4, cd5, cd6, cd7, cd8, cd9, cd10, cd11, cd12, cd13, cd14, cd15, f_f⟩ hf hd
                have hf' : b13 = false := hf
                subst hf'
                have d6 : b6 = true := hd ⟨6, .guard⟩ (by simp) rfl
                subst d6
                obtain rfl := cd6.out rfl
                clear hf hd
                try simp only [List.setIfInBounds_toArray, List.set_cons_zero, List.set_cons_succ]
                intro K hK
                rw [if_pos (by rfl)]
                go_simp
                exact hK.out _ _ ⟨b0, b1, b2, b3, b4, b5, true, b7, b8, b9, b10, b11, b12, true, b14, b15, x23, x24, x25, x26, x27, x28, .bool true, x30, x31, x32, x33, x34, x35, (.int .i64 s), x37, x38, fo, fm, fc, (by simp only [Act.put, List.setIfInBounds_toArray, List.set_cons_zero, List.set_cons_succ]), (by simp only [Act.put, List.setIfInBounds_toArray, List.set_cons_zero, List.set_cons_succ]), hb, cd0, cd1, cd2, cd3, cd4, cd5, (fun _ => rfl), cd7, cd8, cd9, cd10, cd11, cd12, (fun _ => rfl), cd14, cd15, f_f⟩
              · rintro L a w ⟨b0, b1, b2, b3, b4, b5, b6, b7, b8, b9, b10, b11, b12, b13, b14, b15, x23, x24, x25, x26, x27, x28, x29, x30, x31, x32, x33, x34, x35, x36, x37, x38, fo, fm, fc, rfl, rfl, hb, cd0, cd1, cd2, cd3, cd4, cd5, cd6, cd7, cd8, cd9, cd10, cd11, cd12, cd13, cd14, cd15, f_f⟩ hf hd
                have hf' : b14 = false := hf
                subst hf'
                have d12 : b12 = true := hd ⟨12, .data⟩ (by simp) rfl
                subst d12
                have d13 : b13 = true := hd ⟨13, .data⟩ (by simp) rfl
                subst d13
                have d6 : b6 = true := hd ⟨6, .guard⟩ (by simp) rfl
                subst d6
                obtain rfl := cd12.out rfl
                obtain rfl := cd13.out rfl
                obtain rfl := cd6.out rfl
                clear hf hd
                have W_f := f_f.out rfl
                try simp only [List.setIfInBounds_toArray, List.set_cons_zero, List.set_cons_succ]
                intro K hK
                rw [if_pos (by rfl)]
                go_simp
                go_at_call 111
                refine (HIn _ _ _ _ W_f).mono ?_
                rintro e w' ⟨rfl, rfl⟩
                exact hK.out _ _ ⟨b0, b1, b2, b3, b4, b5, true, b7, b8, b9, b10, b11, true, true, true, b15, x23, x24, x25, x26, x27, x28, .bool true, x30, x31, x32, x33, x34, .slice fo fm fc, .int .i64 s, (.bool true), x38, fo, fm, fc, (by simp only [Act.put, List.setIfInBounds_toArray, List.set_cons_zero, List.set_cons_succ]), (by simp only [Act.put, List.setIfInBounds_toArray, List.set_cons_zero, List.set_cons_succ]), hb, cd0, cd1, cd2, cd3, cd4, cd5, (fun _ => rfl), cd7, cd8, cd9, cd10, cd11, (fun _ => rfl), (fun _ => rfl), (fun _ => rfl), cd15, f_f⟩
              · rintro L a w ⟨b0, b1, b2, b3, b4, b5, b6, b7, b8, b9, b10, b11, b12, b13, b14, b15, x23, x24, x25, x26, x27, x28, x29, x30, x31, x32, x33, x34, x35, x36, x37, x38, fo, fm, fc, rfl, rfl, hb, cd0, cd1, cd2, cd3, cd4, cd5, cd6, cd7, cd8, cd9, cd10, cd11, cd12, cd13, cd14, cd15, f_f⟩ hf hd
                have hf' : b15 = false := hf
                subst hf'
                have d6 : b6 = true := hd ⟨6, .data⟩ (by simp) rfl
                subst d6
                have d14 : b14 = true := hd ⟨14, .data⟩ (by simp) rfl
                subst d14
                obtain rfl := cd6.out rfl
                obtain rfl := cd14.out rfl
                clear hf hd
                try simp only [List.setIfInBounds_toArray, List.set_cons_zero, List.set_cons_succ]
                intro K hK
                rw [if_pos (by rfl)]
                go_simp
                exact hK.out _ _ ⟨b0, b1, b2, b3, b4, b5, true, b7, b8, b9, b10, b11, b12, b13, true, true, x23, x24, x25, x26, x27, x28, .bool true, x30, x31, x32, x33, x34, x35, x36, .bool true, (.bool true), fo, fm, fc, (by simp only [Act.put, List.setIfInBounds_toArray, List.set_cons_zero, List.set_cons_succ]), (by simp only [Act.put, List.setIfInBounds_toArray, List.set_cons_zero, List.set_cons_succ]), hb, cd0, cd1, cd2, cd3, cd4, cd5, (fun _ => rfl), cd7, cd8, cd9, cd10, cd11, cd12, cd13, (fun _ => rfl), (fun _ => rfl), f_f⟩
            · rintro act V ⟨b0, b1, b2, b3, b4, b5, b6, b7, b8, b9, b10, b11, b12, b13, b14, b15, x23, x24, x25, x26, x27, x28, x29, x30, x31, x32, x33, x34, x35, x36, x37, x38, fo, fm, fc, hL, rfl, hb, cd0, cd1, cd2, cd3, cd4, cd5, cd6, cd7, cd8, cd9, cd10, cd11, cd12, cd13, cd14, cd15, f_f⟩
              have hL' : [true, true, true, true, true, true, true, true, true, true, true, true, true, true, true, true] = [b0, b1, b2, b3, b4, b5, b6, b7, b8, b9, b10, b11, b12, b13, b14, b15] := congrArg Array.toList hL
              simp only [List.cons.injEq, and_true] at hL'
              obtain ⟨rfl, rfl, rfl, rfl, rfl, rfl, rfl, rfl, rfl, rfl, rfl, rfl, rfl, rfl, rfl, rfl⟩ := hL'
              obtain rfl := cd0.out rfl
              obtain rfl := cd1.out rfl
              obtain rfl := cd2.out rfl
              obtain rfl := cd3.out rfl
              obtain rfl := cd4.out rfl
              obtain rfl := cd5.out rfl
              obtain rfl := cd6.out rfl
              obtain rfl := cd7.out rfl
              obtain rfl := cd8.out rfl
              obtain rfl := cd9.out rfl
              obtain rfl := cd10.out rfl
              obtain rfl := cd11.out rfl
              obtain rfl := cd12.out rfl
              obtain rfl := cd13.out rfl
              obtain rfl := cd14.out rfl
              obtain rfl := cd15.out rfl
              have W_f := f_f.out rfl
              clear hL f_f cd0 cd1 cd2 cd3 cd4 cd5 cd6 cd7 cd8 cd9 cd10 cd11 cd12 cd13 cd14 cd15
              simp only [List.setIfInBounds_toArray, List.set_cons_zero, List.set_cons_succ]
              have BV := BW.trans (((Below.refl _ _).drew.trans hb).mono BW.size)
              have ca2 : V.cell? ⟨b, off + i, none⟩ = some (.int .i64 x) := (((Below.refl _ _).drew.trans hb).cell hbB).trans ca
              have hK2 : Hid (Rch M T s x ∧ Rch M T x s ∧ ∀ y ∈ L.take (i + 1), Rch M T y s → y ≤ x) := Lib.hid ⟨(hIff.out x).1 hxL.out, hrh.out.1 rfl, take_all_i (fun y hy e => by have := hK.out.2.2 y hy e; omega) hxh.out (fun _ => by omega)⟩
              clear hb hK hxh hrh
              go_wp2_with fail
              go_roundw
              case rel => exact ⟨x, i + 1, rfl, by go_num, by omega, hK2, BV⟩
              case measure => simp [intOf]; omega
        · clear hxL
          refine region_inv (Victim8N W7.heap.size p tv tn tc mo mn mc b off n c i x v s) (by kernel_rfl) (by kernel_rfl) ?_ ?_ ?_
          · exact ⟨false, false, false, false, false, false, false, false, false, false, false, false, false, false, false, false, u23, u24, u25, u26, u27, u28, u29, u30, u31, u32, u33, u34, u35, u36, u37, u38, rfl, (by simp only [Act.put, List.setIfInBounds_toArray, List.set_cons_zero, List.set_cons_succ]), Below.refl _ _, (fun h => by cases h), (fun h => by cases h), (fun h => by cases h), (fun h => by cases h), (fun h => by cases h), (fun h => by cases h), (fun h => by cases h), (fun h => by cases h), (fun h => by cases h), (fun h => by cases h), (fun h => by cases h), (fun h => by cases h), (fun h => by cases h), (fun h => by cases h), (fun h => by cases h), (fun h => by cases h)⟩
          · refine ⟨?_, ?_, ?_, ?_, ?_, ?_, ?_, ?_, ?_, ?_, ?_, ?_, ?_, ?_, ?_, ?_, trivial⟩
            · rintro L a w ⟨b0, b1, b2, b3, b4, b5, b6, b7, b8, b9, b10, b11, b12, b13, b14, b15, x23, x24, x25, x26, x27, x28, x29, x30, x31, x32, x33, x34, x35, x36, x37, x38, rfl, rfl, hb, cd0, cd1, cd2, cd3, cd4, cd5, cd6, cd7, cd8, cd9, cd10, cd11, cd12, cd13, cd14, cd15⟩ hf hd
              have hf' : b0 = false := hf
              subst hf'
              clear hf hd
              try simp only [List.setIfInBounds_toArray, List.set_cons_zero, List.set_cons_succ]
              intro K hK
              rw [if_pos (by rfl)]
              go_simp
              exact hK.out _ _ ⟨true, b1, b2, b3, b4, b5, b6, b7, b8, b9, b10, b11, b12, b13, b14, b15, (.slice (some ⟨b, off, none⟩) n c), x24, x25, x26, x27, x28, x29, x30, x31, x32, x33, x34, x35, x36, x37, x38, (by simp only [Act.put, List.setIfInBounds_toArray, List.set_cons_zero, List.set_cons_succ]), (by simp only [Act.put, List.setIfInBounds_toArray, List.set_cons_zero, List.set_cons_succ]), hb, (fun _ => rfl), cd1, cd2, cd3, cd4, cd5, cd6, cd7, cd8, cd9, cd10, cd11, cd12, cd13, cd14, cd15⟩
            · rintro L a w ⟨b0, b1, b2, b3, b4, b5, b6, b7, b8, b9, b10, b11, b12, b13, b14, b15, x23, x24, x25, x26, x27, x28, x29, x30, x31, x32, x33, x34, x35, x36, x37, x38, rfl, rfl, hb, cd0, cd1, cd2, cd3, cd4, cd5, cd6, cd7, cd8, cd9, cd10, cd11, cd12, cd13, cd14, cd15⟩ hf hd
              have hf' : b1 = false := hf
              subst hf'
              clear hf hd
              try simp only [List.setIfInBounds_toArray, List.set_cons_zero, List.set_cons_succ]
              intro K hK
              rw [if_pos (by rfl)]
              go_simp
              exact hK.out _ _ ⟨b0, true, b2, b3, b4, b5, b6, b7, b8, b9, b10, b11, b12, b13, b14, b15, x23, (.int .i64 (i : Nat)), x25, x26, x27, x28, x29, x30, x31, x32, x33, x34, x35, x36, x37, x38, (by simp only [Act.put, List.setIfInBounds_toArray, List.set_cons_zero, List.set_cons_succ]), (by simp only [Act.put, List.setIfInBounds_toArray, List.set_cons_zero, List.set_cons_succ]), hb, cd0, (fun _ => rfl), cd2, cd3, cd4, cd5, cd6, cd7, cd8, cd9, cd10, cd11, cd12, cd13, cd14, cd15⟩
            · rintro L a w ⟨b0, b1, b2, b3, b4, b5, b6, b7, b8, b9, b10, b11, b12, b13, b14, b15, x23, x24, x25, x26, x27, x28, x29, x30, x31, x32, x33, x34, x35, x36, x37, x38, rfl, rfl, hb, cd0, cd1, cd2, cd3, cd4, cd5, cd6, cd7, cd8, cd9, cd10, cd11, cd12, cd13, cd14, cd15⟩ hf hd
              have hf' : b2 = false := hf
              subst hf'
              have d0 : b0 = true := hd ⟨0, .data⟩ (by simp) rfl
              subst d0
              have d1 : b1 = true := hd ⟨1, .data⟩ (by simp) rfl
              subst d1
              obtain rfl := cd0.out rfl
              obtain rfl := cd1.out rfl
              clear hf hd
              try simp only [List.setIfInBounds_toArray, List.set_cons_zero, List.set_cons_succ]
              intro K hK
              rw [if_pos (by rfl)]
              go_simp
              exact hK.out _ _ ⟨true, true, true, b3, b4, b5, b6, b7, b8, b9, b10, b11, b12, b13, b14, b15, .slice (some ⟨b, off, none⟩) n c, .int .i64 (i : Nat), (.pointer (some ⟨b, off + i, none⟩)), x26, x27, x28, x29, x30, x31, x32, x33, x34, x35, x36, x37, x38, (by simp only [Act.put, List.setIfInBounds_toArray, List.set_cons_zero, List.set_cons_succ]), (by simp only [Act.put, List.setIfInBounds_toArray, List.set_cons_zero, List.set_cons_succ]), hb, (fun _ => rfl), (fun _ => rfl), (fun _ => rfl), cd3, cd4, cd5, cd6, cd7, cd8, cd9, cd10, cd11, cd12, cd13, cd14, cd15⟩
            · rintro L a w ⟨b0, b1, b2, b3, b4, b5, b6, b7, b8, b9, b10, b11, b12, b13, b14, b15, x23, x24, x25, x26, x27, x28, x29, x30, x31, x32, x33, x34, x35, x36, x37, x38, rfl, rfl, hb, cd0, cd1, cd2, cd3, cd4, cd5, cd6, cd7, cd8, cd9, cd10, cd11, cd12, cd13, cd14, cd15⟩ hf hd
              have hf' : b3 = false := hf
              subst hf'
              have d2 : b2 = true := hd ⟨2, .data⟩ (by simp) rfl
              subst d2
              obtain rfl := cd2.out rfl
              clear hf hd
              try simp only [List.setIfInBounds_toArray, List.set_cons_zero, List.set_cons_succ]
              have z0 := (hb.cell hbB).trans ca
              intro K hK
              rw [if_pos (by rfl)]
              go_simp
              exact hK.out _ _ ⟨b0, b1, true, true, b4, b5, b6, b7, b8, b9, b10, b11, b12, b13, b14, b15, x23, x24, .pointer (some ⟨b, off + i, none⟩), (.int .i64 x), x27, x28, x29, x30, x31, x32, x33, x34, x35, x36, x37, x38, (by simp only [Act.put, List.setIfInBounds_toArray, List.set_cons_zero, List.set_cons_succ]), (by simp only [Act.put, List.setIfInBounds_toArray, List.set_cons_zero, List.set_cons_succ]), hb, cd0, cd1, (fun _ => rfl), (fun _ => rfl), cd4, cd5, cd6, cd7, cd8, cd9, cd10, cd11, cd12, cd13, cd14, cd15⟩
            · rintro L a w ⟨b0, b1, b2, b3, b4, b5, b6, b7, b8, b9, b10, b11, b12, b13, b14, b15, x23, x24, x25, x26, x27, x28, x29, x30, x31, x32, x33, x34, x35, x36, x37, x38, rfl, rfl, hb, cd0, cd1, cd2, cd3, cd4, cd5, cd6, cd7, cd8, cd9, cd10, cd11, cd12, cd13, cd14, cd15⟩ hf hd
              have hf' : b4 = false := hf
              subst hf'
              clear hf hd
              try simp only [List.setIfInBounds_toArray, List.set_cons_zero, List.set_cons_succ]
              intro K hK
              rw [if_pos (by rfl)]
              go_simp
              exact hK.out _ _ ⟨b0, b1, b2, b3, true, b5, b6, b7, b8, b9, b10, b11, b12, b13, b14, b15, x23, x24, x25, x26, (.int .i64 v), x28, x29, x30, x31, x32, x33, x34, x35, x36, x37, x38, (by simp only [Act.put, List.setIfInBounds_toArray, List.set_cons_zero, List.set_cons_succ]), (by simp only [Act.put, List.setIfInBounds_toArray, List.set_cons_zero, List.set_cons_succ]), hb, cd0, cd1, cd2, cd3, (fun _ => rfl), cd5, cd6, cd7, cd8, cd9, cd10, cd11, cd12, cd13, cd14, cd15⟩
            · rintro L a w ⟨b0, b1, b2, b3, b4, b5, b6, b7, b8, b9, b10, b11, b12, b13, b14, b15, x23, x24, x25, x26, x27, x28, x29, x30, x31, x32, x33, x34, x35, x36, x37, x38, rfl, rfl, hb, cd0, cd1, cd2, cd3, cd4, cd5, cd6, cd7, cd8, cd9, cd10, cd11, cd12, cd13, cd14, cd15⟩ hf hd
              have hf' : b5 = false := hf
              subst hf'
              have d3 : b3 = true := hd ⟨3, .data⟩ (by simp) rfl
              subst d3
              have d4 : b4 = true := hd ⟨4, .data⟩ (by simp) rfl
              subst d4
              obtain rfl := cd3.out rfl
              obtain rfl := cd4.out rfl
              clear hf hd
              try simp only [List.setIfInBounds_toArray, List.set_cons_zero, List.set_cons_succ]
              intro K hK
              rw [if_pos (by rfl)]
              go_simp
              exact hK.out _ _ ⟨b0, b1, b2, true, true, true, b6, b7, b8, b9, b10, b11, b12, b13, b14, b15, x23, x24, x25, .int .i64 x, .int .i64 v, (.bool false), x29, x30, x31, x32, x33, x34, x35, x36, x37, x38, (by simp only [Act.put, List.setIfInBounds_toArray, List.set_cons_zero, List.set_cons_succ]), (by simp only [Act.put, List.setIfInBounds_toArray, List.set_cons_zero, List.set_cons_succ]), hb, cd0, cd1, cd2, (fun _ => rfl), (fun _ => rfl), (fun _ => rfl), cd6, cd7, cd8, cd9, cd10, cd11, cd12, cd13, cd14, cd15⟩
            · rintro L a w ⟨b0, b1, b2, b3, b4, b5, b6, b7, b8, b9, b10, b11, b12, b13, b14, b15, x23, x24, x25, x26, x27, x28, x29, x30, x31, x32, x33, x34, x35, x36, x37, x38, rfl, rfl, hb, cd0, cd1, cd2, cd3, cd4, cd5, cd6, cd7, cd8, cd9, cd10, cd11, cd12, cd13, cd14, cd15⟩ hf hd
              have hf' : b6 = false := hf
              subst hf'
              have d5 : b5 = true := hd ⟨5, .data⟩ (by simp) rfl
              subst d5
              obtain rfl := cd5.out rfl
              clear hf hd
              try simp only [List.setIfInBounds_toArray, List.set_cons_zero, List.set_cons_succ]
              intro K hK
              rw [if_pos (by rfl)]
              go_simp
              exact hK.out _ _ ⟨b0, b1, b2, b3, b4, true, true, b7, b8, b9, b10, b11, b12, b13, b14, b15, x23, x24, x25, x26, x27, .bool false, (.bool false), x30, x31, x32, x33, x34, x35, x36, x37, x38, (by simp only [Act.put, List.setIfInBounds_toArray, List.set_cons_zero, List.set_cons_succ]), (by simp only [Act.put, List.setIfInBounds_toArray, List.set_cons_zero, List.set_cons_succ]), hb, cd0, cd1, cd2, cd3, cd4, (fun _ => rfl), (fun _ => rfl), cd7, cd8, cd9, cd10, cd11, cd12, cd13, cd14, cd15⟩
            · rintro L a w ⟨b0, b1, b2, b3, b4, b5, b6, b7, b8, b9, b10, b11, b12, b13, b14, b15, x23, x24, x25, x26, x27, x28, x29, x30, x31, x32, x33, x34, x35, x36, x37, x38, rfl, rfl, hb, cd0, cd1, cd2, cd3, cd4, cd5, cd6, cd7, cd8, cd9, cd10, cd11, cd12, cd13, cd14, cd15⟩ hf hd
              have hf' : b7 = false := hf
              subst hf'
              have d6 : b6 = true := hd ⟨6, .guard⟩ (by simp) rfl
              subst d6
              obtain rfl := cd6.out rfl
              clear hf hd
              try simp only [List.setIfInBounds_toArray, List.set_cons_zero, List.set_cons_succ]
              intro K hK
              rw [if_neg (Bool.eq_false_iff.1 (by rfl))]
              exact hK.out _ _ ⟨b0, b1, b2, b3, b4, b5, true, true, b8, b9, b10, b11, b12, b13, b14, b15, x23, x24, x25, x26, x27, x28, .bool false, (undef), x31, x32, x33, x34, x35, x36, x37, x38, (by simp only [Act.put, List.setIfInBounds_toArray, List.set_cons_zero, List.set_cons_succ]), (by simp only [Act.put, List.setIfInBounds_toArray, List.set_cons_zero, List.set_cons_succ]), hb, cd0, cd1, cd2, cd3, cd4, cd5, (fun _ => rfl), (fun _ => rfl), cd8, cd9, cd10, cd11, cd12, cd13, cd14, cd15⟩
            · rintro L a w ⟨b0, b1, b2, b3, b4, b5, b6, b7, b8, b9, b10, b11, b12, b13, b14, b15, x23, x24, x25, x26, x27, x28, x29, x30, x31, x32, x33, x34, x35, x36, x37, x38, rfl, rfl, hb, cd0, cd1, cd2, cd3, cd4, cd5, cd6, cd7, cd8, cd9, cd10, cd11, cd12, cd13, cd14, cd15⟩ hf hd
              have hf' : b8 = false := hf
              subst hf'
              have d6 : b6 = true := hd ⟨6, .guard⟩ (by simp) rfl
              subst d6
              obtain rfl := cd6.out rfl
              clear hf hd
              try simp only [List.setIfInBounds_toArray, List.set_cons_zero, List.set_cons_succ]
              intro K hK
              rw [if_neg (Bool.eq_false_iff.1 (by rfl))]
              exact hK.out _ _ ⟨b0, b1, b2, b3, b4, b5, true, b7, true, b9, b10, b11, b12, b13, b14, b15, x23, x24, x25, x26, x27, x28, .bool false, x30, (undef), x32, x33, x34, x35, x36, x37, x38, (by simp only [Act.put, List.setIfInBounds_toArray, List.set_cons_zero, List.set_cons_succ]), (by simp only [Act.put, List.setIfInBounds_toArray, List.set_cons_zero, List.set_cons_succ]), hb, cd0, cd1, cd2, cd3, cd4, cd5, (fun _ => rfl), cd7, (fun _ => rfl), cd9, cd10, cd11, cd12, cd13, cd14, cd15⟩
            · rintro L a w ⟨b0, b1, b2, b3, b4, b5, b6, b7, b8, b9, b10, b11, b12, b13, b14, b15, x23, x24, x25, x26, x27, x28, x29, x30, x31, x32, x33, x34, x35, x36, x37, x38, rfl, rfl, hb, cd0, cd1, cd2, cd3, cd4, cd5, cd6, cd7, cd8, cd9, cd10, cd11, cd12, cd13, cd14, cd15⟩ hf hd
              have hf' : b9 = false := hf
              subst hf'
              have d6 : b6 = true := hd ⟨6, .guard⟩ (by simp) rfl
              subst d6
              obtain rfl := cd6.out rfl
              clear hf hd
              try simp only [List.setIfInBounds_toArray, List.set_cons_zero, List.set_cons_succ]
              intro K hK
              rw [if_neg (Bool.eq_false_iff.1 (by rfl))]
              exact hK.out _ _ ⟨b0, b1, b2, b3, b4, b5, true, b7, b8, true, b10, b11, b12, b13, b14, b15, x23, x24, x25, x26, x27, x28, .bool false, x30, x31, (undef), x33, x34, x35, x36, x37, x38, (by simp only [Act.put, List.setIfInBounds_toArray, List.set_cons_zero, List.set_cons_succ]), (by simp only [Act.put, List.setIfInBounds_toArray, List.set_cons_zero, List.set_cons_succ]), hb, cd0, cd1, cd2, cd3, cd4, cd5, (fun _ => rfl), cd7, cd8, (fun _ => rfl), cd10, cd11, cd12, cd13, cd14, cd15⟩
            · rintro L a w ⟨b0, b1, b2, b3, b4, b5, b6, b7, b8, b9, b10, b11, b12, b13, b14, b15, x23, x24, x25, x26, x27, x28, x29, x30, x31, x32, x33, x34, x35, x36, x37, x38, rfl, rfl, hb, cd0, cd1, cd2, cd3, cd4, cd5, cd6, cd7, cd8, cd9, cd10, cd11, cd12, cd13, cd14, cd15⟩ hf hd
              have hf' : b10 = false := hf
              subst hf'
              have d8 : b8 = true := hd ⟨8, .data⟩ (by simp) rfl
              subst d8
              have d9 : b9 = true := hd ⟨9, .data⟩ (by simp) rfl
              subst d9
              have d6 : b6 = true := hd ⟨6, .guard⟩ (by simp) rfl
              subst d6
              obtain rfl := cd8.out rfl
              obtain rfl := cd9.out rfl
              obtain rfl := cd6.out rfl
              clear hf hd
              try simp only [List.setIfInBounds_toArray, List.set_cons_zero, List.set_cons_succ]
              intro K hK
              rw [if_neg (Bool.eq_false_iff.1 (by rfl))]
              exact hK.out _ _ ⟨b0, b1, b2, b3, b4, b5, true, b7, true, true, true, b11, b12, b13, b14, b15, x23, x24, x25, x26, x27, x28, .bool false, x30, undef, undef, (undef), x34, x35, x36, x37, x38, (by simp only [Act.put, List.setIfInBounds_toArray, List.set_cons_zero, List.set_cons_succ]), (by simp only [Act.put, List.setIfInBounds_toArray, List.set_cons_zero, List.set_cons_succ]), hb, cd0, cd1, cd2, cd3, cd4, cd5, (fun _ => rfl), cd7, (fun _ => rfl), (fun _ => rfl), (fun _ => rfl), cd11, cd12, cd13, cd14, cd15⟩
            · rintro L a w ⟨b0, b1, b2, b3, b4, b5, b6, b7, b8, b9, b10, b11, b12, b13, b14, b15, x23, x24, x25, x26, x27, x28, x29, x30, x31, x32, x33, x34, x35, x36, x37, x38, rfl, rfl, hb, cd0, cd1, cd2, cd3, cd4, cd5, cd6, cd7, cd8, cd9, cd10, cd11, cd12, cd13, cd14, cd15⟩ hf hd
              have hf' : b11 = false := hf
              subst hf'
              have d10 : b10 = true := hd ⟨10, .data⟩ (by simp) rfl
              subst d10
              have d6 : b6 = true := hd ⟨6, .guard⟩ (by simp) rfl
              subst d6
              obtain rfl := cd10.out rfl
              obtain rfl := cd6.out rfl
              clear hf hd
              try simp only [List.setIfInBounds_toArray, List.set_cons_zero, List.set_cons_succ]
              intro K hK
              rw [if_neg (Bool.eq_false_iff.1 (by rfl))]
              exact hK.out _ _ ⟨b0, b1, b2, b3, b4, b5, true, b7, b8, b9, true, true, b12, b13, b14, b15, x23, x24, x25, x26, x27, x28, .bool false, x30, x31, x32, undef, (undef), x35, x36, x37, x38, (by simp only [Act.put, List.setIfInBounds_toArray, List.set_cons_zero, List.set_cons_succ]), (by simp only [Act.put, List.setIfInBounds_toArray, List.set_cons_zero, List.set_cons_succ]), hb, cd0, cd1, cd2, cd3, cd4, cd5, (fun _ => rfl), cd7, cd8, cd9, (fun _ => rfl), (fun _ => rfl), cd12, cd13, cd14, cd15⟩
            · rintro L a w ⟨b0, b1, b2, b3, b4, b5, b6, b7, b8, b9, b10, b11, b12, b13, b14, b15, x23, x24, x25, x26, x27, x28, x29, x30, x31, x32, x33, x34, x35, x36, x37, x38, rfl, rfl, hb, cd0, cd1, cd2, cd3, cd4, cd5, cd6, cd7, cd8, cd9, cd10, cd11, cd12, cd13, cd14, cd15⟩ hf hd
              have hf' : b12 = false := hf
              subst hf'
              have d7 : b7 = true := hd ⟨7, .data⟩ (by simp) rfl
              subst d7
              have d11 : b11 = true := hd ⟨11, .data⟩ (by simp) rfl
              subst d11
              have d6 : b6 = true := hd ⟨6, .chain⟩ (by simp) rfl
              subst d6
              obtain rfl := cd7.out rfl
              obtain rfl := cd11.out rfl
              obtain rfl := cd6.out rfl
              clear hf hd
              try simp only [List.setIfInBounds_toArray, List.set_cons_zero, List.set_cons_succ]
              intro K hK
              rw [if_neg (Bool.eq_false_iff.1 (by rfl))]
              exact hK.out _ _ ⟨b0, b1, b2, b3, b4, b5, true, true, b8, b9, b10, true, true, b13, b14, b15, x23, x24, x25, x26, x27, x28, .bool false, undef, x31, x32, x33, undef, (undef), x36, x37, x38, (by simp only [Act.put, List.setIfInBounds_toArray, List.set_cons_zero, List.set_cons_succ]), (by simp only [Act.put, List.setIfInBounds_toArray, List.set_cons_zero, List.set_cons_succ]), hb, cd0, cd1, cd2, cd3, cd4, cd5, (fun _ => rfl), (fun _ => rfl), cd8, cd9, cd10, (fun _ => rfl), (fun _ => rfl), cd13, cd14, cd15⟩
            · rintro L a w ⟨b0, b1, b2, b3, b4, b5, b6, b7, b8, b9, b10, b11, b12, b13, b14, b15, x23, x24, x25, x26, x27, x28, x29, x30, x31, x32, x33, x34, x35, x36, x37, x38, rfl, rfl, hb, cd0, cd1, cd2, cd3, cd4, cd5, cd6, cd7, cd8, cd9, cd10, cd11, cd12, cd13, cd14, cd15⟩ hf hd
              have hf' : b13 = false := hf
              subst hf'
              have d6 : b6 = true := hd ⟨6, .guard⟩ (by simp) rfl
              subst d6
              obtain rfl := cd6.out rfl
              clear hf hd
              try simp only [List.setIfInBounds_toArray, List.set_cons_zero, List.set_cons_succ]
              intro K hK
              rw [if_neg (Bool.eq_false_iff.1 (by rfl))]
              exact hK.out _ _ ⟨b0, b1, b2, b3, b4, b5, true, b7, b8, b9, b10, b11, b12, true, b14, b15, x23, x24, x25, x26, x27, x28, .bool false, x30, x31, x32, x33, x34, x35, (undef), x37, x38, (by simp only [Act.put, List.setIfInBounds_toArray, List.set_cons_zero, List.set_cons_succ]), (by simp only [Act.put, List.setIfInBounds_toArray, List.set_cons_zero, List.set_cons_succ]), hb, cd0, cd1, cd2, cd3, cd4, cd5, (fun _ => rfl), cd7, cd8, cd9, cd10, cd11, cd12, (fun _ => rfl), cd14, cd15⟩
            · rintro L a w ⟨b0, b1, b2, b3, b4, b5, b6, b7, b8, b9, b10, b11, b12, b13, b14, b15, x23, x24, x25, x26, x27, x28, x29, x30, x31, x32, x33, x34, x35, x36, x37, x38, rfl, rfl, hb, cd0, cd1, cd2, cd3, cd4, cd5, cd6, cd7, cd8, cd9, cd10, cd11, cd12, cd13, cd14, cd15⟩ hf hd
              have hf' : b14 = false := hf
              subst hf'
              have d12 : b12 = true := hd ⟨12, .data⟩ (by simp) rfl
              subst d12
              have d13 : b13 = true := hd ⟨13, .data⟩ (by simp) rfl
              subst d13
              have d6 : b6 = true := hd ⟨6, .guard⟩ (by simp) rfl
              subst d6
              obtain rfl := cd12.out rfl
              obtain rfl := cd13.out rfl
              obtain rfl := cd6.out rfl
              clear hf hd
              try simp only [List.setIfInBounds_toArray, List.set_cons_zero, List.set_cons_succ]
              intro K hK
              rw [if_neg (Bool.eq_false_iff.1 (by rfl))]
              exact hK.out _ _ ⟨b0, b1, b2, b3, b4, b5, true, b7, b8, b9, b10, b11, true, true, true, b15, x23, x24, x25, x26, x27, x28, .bool false, x30, x31, x32, x33, x34, undef, undef, (undef), x38, (by simp only [Act.put, List.setIfInBounds_toArray, List.set_cons_zero, List.set_cons_succ]), (by simp only [Act.put, List.setIfInBounds_toArray, List.set_cons_zero, List.set_cons_succ]), hb, cd0, cd1, cd2, cd3, cd4, cd5, (fun _ => rfl), cd7, cd8, cd9, cd10, cd11, (fun _ => rfl), (fun _ => rfl), (fun _ => rfl), cd15⟩
            · rintro L a w ⟨b0, b1, b2, b3, b4, b5, b6, b7, b8, b9, b10, b11, b12, b13, b14, b15, x23, x24, x25, x26, x27, x28, x29, x30, x31, x32, x33, x34, x35, x36, x37, x38, rfl, rfl, hb, cd0, cd1, cd2, cd3, cd4, cd5, cd6, cd7, cd8, cd9, cd10, cd11, cd12, cd13, cd14, cd15⟩ hf hd
              have hf' : b15 = false := hf
              subst hf'
              have d6 : b6 = true := hd ⟨6, .data⟩ (by simp) rfl
              subst d6
              have d14 : b14 = true := hd ⟨14, .data⟩ (by simp) rfl
              subst d14
              obtain rfl := cd6.out rfl
              obtain rfl := cd14.out rfl
              clear hf hd
              try simp only [List.setIfInBounds_toArray, List.set_cons_zero, List.set_cons_succ]
              intro K hK
              rw [if_pos (by rfl)]
              go_simp
              exact hK.out _ _ ⟨b0, b1, b2, b3, b4, b5, true, b7, b8, b9, b10, b11, b12, b13, true, true, x23, x24, x25, x26, x27, x28, .bool false, x30, x31, x32, x33, x34, x35, x36, undef, (.bool false), (by simp only [Act.put, List.setIfInBounds_toArray, List.set_cons_zero, List.set_cons_succ]), (by simp only [Act.put, List.setIfInBounds_toArray, List.set_cons_zero, List.set_cons_succ]), hb, cd0, cd1, cd2, cd3, cd4, cd5, (fun _ => rfl), cd7, cd8, cd9, cd10, cd11, cd12, cd13, (fun _ => rfl), (fun _ => rfl)⟩
          · rintro act V ⟨b0, b1, b2, b3, b4, b5, b6, b7, b8, b9, b10, b11, b12, b13, b14, b15, x23, x24, x25, x26, x27, x28, x29, x30, x31, x32, x33, x34, x35, x36, x37, x38, hL, rfl, hb, cd0, cd1, cd2, cd3, cd4, cd5, cd6, cd7, cd8, cd9, cd10, cd11, cd12, cd13, cd14, cd15⟩
            have hL' : [true, true, true, true, true, true, true, true, true, true, true, true, true, true, true, true] = [b0, b1, b2, b3, b4, b5, b6, b7, b8, b9, b10, b11, b12, b13, b14, b15] := congrArg Array.toList hL
            simp only [List.cons.injEq, and_true] at hL'
            obtain ⟨rfl, rfl, rfl, rfl, rfl, rfl, rfl, rfl, rfl, rfl, rfl, rfl, rfl, rfl, rfl, rfl⟩ := hL'
            obtain rfl := cd0.out rfl
            obtain rfl := cd1.out rfl
            obtain rfl := cd2.out rfl
            obtain rfl := cd3.out rfl
            obtain rfl := cd4.out rfl
            obtain rfl := cd5.out rfl
            obtain rfl := cd6.out rfl
            obtain rfl := cd7.out rfl
            obtain rfl := cd8.out rfl
            obtain rfl := cd9.out rfl
            obtain rfl := cd10.out rfl
            obtain rfl := cd11.out rfl
            obtain rfl := cd12.out rfl
            obtain rfl := cd13.out rfl
            obtain rfl := cd14.out rfl
            obtain rfl := cd15.out rfl
            clear hL cd0 cd1 cd2 cd3 cd4 cd5 cd6 cd7 cd8 cd9 cd10 cd11 cd12 cd13 cd14 cd15
            simp only [List.setIfInBounds_toArray, List.set_cons_zero, List.set_cons_succ]
            have BV := BW.trans (((Below.refl _ _).drew.trans hb).mono BW.size)
            have ca2 : V.cell? ⟨b, off + i, none⟩ = some (.int .i64 x) := (((Below.refl _ _).drew.trans hb).cell hbB).trans ca
            have hK2 : Hid (Rch M T s v ∧ Rch M T v s ∧ ∀ y ∈ L.take (i + 1), Rch M T y s → y ≤ v) := Lib.hid ⟨hK.out.1, hK.out.2.1, take_all_i hK.out.2.2 hxh.out (fun _ => by omega)⟩
            clear hb hK hxh ca2
            go_wp2_with fail
            go_roundw
            case rel => exact ⟨v, i + 1, rfl, by go_num, by omega, hK2, BV⟩
            case measure => simp [intOf]; omega
      · have hlti : ¬ ((i : Int) < (n : Int)) := by omega
        obtain rfl : i = n := by omega
        have hV : Hid (Vic T M s v true) := Lib.hid (.inl ⟨rfl, hK.out.1, hK.out.2.1, fun x h k => hK.out.2.2 x (by rw [List.take_of_length_le (by omega)]; exact (hIff.out x).2 h) k⟩)
        clear hK
        go_wp2_with fail
        refine bodyPost_ret (v := .tuple #[.int .i64 v, .bool true]) (by simp [results, Try.results59, go_sem]) rfl ?_
        exact ⟨v, true, rfl, hV.out, by rw [HP.out]; exact B1.trans (BW.mono (Nat.le_of_lt hp1))⟩
  · have hV : Hid (Vic T M s 0 false) := Lib.hid (.inr ⟨rfl, rfl, fun x h k => hs ((hIff.out s).2 (h.trans k))⟩)
    rw [decide_eq_false hs] at HI
    clear hs
    go_wp2_with (go_at_call 111; refine HI.mono ?_; rintro e w2 ⟨rfl, rfl⟩)
    refine bodyPost_ret (v := .tuple #[.int .i64 0, .bool false]) (by simp [results, Try.results59, go_sem]) rfl ?_
    exact ⟨0, false, rfl, hV.out, by rw [HP.out]; exact B1⟩
end Go.Proofs.Ytllijeciodmckaa
