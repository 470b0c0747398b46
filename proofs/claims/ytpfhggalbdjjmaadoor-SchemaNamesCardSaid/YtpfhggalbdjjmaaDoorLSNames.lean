/-
  SchemaNames, walked.
-/
import Derived.Test.YtpfhggalbdjjmaaDoorSRName
import Derived.Test.YtpfhggalbdjjmaaDoorLaw9
import Derived.Test.YtpfhggalbdjjmaaDoorInv
import Derived.Test.YtpfhggalbdjjmaaDoorOpenSc
import Derived.Test.YtpfhggalbdjjmaaDoorSGoodP
import Derived.Deep.QuietTactic
import Derived.BigQuiet
namespace Go.Proofs.YtpfhggalbdjjmaaDoor
open Go.RowKit
set_option linter.unusedSimpArgs false

/-- The three names that the law tries lie in block g. -/
def Ns3 (w : World) (g : Nat) (l x : List UInt8) : Prop := w.heap[g]? = some (.cells #[.string (bsOf l), .string (bsOf x), .string (bsOf x ++ ⟨#[95]⟩)] 9 (0, 0))
theorem Ns3.lt {w : World} {g : Nat} {l x : List UInt8} (h : Ns3 w g l x) : g < w.heap.size := (Array.getElem?_eq_some_iff.1 h).1
theorem Ns3.past {w w' : World} {g : Nat} {l x : List UInt8} (h : Ns3 w g l x) (hb : Below w.heap.size w w') : Ns3 w' g l x := (hb.block g h.lt).trans h
theorem bs_5 (l : List UInt8) : bsOf l ++ (⟨#[95]⟩ : ByteArray) = bsOf (l ++ [95]) := by
  have h : (bsOf l ++ (⟨#[95]⟩ : ByteArray)).data = (bsOf (l ++ [95])).data := by
    rw [ByteArray.data_append, ← Array.toList_inj, Array.toList_append, bsOf_toList, bsOf_toList]
  cases h2 : bsOf l ++ (⟨#[95]⟩ : ByteArray)
  cases h3 : bsOf (l ++ [95])
  rw [h2, h3] at h
  exact congrArg ByteArray.mk h
theorem Ns3.cell {w : World} {g : Nat} {l x : List UInt8} (h : Ns3 w g l x) (j : Nat) (hj : j < 3) : ∃ nm, (nm = l ∨ nm = x ∨ nm = x ++ [95]) ∧ w.cell? ⟨g, j, none⟩ = some (.string (bsOf nm)) := by
  match j, hj with
  | 0, _ => exact ⟨l, .inl rfl, cell_blk h rfl⟩
  | 1, _ => exact ⟨x, .inr (.inl rfl), cell_blk h rfl⟩
  | 2, _ => exact ⟨x ++ [95], .inr (.inr rfl), by rw [← bs_5]; exact cell_blk h rfl⟩
/-- A schema with that name, and one with a column of that name: valid as the name is. -/
theorem scE_nm (nm : List UInt8) : (scE nm [⟨[97], 2, false⟩] 0 == 0) = (spelt nm && !wordsR.contains nm) := by
  have h1 : colsE wordsR [⟨[97], 2, false⟩] = 0 := by decide +kernel
  have h2 : keyE [⟨[97], 2, false⟩] 0 = 0 := by decide +kernel
  unfold scE
  rw [h1, h2]
  cases (spelt nm && !wordsR.contains nm) <;> rfl
theorem scE_col (nm : List UInt8) : (scE [120] [⟨nm, 2, false⟩] 0 == 0) = (spelt nm && !wordsR.contains nm) := by
  have h1 : (spelt [120] && !wordsR.contains [120]) = true := by decide +kernel
  have h3 : colsE wordsR [⟨nm, 2, false⟩] = if (spelt nm && !wordsR.contains nm) = true then 0 else 12 := by
    show (if colE wordsR ⟨nm, 2, false⟩ = 0 then (0 : Int) else colE wordsR ⟨nm, 2, false⟩) = _
    have h4 : colE wordsR ⟨nm, 2, false⟩ = if (spelt nm && !wordsR.contains nm) = true then 0 else 12 := by
      unfold colE
      rw [if_pos (show (1 : Int) ≤ 2 ∧ (2 : Int) ≤ 3 by decide)]
    rw [h4]
    cases (spelt nm && !wordsR.contains nm) <;> rfl
  have h2 : keyE [⟨nm, 2, false⟩] 0 = 0 := by
    unfold keyE
    simp
  unfold scE
  rw [if_pos h1, h3, h2]
  cases (spelt nm && !wordsR.contains nm) <;> rfl
/-- What stands while the region's operations come up. -/
inductive SNames6 (B : Nat) (gr : Nat) (l : List UInt8) (x : List UInt8) (na : Int) (ia : Nat) (a0 : Act) (w0 : World) (L : Array Bool) (a : Act) (w : World) : Prop
  | mk (b0 b1 b2 b3 b4 b5 b6 b7 b8 b9 b10 b11 b12 b13 b14 b15 b16 b17 : Bool) (x16 x17 x18 x19 x20 x21 x22 x23 x24 x25 x26 x27 x28 x29 x30 x31 x32 x6 : Value) (gs : Nat) (hL : L = #[b0, b1, b2, b3, b4, b5, b6, b7, b8, b9, b10, b11, b12, b13, b14, b15, b16, b17]) (ha : a = ⟨((((((((((((((((((a0.tmps.setIfInBounds 16 x16).setIfInBounds 17 x17).setIfInBounds 18 x18).setIfInBounds 19 x19).setIfInBounds 20 x20).setIfInBounds 21 x21).setIfInBounds 22 x22).setIfInBounds 23 x23).setIfInBounds 24 x24).setIfInBounds 25 x25).setIfInBounds 26 x26).setIfInBounds 27 x27).setIfInBounds 28 x28).setIfInBounds 29 x29).setIfInBounds 30 x30).setIfInBounds 31 x31).setIfInBounds 32 x32).setIfInBounds 6 x6), a0.defers⟩) (hb : Below B w0 w) (cd0 : Hid (b0 = true → x16 = .string (bsOf l))) (cd1 : Hid (b1 = true → x17 = .slice (some ⟨gr, 0, none⟩) 41 41)) (cd2 : Hid (b2 = true → x18 = .int .i64 na)) (cd3 : Hid (b3 = true → x19 = .slice (some ⟨gr, 0, none⟩) 41 41)) (cd4 : Hid (b4 = true → x20 = .int .i64 41)) (cd5 : Hid (b5 = true → x21 = .int .i64 (ia : Nat))) (cd6 : Hid (b6 = true → x22 = .pointer (some ⟨gr, ia, none⟩))) (cd7 : Hid (b7 = true → x23 = .string (bsOf x))) (cd8 : Hid (b8 = true → x24 = .slice (some ⟨gr, 0, none⟩) 41 41)) (cd9 : Hid (b9 = true → x25 = .int .i64 na)) (cd10 : Hid (b10 = true → x26 = .slice (some ⟨gr, 0, none⟩) 41 41)) (cd11 : Hid (b11 = true → x27 = .int .i64 41)) (cd12 : Hid (b12 = true → x28 = .int .i64 (ia : Nat))) (cd13 : Hid (b13 = true → x29 = .pointer (some ⟨gr, ia, none⟩))) (cd14 : Hid (b14 = true → x30 = .string (bsOf x))) (cd15 : Hid (b15 = true → x31 = .string (bsOf x ++ ⟨#[95]⟩))) (cd16 : Hid (b16 = true → x32 = .slice (some ⟨gs, 0, none⟩) 3 3)) (cd17 : Hid (b17 = true → x6 = .slice (some ⟨gs, 0, none⟩) 3 3)) (f_n3 : Hid (b16 = true → Ns3 w gs l x)) (f_lg : Hid (b16 = true → w0.heap.size ≤ gs)) (w_17_16 : Hid (b17 = true → b16 = true)) : SNames6 B gr l x na ia a0 w0 L a w
/-- What stands while the region's operations come up. -/
inductive SNames12 (B : Nat) (gs : Nat) (nm : List UInt8) (c1 : Nat) (c2 : Nat) (v1 : Int) (v2 : Int) (b : Bool) (j : Nat) (a0 : Act) (w0 : World) (L : Array Bool) (a : Act) (w : World) : Prop
  | mk (b0 b1 b2 b3 b4 b5 b6 b7 b8 b9 b10 b11 b12 b13 b14 b15 b16 b17 b18 b19 : Bool) (x51 x52 x53 x54 x55 x56 x57 x58 x59 x60 x61 x62 x63 x64 x65 x66 x67 x68 x69 x70 : Value) (hL : L = #[b0, b1, b2, b3, b4, b5, b6, b7, b8, b9, b10, b11, b12, b13, b14, b15, b16, b17, b18, b19]) (ha : a = ⟨((((((((((((((((((((a0.tmps.setIfInBounds 51 x51).setIfInBounds 52 x52).setIfInBounds 53 x53).setIfInBounds 54 x54).setIfInBounds 55 x55).setIfInBounds 56 x56).setIfInBounds 57 x57).setIfInBounds 58 x58).setIfInBounds 59 x59).setIfInBounds 60 x60).setIfInBounds 61 x61).setIfInBounds 62 x62).setIfInBounds 63 x63).setIfInBounds 64 x64).setIfInBounds 65 x65).setIfInBounds 66 x66).setIfInBounds 67 x67).setIfInBounds 68 x68).setIfInBounds 69 x69).setIfInBounds 70 x70), a0.defers⟩) (hb : Below B w0 w) (cd0 : Hid (b0 = true → x51 = .agg #[.string (bsOf nm), .slice (some ⟨c1, 0, none⟩) 1 1, .int .i64 0, .bool false])) (cd1 : Hid (b1 = true → x52 = .int .i64 v1)) (cd2 : Hid (b2 = true → x53 = .bool b)) (cd3 : Hid (b3 = true → x54 = .slice (some ⟨gs, 0, none⟩) 3 3)) (cd4 : Hid (b4 = true → x55 = .int .i64 (j : Nat))) (cd5 : Hid (b5 = true → x56 = .pointer (some ⟨gs, j, none⟩))) (cd6 : Hid (b6 = true → x57 = .string (bsOf nm))) (cd7 : Hid (b7 = true → x58 = .bool b)) (cd8 : Hid (b8 = true → x59 = .bool false)) (cd9 : Hid (b9 = true → x60 = .bool false)) (cd10 : Hid (b10 = true → x61 = .agg #[.string ⟨#[120]⟩, .slice (some ⟨c2, 0, none⟩) 1 1, .int .i64 0, .bool false])) (cd11 : Hid (b11 = true → x62 = .int .i64 v2)) (cd12 : Hid (b12 = true → x63 = .bool b)) (cd13 : Hid (b13 = true → x64 = .slice (some ⟨gs, 0, none⟩) 3 3)) (cd14 : Hid (b14 = true → x65 = .int .i64 (j : Nat))) (cd15 : Hid (b15 = true → x66 = .pointer (some ⟨gs, j, none⟩))) (cd16 : Hid (b16 = true → x67 = .string (bsOf nm))) (cd17 : Hid (b17 = true → x68 = .bool b)) (cd18 : Hid (b18 = true → x69 = .bool false)) (cd19 : Hid (b19 = true → x70 = .bool false)) : SNames12 B gs nm c1 c2 v1 v2 b j a0 w0 L a w
set_option maxRecDepth 100000 in
set_option maxHeartbeats 4000000 in
theorem schemaNames_walk (s : ByteArray) (na : Int) (w : World) (hW : WL w) (_hs : s.size ≤ maxLen) (_hn : (Lit.int .i64 na).wf = true) :
    Calls Tryd.prog 4 #[.string s, .int .i64 na] w (Told w true) := by
  obtain ⟨l, rfl⟩ : ∃ l, s = bsOf l := ⟨_, (bsOf_data s).symm⟩
  have hsz := bsOf_size l
  go_enter Tryd.func4, Tryd.ntmps4
  go_wp2_with fail
  refine (known9 w hW).mono ?_
  rintro e w2 ⟨rfl, b2⟩
  have W2 := hW.past b2
  by_cases h30 : 30 < l.length
  · have h30i : (30 : Int) < ((bsOf l).size : Int) := by rw [hsz]; omega
    clear hsz
    go_wp2_with fail
    go_ret
    exact ⟨rfl, b2⟩
  · have h30i : ¬ ((30 : Int) < ((bsOf l).size : Int)) := by rw [hsz]; omega
    go_upto_region 6 with (go_at_call 20; refine (reserved_any _).mono ?_; rintro e w3 ⟨gr, rfl, R, b3⟩)
    have B3 := b2.trans (b3.mono b2.size)
    have W3 := W2.past b3
    obtain ⟨ia, ha41, HWa⟩ : ∃ ia : Nat, ia < 41 ∧ ∀ w, Calls Tryd.prog 17 #[.int .i64 na, .int .i64 41] w fun e w' => e = .returned (.int .i64 (ia : Nat)) ∧ w = w' := by
      have h1 := wth_lo na 41 (by omega)
      have h2 := wth_hi na 41 (by omega)
      refine ⟨(wth na 41).toNat, by omega, fun w => (within9_any na 41 w (by omega) (by omega)).mono ?_⟩
      rintro e w' ⟨rfl, h⟩
      exact ⟨by rw [Int.toNat_of_nonneg h1], h⟩
    have hai : (ia : Int) < 41 := by omega
    have hc := R.cell ia ha41
    have hxm : wordsB.getD ia [] ∈ wordsB := by
      rw [List.getD_eq_getElem?_getD, List.getElem?_eq_getElem (by rw [wordsB_len]; exact ha41)]
      exact List.getElem_mem _
    have hx12 := wordsB_short _ hxm
    generalize wordsB.getD ia [] = x at hc hx12
    have hgB := R.lt
    have hB0 : w3.heap.size ≤ w3.heap.size := Nat.le_refl _
    have hNx : ¬ 9223372036854775807 < (bsOf x).size + 1 := by rw [bsOf_size]; omega
    clear b2 W2 b3 R hxm ha41 hsz h30i
    refine region_inv (SNames6 w3.heap.size gr l x na ia) (by kernel_rfl) (by kernel_rfl) ?_ ?_ ?_
    · exact ⟨false, false, false, false, false, false, false, false, false, false, false, false, false, false, false, false, false, false, undef, undef, undef, undef, undef, undef, undef, undef, undef, undef, undef, undef, undef, undef, undef, undef, undef, undef, 0, rfl, (by simp only [Act.put, List.setIfInBounds_toArray, List.set_cons_zero, List.set_cons_succ]), Below.refl _ _, (fun h => by cases h), (fun h => by cases h), (fun h => by cases h), (fun h => by cases h), (fun h => by cases h), (fun h => by cases h), (fun h => by cases h), (fun h => by cases h), (fun h => by cases h), (fun h => by cases h), (fun h => by cases h), (fun h => by cases h), (fun h => by cases h), (fun h => by cases h), (fun h => by cases h), (fun h => by cases h), (fun h => by cases h), (fun h => by cases h), (fun h => by cases h), (fun h => by cases h), (fun h => by cases h)⟩
    · refine ⟨?_, ?_, ?_, ?_, ?_, ?_, ?_, ?_, ?_, ?_, ?_, ?_, ?_, ?_, ?_, ?_, ?_, ?_, trivial⟩
      · rintro L a w ⟨b0, b1, b2, b3, b4, b5, b6, b7, b8, b9, b10, b11, b12, b13, b14, b15, b16, b17, x16, x17, x18, x19, x20, x21, x22, x23, x24, x25, x26, x27, x28, x29, x30, x31, x32, x6, gs, rfl, rfl, hb, cd0, cd1, cd2, cd3, cd4, cd5, cd6, cd7, cd8, cd9, cd10, cd11, cd12, cd13, cd14, cd15, cd16, cd17, f_n3, f_lg, w_17_16⟩ hf hd
        have hf' : b0 = false := hf
        subst hf'
        clear hf hd
        try simp only [List.setIfInBounds_toArray, List.set_cons_zero, List.set_cons_succ]
        intro K hK
        rw [if_pos (by rfl)]
        go_simp
        exact hK.out _ _ ⟨true, b1, b2, b3, b4, b5, b6, b7, b8, b9, b10, b11, b12, b13, b14, b15, b16, b17, (.string (bsOf l)), x17, x18, x19, x20, x21, x22, x23, x24, x25, x26, x27, x28, x29, x30, x31, x32, x6, gs, (by simp only [Act.put, List.setIfInBounds_toArray, List.set_cons_zero, List.set_cons_succ]), (by simp only [Act.put, List.setIfInBounds_toArray, List.set_cons_zero, List.set_cons_succ]), hb, (fun _ => rfl), cd1, cd2, cd3, cd4, cd5, cd6, cd7, cd8, cd9, cd10, cd11, cd12, cd13, cd14, cd15, cd16, cd17, f_n3, f_lg, w_17_16⟩
      · rintro L a w ⟨b0, b1, b2, b3, b4, b5, b6, b7, b8, b9, b10, b11, b12, b13, b14, b15, b16, b17, x16, x17, x18, x19, x20, x21, x22, x23, x24, x25, x26, x27, x28, x29, x30, x31, x32, x6, gs, rfl, rfl, hb, cd0, cd1, cd2, cd3, cd4, cd5, cd6, cd7, cd8, cd9, cd10, cd11, cd12, cd13, cd14, cd15, cd16, cd17, f_n3, f_lg, w_17_16⟩ hf hd
        have hf' : b1 = false := hf
        subst hf'
        clear hf hd
        try simp only [List.setIfInBounds_toArray, List.set_cons_zero, List.set_cons_succ]
        intro K hK
        rw [if_pos (by rfl)]
        go_simp
        exact hK.out _ _ ⟨b0, true, b2, b3, b4, b5, b6, b7, b8, b9, b10, b11, b12, b13, b14, b15, b16, b17, x16, (.slice (some ⟨gr, 0, none⟩) 41 41), x18, x19, x20, x21, x22, x23, x24, x25, x26, x27, x28, x29, x30, x31, x32, x6, gs, (by simp only [Act.put, List.setIfInBounds_toArray, List.set_cons_zero, List.set_cons_succ]), (by simp only [Act.put, List.setIfInBounds_toArray, List.set_cons_zero, List.set_cons_succ]), hb, cd0, (fun _ => rfl), cd2, cd3, cd4, cd5, cd6, cd7, cd8, cd9, cd10, cd11, cd12, cd13, cd14, cd15, cd16, cd17, f_n3, f_lg, w_17_16⟩
      · rintro L a w ⟨b0, b1, b2, b3, b4, b5, b6, b7, b8, b9, b10, b11, b12, b13, b14, b15, b16, b17, x16, x17, x18, x19, x20, x21, x22, x23, x24, x25, x26, x27, x28, x29, x30, x31, x32, x6, gs, rfl, rfl, hb, cd0, cd1, cd2, cd3, cd4, cd5, cd6, cd7, cd8, cd9, cd10, cd11, cd12, cd13, cd14, cd15, cd16, cd17, f_n3, f_lg, w_17_16⟩ hf hd
        have hf' : b2 = false := hf
        subst hf'
        clear hf hd
        try simp only [List.setIfInBounds_toArray, List.set_cons_zero, List.set_cons_succ]
        intro K hK
        rw [if_pos (by rfl)]
        go_simp
        exact hK.out _ _ ⟨b0, b1, true, b3, b4, b5, b6, b7, b8, b9, b10, b11, b12, b13, b14, b15, b16, b17, x16, x17, (.int .i64 na), x19, x20, x21, x22, x23, x24, x25, x26, x27, x28, x29, x30, x31, x32, x6, gs, (by simp only [Act.put, List.setIfInBounds_toArray, List.set_cons_zero, List.set_cons_succ]), (by simp only [Act.put, List.setIfInBounds_toArray, List.set_cons_zero, List.set_cons_succ]), hb, cd0, cd1, (fun _ => rfl), cd3, cd4, cd5, cd6, cd7, cd8, cd9, cd10, cd11, cd12, cd13, cd14, cd15, cd16, cd17, f_n3, f_lg, w_17_16⟩
      · rintro L a w ⟨b0, b1, b2, b3, b4, b5, b6, b7, b8, b9, b10, b11, b12, b13, b14, b15, b16, b17, x16, x17, x18, x19, x20, x21, x22, x23, x24, x25, x26, x27, x28, x29, x30, x31, x32, x6, gs, rfl, rfl, hb, cd0, cd1, cd2, cd3, cd4, cd5, cd6, cd7, cd8, cd9, cd10, cd11, cd12, cd13, cd14, cd15, cd16, cd17, f_n3, f_lg, w_17_16⟩ hf hd
        have hf' : b3 = false := hf
        subst hf'
        clear hf hd
        try simp only [List.setIfInBounds_toArray, List.set_cons_zero, List.set_cons_succ]
        intro K hK
        rw [if_pos (by rfl)]
        go_simp
        exact hK.out _ _ ⟨b0, b1, b2, true, b4, b5, b6, b7, b8, b9, b10, b11, b12, b13, b14, b15, b16, b17, x16, x17, x18, (.slice (some ⟨gr, 0, none⟩) 41 41), x20, x21, x22, x23, x24, x25, x26, x27, x28, x29, x30, x31, x32, x6, gs, (by simp only [Act.put, List.setIfInBounds_toArray, List.set_cons_zero, List.set_cons_succ]), (by simp only [Act.put, List.setIfInBounds_toArray, List.set_cons_zero, List.set_cons_succ]), hb, cd0, cd1, cd2, (fun _ => rfl), cd4, cd5, cd6, cd7, cd8, cd9, cd10, cd11, cd12, cd13, cd14, cd15, cd16, cd17, f_n3, f_lg, w_17_16⟩
      · rintro L a w ⟨b0, b1, b2, b3, b4, b5, b6, b7, b8, b9, b10, b11, b12, b13, b14, b15, b16, b17, x16, x17, x18, x19, x20, x21, x22, x23, x24, x25, x26, x27, x28, x29, x30, x31, x32, x6, gs, rfl, rfl, hb, cd0, cd1, cd2, cd3, cd4, cd5, cd6, cd7, cd8, cd9, cd10, cd11, cd12, cd13, cd14, cd15, cd16, cd17, f_n3, f_lg, w_17_16⟩ hf hd
        have hf' : b4 = false := hf
        subst hf'
        have d3 : b3 = true := hd ⟨3, .data⟩ (by simp) rfl
        subst d3
        obtain rfl := cd3.out rfl
        clear hf hd
        try simp only [List.setIfInBounds_toArray, List.set_cons_zero, List.set_cons_succ]
        intro K hK
        rw [if_pos (by rfl)]
        go_simp
        exact hK.out _ _ ⟨b0, b1, b2, true, true, b5, b6, b7, b8, b9, b10, b11, b12, b13, b14, b15, b16, b17, x16, x17, x18, .slice (some ⟨gr, 0, none⟩) 41 41, (.int .i64 41), x21, x22, x23, x24, x25, x26, x27, x28, x29, x30, x31, x32, x6, gs, (by simp only [Act.put, List.setIfInBounds_toArray, List.set_cons_zero, List.set_cons_succ]), (by simp only [Act.put, List.setIfInBounds_toArray, List.set_cons_zero, List.set_cons_succ]), hb, cd0, cd1, cd2, (fun _ => rfl), (fun _ => rfl), cd5, cd6, cd7, cd8, cd9, cd10, cd11, cd12, cd13, cd14, cd15, cd16, cd17, f_n3, f_lg, w_17_16⟩
      · rintro L a w ⟨b0, b1, b2, b3, b4, b5, b6, b7, b8, b9, b10, b11, b12, b13, b14, b15, b16, b17, x16, x17, x18, x19, x20, x21, x22, x23, x24, x25, x26, x27, x28, x29, x30, x31, x32, x6, gs, rfl, rfl, hb, cd0, cd1, cd2, cd3, cd4, cd5, cd6, cd7, cd8, cd9, cd10, cd11, cd12, cd13, cd14, cd15, cd16, cd17, f_n3, f_lg, w_17_16⟩ hf hd
        have hf' : b5 = false := hf
        subst hf'
        have d2 : b2 = true := hd ⟨2, .data⟩ (by simp) rfl
        subst d2
        have d4 : b4 = true := hd ⟨4, .data⟩ (by simp) rfl
        subst d4
        obtain rfl := cd2.out rfl
        obtain rfl := cd4.out rfl
        clear hf hd
        try simp only [List.setIfInBounds_toArray, List.set_cons_zero, List.set_cons_succ]
        intro K hK
        rw [if_pos (by rfl)]
        go_simp
        go_at_call 17
        refine (HWa _).mono ?_
        rintro e w' ⟨rfl, rfl⟩
        exact hK.out _ _ ⟨b0, b1, true, b3, true, true, b6, b7, b8, b9, b10, b11, b12, b13, b14, b15, b16, b17, x16, x17, .int .i64 na, x19, .int .i64 41, (.int .i64 (ia : Nat)), x22, x23, x24, x25, x26, x27, x28, x29, x30, x31, x32, x6, gs, (by simp only [Act.put, List.setIfInBounds_toArray, List.set_cons_zero, List.set_cons_succ]), (by simp only [Act.put, List.setIfInBounds_toArray, List.set_cons_zero, List.set_cons_succ]), hb, cd0, cd1, (fun _ => rfl), cd3, (fun _ => rfl), (fun _ => rfl), cd6, cd7, cd8, cd9, cd10, cd11, cd12, cd13, cd14, cd15, cd16, cd17, f_n3, f_lg, w_17_16⟩
      · rintro L a w ⟨b0, b1, b2, b3, b4, b5, b6, b7, b8, b9, b10, b11, b12, b13, b14, b15, b16, b17, x16, x17, x18, x19, x20, x21, x22, x23, x24, x25, x26, x27, x28, x29, x30, x31, x32, x6, gs, rfl, rfl, hb, cd0, cd1, cd2, cd3, cd4, cd5, cd6, cd7, cd8, cd9, cd10, cd11, cd12, cd13, cd14, cd15, cd16, cd17, f_n3, f_lg, w_17_16⟩ hf hd
        have hf' : b6 = false := hf
        subst hf'
        have d1 : b1 = true := hd ⟨1, .data⟩ (by simp) rfl
        subst d1
        have d5 : b5 = true := hd ⟨5, .data⟩ (by simp) rfl
        subst d5
        obtain rfl := cd1.out rfl
        obtain rfl := cd5.out rfl
        clear hf hd
        try simp only [List.setIfInBounds_toArray, List.set_cons_zero, List.set_cons_succ]
        intro K hK
        rw [if_pos (by rfl)]
        go_simp
        exact hK.out _ _ ⟨b0, true, b2, b3, b4, true, true, b7, b8, b9, b10, b11, b12, b13, b14, b15, b16, b17, x16, .slice (some ⟨gr, 0, none⟩) 41 41, x18, x19, x20, .int .i64 (ia : Nat), (.pointer (some ⟨gr, ia, none⟩)), x23, x24, x25, x26, x27, x28, x29, x30, x31, x32, x6, gs, (by simp only [Act.put, List.setIfInBounds_toArray, List.set_cons_zero, List.set_cons_succ]), (by simp only [Act.put, List.setIfInBounds_toArray, List.set_cons_zero, List.set_cons_succ]), hb, cd0, (fun _ => rfl), cd2, cd3, cd4, (fun _ => rfl), (fun _ => rfl), cd7, cd8, cd9, cd10, cd11, cd12, cd13, cd14, cd15, cd16, cd17, f_n3, f_lg, w_17_16⟩
      · rintro L a w ⟨b0, b1, b2, b3, b4, b5, b6, b7, b8, b9, b10, b11, b12, b13, b14, b15, b16, b17, x16, x17, x18, x19, x20, x21, x22, x23, x24, x25, x26, x27, x28, x29, x30, x31, x32, x6, gs, rfl, rfl, hb, cd0, cd1, cd2, cd3, cd4, cd5, cd6, cd7, cd8, cd9, cd10, cd11, cd12, cd13, cd14, cd15, cd16, cd17, f_n3, f_lg, w_17_16⟩ hf hd
        have hf' : b7 = false := hf
        subst hf'
        have d6 : b6 = true := hd ⟨6, .data⟩ (by simp) rfl
        subst d6
        obtain rfl := cd6.out rfl
        clear hf hd
        try simp only [List.setIfInBounds_toArray, List.set_cons_zero, List.set_cons_succ]
        have z := (hb.cell hgB).trans hc
        intro K hK
        rw [if_pos (by rfl)]
        go_simp
        exact hK.out _ _ ⟨b0, b1, b2, b3, b4, b5, true, true, b8, b9, b10, b11, b12, b13, b14, b15, b16, b17, x16, x17, x18, x19, x20, x21, .pointer (some ⟨gr, ia, none⟩), (.string (bsOf x)), x24, x25, x26, x27, x28, x29, x30, x31, x32, x6, gs, (by simp only [Act.put, List.setIfInBounds_toArray, List.set_cons_zero, List.set_cons_succ]), (by simp only [Act.put, List.setIfInBounds_toArray, List.set_cons_zero, List.set_cons_succ]), hb, cd0, cd1, cd2, cd3, cd4, cd5, (fun _ => rfl), (fun _ => rfl), cd8, cd9, cd10, cd11, cd12, cd13, cd14, cd15, cd16, cd17, f_n3, f_lg, w_17_16⟩
      · rintro L a w ⟨b0, b1, b2, b3, b4, b5, b6, b7, b8, b9, b10, b11, b12, b13, b14, b15, b16, b17, x16, x17, x18, x19, x20, x21, x22, x23, x24, x25, x26, x27, x28, x29, x30, x31, x32, x6, gs, rfl, rfl, hb, cd0, cd1, cd2, cd3, cd4, cd5, cd6, cd7, cd8, cd9, cd10, cd11, cd12, cd13, cd14, cd15, cd16, cd17, f_n3, f_lg, w_17_16⟩ hf hd
        have hf' : b8 = false := hf
        subst hf'
        clear hf hd
        try simp only [List.setIfInBounds_toArray, List.set_cons_zero, List.set_cons_succ]
        intro K hK
        rw [if_pos (by rfl)]
        go_simp
        exact hK.out _ _ ⟨b0, b1, b2, b3, b4, b5, b6, b7, true, b9, b10, b11, b12, b13, b14, b15, b16, b17, x16, x17, x18, x19, x20, x21, x22, x23, (.slice (some ⟨gr, 0, none⟩) 41 41), x25, x26, x27, x28, x29, x30, x31, x32, x6, gs, (by simp only [Act.put, List.setIfInBounds_toArray, List.set_cons_zero, List.set_cons_succ]), (by simp only [Act.put, List.setIfInBounds_toArray, List.set_cons_zero, List.set_cons_succ]), hb, cd0, cd1, cd2, cd3, cd4, cd5, cd6, cd7, (fun _ => rfl), cd9, cd10, cd11, cd12, cd13, cd14, cd15, cd16, cd17, f_n3, f_lg, w_17_16⟩
      · rintro L a w ⟨b0, b1, b2, b3, b4, b5, b6, b7, b8, b9, b10, b11, b12, b13, b14, b15, b16, b17, x16, x17, x18, x19, x20, x21, x22, x23, x24, x25, x26, x27, x28, x29, x30, x31, x32, x6, gs, rfl, rfl, hb, cd0, cd1, cd2, cd3, cd4, cd5, cd6, cd7, cd8, cd9, cd10, cd11, cd12, cd13, cd14, cd15, cd16, cd17, f_n3, f_lg, w_17_16⟩ hf hd
        have hf' : b9 = false := hf
        subst hf'
        clear hf hd
        try simp only [List.setIfInBounds_toArray, List.set_cons_zero, List.set_cons_succ]
        intro K hK
        rw [if_pos (by rfl)]
        go_simp
        exact hK.out _ _ ⟨b0, b1, b2, b3, b4, b5, b6, b7, b8, true, b10, b11, b12, b13, b14, b15, b16, b17, x16, x17, x18, x19, x20, x21, x22, x23, x24, (.int .i64 na), x26, x27, x28, x29, x30, x31, x32, x6, gs, (by simp only [Act.put, List.setIfInBounds_toArray, List.set_cons_zero, List.set_cons_succ]), (by simp only [Act.put, List.setIfInBounds_toArray, List.set_cons_zero, List.set_cons_succ]), hb, cd0, cd1, cd2, cd3, cd4, cd5, cd6, cd7, cd8, (fun _ => rfl), cd10, cd11, cd12, cd13, cd14, cd15, cd16, cd17, f_n3, f_lg, w_17_16⟩
      · rintro L a w ⟨b0, b1, b2, b3, b4, b5, b6, b7, b8, b9, b10, b11, b12, b13, b14, b15, b16, b17, x16, x17, x18, x19, x20, x21, x22, x23, x24, x25, x26, x27, x28, x29, x30, x31, x32, x6, gs, rfl, rfl, hb, cd0, cd1, cd2, cd3, cd4, cd5, cd6, cd7, cd8, cd9, cd10, cd11, cd12, cd13, cd14, cd15, cd16, cd17, f_n3, f_lg, w_17_16⟩ hf hd
        have hf' : b10 = false := hf
        subst hf'
        clear hf hd
        try simp only [List.setIfInBounds_toArray, List.set_cons_zero, List.set_cons_succ]
        intro K hK
        rw [if_pos (by rfl)]
        go_simp
        exact hK.out _ _ ⟨b0, b1, b2, b3, b4, b5, b6, b7, b8, b9, true, b11, b12, b13, b14, b15, b16, b17, x16, x17, x18, x19, x20, x21, x22, x23, x24, x25, (.slice (some ⟨gr, 0, none⟩) 41 41), x27, x28, x29, x30, x31, x32, x6, gs, (by simp only [Act.put, List.setIfInBounds_toArray, List.set_cons_zero, List.set_cons_succ]), (by simp only [Act.put, List.setIfInBounds_toArray, List.set_cons_zero, List.set_cons_succ]), hb, cd0, cd1, cd2, cd3, cd4, cd5, cd6, cd7, cd8, cd9, (fun _ => rfl), cd11, cd12, cd13, cd14, cd15, cd16, cd17, f_n3, f_lg, w_17_16⟩
      · rintro L a w ⟨b0, b1, b2, b3, b4, b5, b6, b7, b8, b9, b10, b11, b12, b13, b14, b15, b16, b17, x16, x17, x18, x19, x20, x21, x22, x23, x24, x25, x26, x27, x28, x29, x30, x31, x32, x6, gs, rfl, rfl, hb, cd0, cd1, cd2, cd3, cd4, cd5, cd6, cd7, cd8, cd9, cd10, cd11, cd12, cd13, cd14, cd15, cd16, cd17, f_n3, f_lg, w_17_16⟩ hf hd
        have hf' : b11 = false := hf
        subst hf'
        have d10 : b10 = true := hd ⟨10, .data⟩ (by simp) rfl
        subst d10
        obtain rfl := cd10.out rfl
        clear hf hd
        try simp only [List.setIfInBounds_toArray, List.set_cons_zero, List.set_cons_succ]
        intro K hK
        rw [if_pos (by rfl)]
        go_simp
        exact hK.out _ _ ⟨b0, b1, b2, b3, b4, b5, b6, b7, b8, b9, true, true, b12, b13, b14, b15, b16, b17, x16, x17, x18, x19, x20, x21, x22, x23, x24, x25, .slice (some ⟨gr, 0, none⟩) 41 41, (.int .i64 41), x28, x29, x30, x31, x32, x6, gs, (by simp only [Act.put, List.setIfInBounds_toArray, List.set_cons_zero, List.set_cons_succ]), (by simp only [Act.put, List.setIfInBounds_toArray, List.set_cons_zero, List.set_cons_succ]), hb, cd0, cd1, cd2, cd3, cd4, cd5, cd6, cd7, cd8, cd9, (fun _ => rfl), (fun _ => rfl), cd12, cd13, cd14, cd15, cd16, cd17, f_n3, f_lg, w_17_16⟩
      · rintro L a w ⟨b0, b1, b2, b3, b4, b5, b6, b7, b8, b9, b10, b11, b12, b13, b14, b15, b16, b17, x16, x17, x18, x19, x20, x21, x22, x23, x24, x25, x26, x27, x28, x29, x30, x31, x32, x6, gs, rfl, rfl, hb, cd0, cd1, cd2, cd3, cd4, cd5, cd6, cd7, cd8, cd9, cd10, cd11, cd12, cd13, cd14, cd15, cd16, cd17, f_n3, f_lg, w_17_16⟩ hf hd
        have hf' : b12 = false := hf
        subst hf'
        have d9 : b9 = true := hd ⟨9, .data⟩ (by simp) rfl
        subst d9
        have d11 : b11 = true := hd ⟨11, .data⟩ (by simp) rfl
        subst d11
        have d5 : b5 = true := hd ⟨5, .chain⟩ (by simp) rfl
        subst d5
        obtain rfl := cd9.out rfl
        obtain rfl := cd11.out rfl
        obtain rfl := cd5.out rfl
        clear hf hd
        try simp only [List.setIfInBounds_toArray, List.set_cons_zero, List.set_cons_succ]
        intro K hK
        rw [if_pos (by rfl)]
        go_simp
        go_at_call 17
        refine (HWa _).mono ?_
        rintro e w' ⟨rfl, rfl⟩
        exact hK.out _ _ ⟨b0, b1, b2, b3, b4, true, b6, b7, b8, true, b10, true, true, b13, b14, b15, b16, b17, x16, x17, x18, x19, x20, .int .i64 (ia : Nat), x22, x23, x24, .int .i64 na, x26, .int .i64 41, (.int .i64 (ia : Nat)), x29, x30, x31, x32, x6, gs, (by simp only [Act.put, List.setIfInBounds_toArray, List.set_cons_zero, List.set_cons_succ]), (by simp only [Act.put, List.setIfInBounds_toArray, List.set_cons_zero, List.set_cons_succ]), hb, cd0, cd1, cd2, cd3, cd4, (fun _ => rfl), cd6, cd7, cd8, (fun _ => rfl), cd10, (fun _ => rfl), (fun _ => rfl), cd13, cd14, cd15, cd16, cd17, f_n3, f_lg, w_17_16⟩
      · rintro L a w ⟨b0, b1, b2, b3, b4, b5, b6, b7, b8, b9, b10, b11, b12, b13, b14, b15, b16, b17, x16, x17, x18, x19, x20, x21, x22, x23, x24, x25, x26, x27, x28, x29, x30, x31, x32, x6, gs, rfl, rfl, hb, cd0, cd1, cd2, cd3, cd4, cd5, cd6, cd7, cd8, cd9, cd10, cd11, cd12, cd13, cd14, cd15, cd16, cd17, f_n3, f_lg, w_17_16⟩ hf hd
        have hf' : b13 = false := hf
        subst hf'
        have d8 : b8 = true := hd ⟨8, .data⟩ (by simp) rfl
        subst d8
        have d12 : b12 = true := hd ⟨12, .data⟩ (by simp) rfl
        subst d12
        obtain rfl := cd8.out rfl
        obtain rfl := cd12.out rfl
        clear hf hd
        try simp only [List.setIfInBounds_toArray, List.set_cons_zero, List.set_cons_succ]
        intro K hK
        rw [if_pos (by rfl)]
        go_simp
        exact hK.out _ _ ⟨b0, b1, b2, b3, b4, b5, b6, b7, true, b9, b10, b11, true, true, b14, b15, b16, b17, x16, x17, x18, x19, x20, x21, x22, x23, .slice (some ⟨gr, 0, none⟩) 41 41, x25, x26, x27, .int .i64 (ia : Nat), (.pointer (some ⟨gr, ia, none⟩)), x30, x31, x32, x6, gs, (by simp only [Act.put, List.setIfInBounds_toArray, List.set_cons_zero, List.set_cons_succ]), (by simp only [Act.put, List.setIfInBounds_toArray, List.set_cons_zero, List.set_cons_succ]), hb, cd0, cd1, cd2, cd3, cd4, cd5, cd6, cd7, (fun _ => rfl), cd9, cd10, cd11, (fun _ => rfl), (fun _ => rfl), cd14, cd15, cd16, cd17, f_n3, f_lg, w_17_16⟩
      · rintro L a w ⟨b0, b1, b2, b3, b4, b5, b6, b7, b8, b9, b10, b11, b12, b13, b14, b15, b16, b17, x16, x17, x18, x19, x20, x21, x22, x23, x24, x25, x26, x27, x28, x29, x30, x31, x32, x6, gs, rfl, rfl, hb, cd0, cd1, cd2, cd3, cd4, cd5, cd6, cd7, cd8, cd9, cd10, cd11, cd12, cd13, cd14, cd15, cd16, cd17, f_n3, f_lg, w_17_16⟩ hf hd
        have hf' : b14 = false := hf
        subst hf'
        have d13 : b13 = true := hd ⟨13, .data⟩ (by simp) rfl
        subst d13
        obtain rfl := cd13.out rfl
        clear hf hd
        try simp only [List.setIfInBounds_toArray, List.set_cons_zero, List.set_cons_succ]
        have z := (hb.cell hgB).trans hc
        intro K hK
        rw [if_pos (by rfl)]
        go_simp
        exact hK.out _ _ ⟨b0, b1, b2, b3, b4, b5, b6, b7, b8, b9, b10, b11, b12, true, true, b15, b16, b17, x16, x17, x18, x19, x20, x21, x22, x23, x24, x25, x26, x27, x28, .pointer (some ⟨gr, ia, none⟩), (.string (bsOf x)), x31, x32, x6, gs, (by simp only [Act.put, List.setIfInBounds_toArray, List.set_cons_zero, List.set_cons_succ]), (by simp only [Act.put, List.setIfInBounds_toArray, List.set_cons_zero, List.set_cons_succ]), hb, cd0, cd1, cd2, cd3, cd4, cd5, cd6, cd7, cd8, cd9, cd10, cd11, cd12, (fun _ => rfl), (fun _ => rfl), cd15, cd16, cd17, f_n3, f_lg, w_17_16⟩
      · rintro L a w ⟨b0, b1, b2, b3, b4, b5, b6, b7, b8, b9, b10, b11, b12, b13, b14, b15, b16, b17, x16, x17, x18, x19, x20, x21, x22, x23, x24, x25, x26, x27, x28, x29, x30, x31, x32, x6, gs, rfl, rfl, hb, cd0, cd1, cd2, cd3, cd4, cd5, cd6, cd7, cd8, cd9, cd10, cd11, cd12, cd13, cd14, cd15, cd16, cd17, f_n3, f_lg, w_17_16⟩ hf hd
        have hf' : b15 = false := hf
        subst hf'
        have d14 : b14 = true := hd ⟨14, .data⟩ (by simp) rfl
        subst d14
        obtain rfl := cd14.out rfl
        clear hf hd
        try simp only [List.setIfInBounds_toArray, List.set_cons_zero, List.set_cons_succ]
        intro K hK
        rw [if_pos (by rfl)]
        go_simp
        exact hK.out _ _ ⟨b0, b1, b2, b3, b4, b5, b6, b7, b8, b9, b10, b11, b12, b13, true, true, b16, b17, x16, x17, x18, x19, x20, x21, x22, x23, x24, x25, x26, x27, x28, x29, .string (bsOf x), (.string (bsOf x ++ ⟨#[95]⟩)), x32, x6, gs, (by simp only [Act.put, List.setIfInBounds_toArray, List.set_cons_zero, List.set_cons_succ]), (by simp only [Act.put, List.setIfInBounds_toArray, List.set_cons_zero, List.set_cons_succ]), hb, cd0, cd1, cd2, cd3, cd4, cd5, cd6, cd7, cd8, cd9, cd10, cd11, cd12, cd13, (fun _ => rfl), (fun _ => rfl), cd16, cd17, f_n3, f_lg, w_17_16⟩
      · rintro L a w ⟨b0, b1, b2, b3, b4, b5, b6, b7, b8, b9, b10, b11, b12, b13, b14, b15, b16, b17, x16, x17, x18, x19, x20, x21, x22, x23, x24, x25, x26, x27, x28, x29, x30, x31, x32, x6, gs, rfl, rfl, hb, cd0, cd1, cd2, cd3, cd4, cd5, cd6, cd7, cd8, cd9, cd10, cd11, cd12, cd13, cd14, cd15, cd16, cd17, f_n3, f_lg, w_17_16⟩ hf hd
        have hf' : b16 = false := hf
        subst hf'
        have d0 : b0 = true := hd ⟨0, .data⟩ (by simp) rfl
        subst d0
        have d7 : b7 = true := hd ⟨7, .data⟩ (by simp) rfl
        subst d7
        have d15 : b15 = true := hd ⟨15, .data⟩ (by simp) rfl
        subst d15
        obtain rfl := cd0.out rfl
        obtain rfl := cd7.out rfl
        obtain rfl := cd15.out rfl
        clear hf hd
        try simp only [List.setIfInBounds_toArray, List.set_cons_zero, List.set_cons_succ]
        intro K hK
        rw [if_pos (by rfl)]
        go_simp
        have bx : Below w.heap.size w (w.alloc (.cells #[.string (bsOf l), .string (bsOf x), .string (bsOf x ++ ⟨#[95]⟩)] 9)) := (Below.refl _ _).alloc (Nat.le_refl _) _
        have i2 : Ns3 (w.alloc (.cells #[.string (bsOf l), .string (bsOf x), .string (bsOf x ++ ⟨#[95]⟩)] 9)) w.heap.size l x := heap_alloc_new w _
        have e_17 : b17 = false := by cases hq : b17 with | false => rfl | true => exact absurd (w_17_16.out hq) (by simp)
        subst e_17
        exact hK.out _ _ ⟨true, b1, b2, b3, b4, b5, b6, true, b8, b9, b10, b11, b12, b13, b14, true, true, false, .string (bsOf l), x17, x18, x19, x20, x21, x22, .string (bsOf x), x24, x25, x26, x27, x28, x29, x30, .string (bsOf x ++ ⟨#[95]⟩), (.slice (some ⟨(w.heap.size), 0, none⟩) 3 3), x6, w.heap.size, (by simp only [Act.put, List.setIfInBounds_toArray, List.set_cons_zero, List.set_cons_succ]), (by simp only [Act.put, List.setIfInBounds_toArray, List.set_cons_zero, List.set_cons_succ]), hb.trans (bx.mono (Nat.le_trans hB0 hb.size)), (fun _ => rfl), cd1, cd2, cd3, cd4, cd5, cd6, (fun _ => rfl), cd8, cd9, cd10, cd11, cd12, cd13, cd14, (fun _ => rfl), (fun _ => rfl), (fun h => by cases h), (fun _ => i2), (fun _ => hb.size), (fun _ => rfl)⟩
      · rintro L a w ⟨b0, b1, b2, b3, b4, b5, b6, b7, b8, b9, b10, b11, b12, b13, b14, b15, b16, b17, x16, x17, x18, x19, x20, x21, x22, x23, x24, x25, x26, x27, x28, x29, x30, x31, x32, x6, gs, rfl, rfl, hb, cd0, cd1, cd2, cd3, cd4, cd5, cd6, cd7, cd8, cd9, cd10, cd11, cd12, cd13, cd14, cd15, cd16, cd17, f_n3, f_lg, w_17_16⟩ hf hd
        have hf' : b17 = false := hf
        subst hf'
        have d16 : b16 = true := hd ⟨16, .data⟩ (by simp) rfl
        subst d16
        have d12 : b12 = true := hd ⟨12, .chain⟩ (by simp) rfl
        subst d12
        have d0 : b0 = true := hd ⟨0, .phase⟩ (by simp) rfl
        subst d0
        have d1 : b1 = true := hd ⟨1, .phase⟩ (by simp) rfl
        subst d1
        have d2 : b2 = true := hd ⟨2, .phase⟩ (by simp) rfl
        subst d2
        have d3 : b3 = true := hd ⟨3, .phase⟩ (by simp) rfl
        subst d3
        have d4 : b4 = true := hd ⟨4, .phase⟩ (by simp) rfl
        subst d4
        have d5 : b5 = true := hd ⟨5, .phase⟩ (by simp) rfl
        subst d5
        have d6 : b6 = true := hd ⟨6, .phase⟩ (by simp) rfl
        subst d6
        have d7 : b7 = true := hd ⟨7, .phase⟩ (by simp) rfl
        subst d7
        have d8 : b8 = true := hd ⟨8, .phase⟩ (by simp) rfl
        subst d8
        have d9 : b9 = true := hd ⟨9, .phase⟩ (by simp) rfl
        subst d9
        have d10 : b10 = true := hd ⟨10, .phase⟩ (by simp) rfl
        subst d10
        have d11 : b11 = true := hd ⟨11, .phase⟩ (by simp) rfl
        subst d11
        have d13 : b13 = true := hd ⟨13, .phase⟩ (by simp) rfl
        subst d13
        have d14 : b14 = true := hd ⟨14, .phase⟩ (by simp) rfl
        subst d14
        have d15 : b15 = true := hd ⟨15, .phase⟩ (by simp) rfl
        subst d15
        obtain rfl := cd16.out rfl
        obtain rfl := cd12.out rfl
        obtain rfl := cd0.out rfl
        obtain rfl := cd1.out rfl
        obtain rfl := cd2.out rfl
        obtain rfl := cd3.out rfl
        obtain rfl := cd4.out rfl
        obtain rfl := cd5.out rfl
        obtain rfl := cd6.out rfl
        obtain rfl := cd7.out rfl
        obtain rfl := cd8.out rfl
        obtain rfl := cd9.out rfl
        obtain rfl := cd10.out rfl
        obtain rfl := cd11.out rfl
        obtain rfl := cd13.out rfl
        obtain rfl := cd14.out rfl
        obtain rfl := cd15.out rfl
        clear hf hd
        have W_n3 := f_n3.out rfl
        have W_lg := f_lg.out rfl
        try simp only [List.setIfInBounds_toArray, List.set_cons_zero, List.set_cons_succ]
        intro K hK
        rw [if_pos (by rfl)]
        go_simp
        exact hK.out _ _ ⟨true, true, true, true, true, true, true, true, true, true, true, true, true, true, true, true, true, true, .string (bsOf l), .slice (some ⟨gr, 0, none⟩) 41 41, .int .i64 na, .slice (some ⟨gr, 0, none⟩) 41 41, .int .i64 41, .int .i64 (ia : Nat), .pointer (some ⟨gr, ia, none⟩), .string (bsOf x), .slice (some ⟨gr, 0, none⟩) 41 41, .int .i64 na, .slice (some ⟨gr, 0, none⟩) 41 41, .int .i64 41, .int .i64 (ia : Nat), .pointer (some ⟨gr, ia, none⟩), .string (bsOf x), .string (bsOf x ++ ⟨#[95]⟩), .slice (some ⟨gs, 0, none⟩) 3 3, (.slice (some ⟨gs, 0, none⟩) 3 3), gs, (by simp only [Act.put, List.setIfInBounds_toArray, List.set_cons_zero, List.set_cons_succ]), (by simp only [Act.put, List.setIfInBounds_toArray, List.set_cons_zero, List.set_cons_succ]), hb, (fun _ => rfl), (fun _ => rfl), (fun _ => rfl), (fun _ => rfl), (fun _ => rfl), (fun _ => rfl), (fun _ => rfl), (fun _ => rfl), (fun _ => rfl), (fun _ => rfl), (fun _ => rfl), (fun _ => rfl), (fun _ => rfl), (fun _ => rfl), (fun _ => rfl), (fun _ => rfl), (fun _ => rfl), (fun _ => rfl), f_n3, f_lg, (fun _ => rfl)⟩
    · rintro act V ⟨b0, b1, b2, b3, b4, b5, b6, b7, b8, b9, b10, b11, b12, b13, b14, b15, b16, b17, x16, x17, x18, x19, x20, x21, x22, x23, x24, x25, x26, x27, x28, x29, x30, x31, x32, x6, gs, hL, rfl, hb, cd0, cd1, cd2, cd3, cd4, cd5, cd6, cd7, cd8, cd9, cd10, cd11, cd12, cd13, cd14, cd15, cd16, cd17, f_n3, f_lg, w_17_16⟩
      have hL' : [true, true, true, true, true, true, true, true, true, true, true, true, true, true, true, true, true, true] = [b0, b1, b2, b3, b4, b5, b6, b7, b8, b9, b10, b11, b12, b13, b14, b15, b16, b17] := congrArg Array.toList hL
      simp only [List.cons.injEq, and_true] at hL'
      obtain ⟨rfl, rfl, rfl, rfl, rfl, rfl, rfl, rfl, rfl, rfl, rfl, rfl, rfl, rfl, rfl, rfl, rfl, rfl⟩ := hL'
      obtain rfl := cd0.out rfl
      obtain rfl := cd1.out rfl
      obtain rfl := cd2.out rfl
      obtain rfl := cd3.out rfl
      obtain rfl := cd4.out rfl
      obtain rfl := cd5.out rfl
      obtain rfl := cd6.out rfl
      obtain rfl := cd7.out rfl
      obtain rfl := cd8.out rfl
      obtain rfl := cd9.out rfl
      obtain rfl := cd10.out rfl
      obtain rfl := cd11.out rfl
      obtain rfl := cd12.out rfl
      obtain rfl := cd13.out rfl
      obtain rfl := cd14.out rfl
      obtain rfl := cd15.out rfl
      obtain rfl := cd16.out rfl
      obtain rfl := cd17.out rfl
      have W_n3 := f_n3.out rfl
      have W_lg := f_lg.out rfl
      clear hL f_n3 f_lg cd0 cd1 cd2 cd3 cd4 cd5 cd6 cd7 cd8 cd9 cd10 cd11 cd12 cd13 cd14 cd15 cd16 cd17 w_17_16
      simp only [List.setIfInBounds_toArray, List.set_cons_zero, List.set_cons_succ]
      have hbV : Below w3.heap.size w3 V := (Below.refl _ _).drew.trans hb
      have WV := W3.past hbV
      have BV := B3.trans (hbV.mono B3.size)
      clear hb hbV W3 B3 hc hgB hB0 hNx HWa hai W_lg hW
      go_wp2_with fail
      go_loopw [7] (fun i wr => ∃ j : Nat, j ≤ 3 ∧ i = .int .i64 (j : Nat) ∧ Ns3 wr gs l x ∧ WL wr ∧ Below w.heap.size w wr) (fun i _ => 3 - (intOf i).toNat)
      case atStart => exact ⟨0, by omega, rfl, W_n3, WV, BV⟩
      case round =>
        clear W_n3 WV BV
        obtain ⟨j, hj, rfl, NS, WR, BR⟩ := hrel
        by_cases hlt : j < 3
        · have hlt3 : (j : Int) < 3 := by omega
          obtain ⟨nm, hnm, hcell⟩ := NS.cell j hlt
          have hnl : nm.length ≤ 1000000 := by
            rcases hnm with rfl | rfl | rfl
            · omega
            · omega
            · rw [List.length_append]
              show x.length + 1 ≤ 1000000
              omega
          clear hnm
          have Nwr := NS
          have Lwr := WR
          have Pwr := BR
          clear NS WR BR
          go_upto_region 11 with fail
          have XA : ScB ((wr.alloc (.cells #[.string ⟨#[97]⟩, .int .i64 2, .bool false] 35)).alloc (.cells #[.string (bsOf nm), .slice (some ⟨wr.heap.size, 0, none⟩) 1 1, .int .i64 0, .bool false] 24)) (wr.heap.size + 1) nm (some ⟨wr.heap.size, 0, none⟩) 1 1 0 false := by
            have h := heap_alloc_new (wr.alloc (.cells #[.string ⟨#[97]⟩, .int .i64 2, .bool false] 35)) (.cells #[.string (bsOf nm), .slice (some ⟨wr.heap.size, 0, none⟩) 1 1, .int .i64 0, .bool false] 24)
            rw [World.size_alloc] at h
            exact h
          have OA' : OwnR encCo (wr.alloc (.cells #[.string ⟨#[97]⟩, .int .i64 2, .bool false] 35)) 35 wr.heap.size 1 1 [⟨[97], 2, false⟩] := OwnR.ofBlk (E := encCo) (l := [⟨[97], 2, false⟩]) (n := 1) (heap_alloc_new wr _) rfl rfl (by omega)
          have OA := OA'.alloc (.cells #[.string (bsOf nm), .slice (some ⟨wr.heap.size, 0, none⟩) 1 1, .int .i64 0, .bool false] 24)
          have BA : Below wr.heap.size wr ((wr.alloc (.cells #[.string ⟨#[97]⟩, .int .i64 2, .bool false] 35)).alloc (.cells #[.string (bsOf nm), .slice (some ⟨wr.heap.size, 0, none⟩) 1 1, .int .i64 0, .bool false] 24)) := ((Below.refl _ _).alloc (Nat.le_refl _) _).alloc (by simp) _
          generalize ((wr.alloc (.cells #[.string ⟨#[97]⟩, .int .i64 2, .bool false] 35)).alloc (.cells #[.string (bsOf nm), .slice (some ⟨wr.heap.size, 0, none⟩) 1 1, .int .i64 0, .bool false] 24)) = V0 at XA OA BA ⊢
          clear OA'
          have NV0 := Nwr.past BA
          have LV0 := Lwr.past BA
          have PV0 := Pwr.trans (BA.mono Pwr.size)
          have hV0j : V0.cell? ⟨gs, j, none⟩ = some (.string (bsOf nm)) := (BA.cell Nwr.lt).trans hcell
          obtain ⟨p8, hp8⟩ : ∃ p8, wr.heap.size + 1 = p8 := ⟨_, rfl⟩
          rw [hp8] at XA
          simp only [hp8]
          obtain ⟨c1, hc1⟩ : ∃ c1, wr.heap.size = c1 := ⟨_, rfl⟩
          rw [hc1] at XA OA
          simp only [hc1]
          clear hp8
          clear hc1 BA Nwr Lwr Pwr
          go_upto_region 12 with fail
          have XB : ScB ((V0.alloc (.cells #[.string (bsOf nm), .int .i64 2, .bool false] 35)).alloc (.cells #[.string ⟨#[120]⟩, .slice (some ⟨V0.heap.size, 0, none⟩) 1 1, .int .i64 0, .bool false] 24)) (V0.heap.size + 1) [120] (some ⟨V0.heap.size, 0, none⟩) 1 1 0 false := by
            have h := heap_alloc_new (V0.alloc (.cells #[.string (bsOf nm), .int .i64 2, .bool false] 35)) (.cells #[.string ⟨#[120]⟩, .slice (some ⟨V0.heap.size, 0, none⟩) 1 1, .int .i64 0, .bool false] 24)
            rw [World.size_alloc] at h
            exact h
          have OB' : OwnR encCo (V0.alloc (.cells #[.string (bsOf nm), .int .i64 2, .bool false] 35)) 35 V0.heap.size 1 1 [⟨nm, 2, false⟩] := OwnR.ofBlk (E := encCo) (l := [⟨nm, 2, false⟩]) (n := 1) (heap_alloc_new V0 _) rfl rfl (by omega)
          have OB := OB'.alloc (.cells #[.string ⟨#[120]⟩, .slice (some ⟨V0.heap.size, 0, none⟩) 1 1, .int .i64 0, .bool false] 24)
          have BB : Below V0.heap.size V0 ((V0.alloc (.cells #[.string (bsOf nm), .int .i64 2, .bool false] 35)).alloc (.cells #[.string ⟨#[120]⟩, .slice (some ⟨V0.heap.size, 0, none⟩) 1 1, .int .i64 0, .bool false] 24)) := ((Below.refl _ _).alloc (Nat.le_refl _) _).alloc (by simp) _
          generalize ((V0.alloc (.cells #[.string (bsOf nm), .int .i64 2, .bool false] 35)).alloc (.cells #[.string ⟨#[120]⟩, .slice (some ⟨V0.heap.size, 0, none⟩) 1 1, .int .i64 0, .bool false] 24)) = V1 at XB OB BB ⊢
          clear OB'
          have NV1 := NV0.past BB
          have LV1 := LV0.past BB
          have PV1 := PV0.trans (BB.mono PV0.size)
          have hV1j : V1.cell? ⟨gs, j, none⟩ = some (.string (bsOf nm)) := (BB.cell NV0.lt).trans hV0j
          obtain ⟨p9, hp9⟩ : ∃ p9, V0.heap.size + 1 = p9 := ⟨_, rfl⟩
          rw [hp9] at XB
          simp only [hp9]
          obtain ⟨c2, hc2⟩ : ∃ c2, V0.heap.size = c2 := ⟨_, rfl⟩
          rw [hc2] at XB OB
          simp only [hc2]
          clear hp9
          have XA1 := ScB.past (show ScB V0 p8 nm (some ⟨c1, 0, none⟩) 1 1 0 false from XA) BB
          have OA1 := OA.past BB
          clear hc2 BB NV0 LV0 PV0 XA OA hcell hV0j
          obtain ⟨b, hb⟩ : ∃ b, (spelt nm && !wordsR.contains nm) = b := ⟨_, rfl⟩
          obtain ⟨v1, hv1⟩ : ∃ v, scE nm [⟨[97], 2, false⟩] 0 = v := ⟨_, rfl⟩
          obtain ⟨v2, hv2⟩ : ∃ v, scE [120] [⟨nm, 2, false⟩] 0 = v := ⟨_, rfl⟩
          have HE1 : Hid ((v1 == 0) = b) := by
            show _ = _
            rw [← hv1, ← hb]
            exact scE_nm nm
          have HE2 : Hid ((v2 == 0) = b) := by
            show _ = _
            rw [← hv2, ← hb]
            exact scE_col nm
          have HRN : ∀ w, Calls Tryd.prog 21 #[.string (bsOf nm)] w fun e w' => e = .returned (.bool b) ∧ Below w.heap.size w w' := fun w => by
            have := refName_any nm hnl w
            rw [hb] at this
            exact this
          have HC1 : ∀ w, Below V1.heap.size V1.drew w → Calls Tryd.prog 12 #[.agg #[.string (bsOf nm), .slice (some ⟨c1, 0, none⟩) 1 1, .int .i64 0, .bool false]] w fun e w' => e = .returned (.int .i64 v1) ∧ Below w.heap.size w w' := fun w k => by
            have k2 : Below V1.heap.size V1 w := (Below.refl _ _).drew.trans k
            have := check_any w nm (some ⟨c1, 0, none⟩) 1 1 [⟨[97], 2, false⟩] 0 false (OA1.past k2).isR hnl (by simp) (LV1.past k2)
            rw [hv1] at this
            exact this
          have HC2 : ∀ w, Below V1.heap.size V1.drew w → Calls Tryd.prog 12 #[.agg #[.string ⟨#[120]⟩, .slice (some ⟨c2, 0, none⟩) 1 1, .int .i64 0, .bool false]] w fun e w' => e = .returned (.int .i64 v2) ∧ Below w.heap.size w w' := fun w k => by
            have k2 : Below V1.heap.size V1 w := (Below.refl _ _).drew.trans k
            have := check_any w [120] (some ⟨c2, 0, none⟩) 1 1 [⟨nm, 2, false⟩] 0 false (OB.past k2).isR (by decide) (by simpa using hnl) (LV1.past k2)
            rw [hv2] at this
            exact this
          have p0 : V1.cell? ⟨p8, 0, none⟩ = some (.string (bsOf nm)) := cell_blk XA1 rfl
          have p1 : V1.cell? ⟨p8, 1, none⟩ = some (.slice (some ⟨c1, 0, none⟩) 1 1) := cell_blk XA1 rfl
          have p2 : V1.cell? ⟨p8, 2, none⟩ = some (.int .i64 0) := cell_blk XA1 rfl
          have p3 : V1.cell? ⟨p8, 3, none⟩ = some (.bool false) := cell_blk XA1 rfl
          have q0 : V1.cell? ⟨p9, 0, none⟩ = some (.string ⟨#[120]⟩) := cell_blk XB rfl
          have q1 : V1.cell? ⟨p9, 1, none⟩ = some (.slice (some ⟨c2, 0, none⟩) 1 1) := cell_blk XB rfl
          have q2 : V1.cell? ⟨p9, 2, none⟩ = some (.int .i64 0) := cell_blk XB rfl
          have q3 : V1.cell? ⟨p9, 3, none⟩ = some (.bool false) := cell_blk XB rfl
          have hcj := hV1j
          have hgs := NV1.lt
          have hp8 := ScB.lt XA1
          have hp9 := ScB.lt (show ScB V1 p9 [120] (some ⟨c2, 0, none⟩) 1 1 0 false from XB)
          have hB0 : V1.heap.size ≤ V1.heap.size := Nat.le_refl _
          clear hb hv1 hv2 OA1 OB XA1 XB hV1j
          refine region_inv (SNames12 V1.heap.size gs nm c1 c2 v1 v2 b j) (by kernel_rfl) (by kernel_rfl) ?_ ?_ ?_
          · exact ⟨false, false, false, false, false, false, false, false, false, false, false, false, false, false, false, false, false, false, false, false, u51, u52, u53, u54, u55, u56, u57, u58, u59, u60, u61, u62, u63, u64, u65, u66, u67, u68, u69, u70, rfl, (by simp only [Act.put, List.setIfInBounds_toArray, List.set_cons_zero, List.set_cons_succ]), Below.refl _ _, (fun h => by cases h), (fun h => by cases h), (fun h => by cases h), (fun h => by cases h), (fun h => by cases h), (fun h => by cases h), (fun h => by cases h), (fun h => by cases h), (fun h => by cases h), (fun h => by cases h), (fun h => by cases h), (fun h => by cases h), (fun h => by cases h), (fun h => by cases h), (fun h => by cases h), (fun h => by cases h), (fun h => by cases h), (fun h => by cases h), (fun h => by cases h), (fun h => by cases h)⟩
          · refine ⟨?_, ?_, ?_, ?_, ?_, ?_, ?_, ?_, ?_, ?_, ?_, ?_, ?_, ?_, ?_, ?_, ?_, ?_, ?_, ?_, trivial⟩
            · rintro L a w ⟨b0, b1, b2, b3, b4, b5, b6, b7, b8, b9, b10, b11, b12, b13, b14, b15, b16, b17, b18, b19, x51, x52, x53, x54, x55, x56, x57, x58, x59, x60, x61, x62, x63, x64, x65, x66, x67, x68, x69, x70, rfl, rfl, hb, cd0, cd1, cd2, cd3, cd4, cd5, cd6, cd7, cd8, cd9, cd10, cd11, cd12, cd13, cd14, cd15, cd16, cd17, cd18, cd19⟩ hf hd
              have hf' : b0 = false := hf
              subst hf'
              clear hf hd
              try simp only [List.setIfInBounds_toArray, List.set_cons_zero, List.set_cons_succ]
              have z0 := (hb.cell hp8).trans p0
              have z1 := (hb.cell hp8).trans p1
              have z2 := (hb.cell hp8).trans p2
              have z3 := (hb.cell hp8).trans p3
              intro K hK
              rw [if_pos (by rfl)]
              go_simp
              exact hK.out _ _ ⟨true, b1, b2, b3, b4, b5, b6, b7, b8, b9, b10, b11, b12, b13, b14, b15, b16, b17, b18, b19, (.agg #[.string (bsOf nm), .slice (some ⟨c1, 0, none⟩) 1 1, .int .i64 0, .bool false]), x52, x53, x54, x55, x56, x57, x58, x59, x60, x61, x62, x63, x64, x65, x66, x67, x68, x69, x70, (by simp only [Act.put, List.setIfInBounds_toArray, List.set_cons_zero, List.set_cons_succ]), (by simp only [Act.put, List.setIfInBounds_toArray, List.set_cons_zero, List.set_cons_succ]), hb, (fun _ => rfl), cd1, cd2, cd3, cd4, cd5, cd6, cd7, cd8, cd9, cd10, cd11, cd12, cd13, cd14, cd15, cd16, cd17, cd18, cd19⟩
            · rintro L a w ⟨b0, b1, b2, b3, b4, b5, b6, b7, b8, b9, b10, b11, b12, b13, b14, b15, b16, b17, b18, b19, x51, x52, x53, x54, x55, x56, x57, x58, x59, x60, x61, x62, x63, x64, x65, x66, x67, x68, x69, x70, rfl, rfl, hb, cd0, cd1, cd2, cd3, cd4, cd5, cd6, cd7, cd8, cd9, cd10, cd11, cd12, cd13, cd14, cd15, cd16, cd17, cd18, cd19⟩ hf hd
              have hf' : b1 = false := hf
              subst hf'
              have d0 : b0 = true := hd ⟨0, .data⟩ (by simp) rfl
              subst d0
              obtain rfl := cd0.out rfl
              clear hf hd
              try simp only [List.setIfInBounds_toArray, List.set_cons_zero, List.set_cons_succ]
              intro K hK
              rw [if_pos (by rfl)]
              go_simp
              go_at_call 12
              refine (HC1 _ hb).mono ?_
              rintro e w' ⟨rfl, bx⟩
              exact hK.out _ _ ⟨true, true, b2, b3, b4, b5, b6, b7, b8, b9, b10, b11, b12, b13, b14, b15, b16, b17, b18, b19, .agg #[.string (bsOf nm), .slice (some ⟨c1, 0, none⟩) 1 1, .int .i64 0, .bool false], (.int .i64 v1), x53, x54, x55, x56, x57, x58, x59, x60, x61, x62, x63, x64, x65, x66, x67, x68, x69, x70, (by simp only [Act.put, List.setIfInBounds_toArray, List.set_cons_zero, List.set_cons_succ]), (by simp only [Act.put, List.setIfInBounds_toArray, List.set_cons_zero, List.set_cons_succ]), hb.trans (bx.mono (Nat.le_trans hB0 hb.size)), (fun _ => rfl), (fun _ => rfl), cd2, cd3, cd4, cd5, cd6, cd7, cd8, cd9, cd10, cd11, cd12, cd13, cd14, cd15, cd16, cd17, cd18, cd19⟩
            · rintro L a w ⟨b0, b1, b2, b3, b4, b5, b6, b7, b8, b9, b10, b11, b12, b13, b14, b15, b16, b17, b18, b19, x51, x52, x53, x54, x55, x56, x57, x58, x59, x60, x61, x62, x63, x64, x65, x66, x67, x68, x69, x70, rfl, rfl, hb, cd0, cd1, cd2, cd3, cd4, cd5, cd6, cd7, cd8, cd9, cd10, cd11, cd12, cd13, cd14, cd15, cd16, cd17, cd18, cd19⟩ hf hd
              have hf' : b2 = false := hf
              subst hf'
              have d1 : b1 = true := hd ⟨1, .data⟩ (by simp) rfl
              subst d1
              obtain rfl := cd1.out rfl
              clear hf hd
              try simp only [List.setIfInBounds_toArray, List.set_cons_zero, List.set_cons_succ]
              intro K hK
              rw [if_pos (by rfl)]
              go_simp
              rw [HE1.out]
              exact hK.out _ _ ⟨b0, true, true, b3, b4, b5, b6, b7, b8, b9, b10, b11, b12, b13, b14, b15, b16, b17, b18, b19, x51, .int .i64 v1, (.bool b), x54, x55, x56, x57, x58, x59, x60, x61, x62, x63, x64, x65, x66, x67, x68, x69, x70, (by simp only [Act.put, List.setIfInBounds_toArray, List.set_cons_zero, List.set_cons_succ]), (by simp only [Act.put, List.setIfInBounds_toArray, List.set_cons_zero, List.set_cons_succ]), hb, cd0, (fun _ => rfl), (fun _ => rfl), cd3, cd4, cd5, cd6, cd7, cd8, cd9, cd10, cd11, cd12, cd13, cd14, cd15, cd16, cd17, cd18, cd19⟩
            · rintro L a w ⟨b0, b1, b2, b3, b4, b5, b6, b7, b8, b9, b10, b11, b12, b13, b14, b15, b16, b17, b18, b19, x51, x52, x53, x54, x55, x56, x57, x58, x59, x60, x61, x62, x63, x64, x65, x66, x67, x68, x69, x70, rfl, rfl, hb, cd0, cd1, cd2, cd3, cd4, cd5, cd6, cd7, cd8, cd9, cd10, cd11, cd12, cd13, cd14, cd15, cd16, cd17, cd18, cd19⟩ hf hd
              have hf' : b3 = false := hf
              subst hf'
              clear hf hd
              try simp only [List.setIfInBounds_toArray, List.set_cons_zero, List.set_cons_succ]
              intro K hK
              rw [if_pos (by rfl)]
              go_simp
              exact hK.out _ _ ⟨b0, b1, b2, true, b4, b5, b6, b7, b8, b9, b10, b11, b12, b13, b14, b15, b16, b17, b18, b19, x51, x52, x53, (.slice (some ⟨gs, 0, none⟩) 3 3), x55, x56, x57, x58, x59, x60, x61, x62, x63, x64, x65, x66, x67, x68, x69, x70, (by simp only [Act.put, List.setIfInBounds_toArray, List.set_cons_zero, List.set_cons_succ]), (by simp only [Act.put, List.setIfInBounds_toArray, List.set_cons_zero, List.set_cons_succ]), hb, cd0, cd1, cd2, (fun _ => rfl), cd4, cd5, cd6, cd7, cd8, cd9, cd10, cd11, cd12, cd13, cd14, cd15, cd16, cd17, cd18, cd19⟩
            · rintro L a w ⟨b0, b1, b2, b3, b4, b5, b6, b7, b8, b9, b10, b11, b12, b13, b14, b15, b16, b17, b18, b19, x51, x52, x53, x54, x55, x56, x57, x58, x59, x60, x61, x62, x63, x64, x65, x66, x67, x68, x69, x70, rfl, rfl, hb, cd0, cd1, cd2, cd3, cd4, cd5, cd6, cd7, cd8, cd9, cd10, cd11, cd12, cd13, cd14, cd15, cd16, cd17, cd18, cd19⟩ hf hd
              have hf' : b4 = false := hf
              subst hf'
              clear hf hd
              try simp only [List.setIfInBounds_toArray, List.set_cons_zero, List.set_cons_succ]
              intro K hK
              rw [if_pos (by rfl)]
              go_simp
              exact hK.out _ _ ⟨b0, b1, b2, b3, true, b5, b6, b7, b8, b9, b10, b11, b12, b13, b14, b15, b16, b17, b18, b19, x51, x52, x53, x54, (.int .i64 (j : Nat)), x56, x57, x58, x59, x60, x61, x62, x63, x64, x65, x66, x67, x68, x69, x70, (by simp only [Act.put, List.setIfInBounds_toArray, List.set_cons_zero, List.set_cons_succ]), (by simp only [Act.put, List.setIfInBounds_toArray, List.set_cons_zero, List.set_cons_succ]), hb, cd0, cd1, cd2, cd3, (fun _ => rfl), cd5, cd6, cd7, cd8, cd9, cd10, cd11, cd12, cd13, cd14, cd15, cd16, cd17, cd18, cd19⟩
            · rintro L a w ⟨b0, b1, b2, b3, b4, b5, b6, b7, b8, b9, b10, b11, b12, b13, b14, b15, b16, b17, b18, b19, x51, x52, x53, x54, x55, x56, x57, x58, x59, x60, x61, x62, x63, x64, x65, x66, x67, x68, x69, x70, rfl, rfl, hb, cd0, cd1, cd2, cd3, cd4, cd5, cd6, cd7, cd8, cd9, cd10, cd11, cd12, cd13, cd14, cd15, cd16, cd17, cd18, cd19⟩ hf hd
              have hf' : b5 = false := hf
              subst hf'
              have d3 : b3 = true := hd ⟨3, .data⟩ (by simp) rfl
              subst d3
              have d4 : b4 = true := hd ⟨4, .data⟩ (by simp) rfl
              subst d4
              obtain rfl := cd3.out rfl
              obtain rfl := cd4.out rfl
              clear hf hd
              try simp only [List.setIfInBounds_toArray, List.set_cons_zero, List.set_cons_succ]
              intro K hK
              rw [if_pos (by rfl)]
              go_simp
              exact hK.out _ _ ⟨b0, b1, b2, true, true, true, b6, b7, b8, b9, b10, b11, b12, b13, b14, b15, b16, b17, b18, b19, x51, x52, x53, .slice (some ⟨gs, 0, none⟩) 3 3, .int .i64 (j : Nat), (.pointer (some ⟨gs, j, none⟩)), x57, x58, x59, x60, x61, x62, x63, x64, x65, x66, x67, x68, x69, x70, (by simp only [Act.put, List.setIfInBounds_toArray, List.set_cons_zero, List.set_cons_succ]), (by simp only [Act.put, List.setIfInBounds_toArray, List.set_cons_zero, List.set_cons_succ]), hb, cd0, cd1, cd2, (fun _ => rfl), (fun _ => rfl), (fun _ => rfl), cd6, cd7, cd8, cd9, cd10, cd11, cd12, cd13, cd14, cd15, cd16, cd17, cd18, cd19⟩
            · rintro L a w ⟨b0, b1, b2, b3, b4, b5, b6, b7, b8, b9, b10, b11, b12, b13, b14, b15, b16, b17, b18, b19, x51, x52, x53, x54, x55, x56, x57, x58, x59, x60, x61, x62, x63, x64, x65, x66, x67, x68, x69, x70, rfl, rfl, hb, cd0, cd1, cd2, cd3, cd4, cd5, cd6, cd7, cd8, cd9, cd10, cd11, cd12, cd13, cd14, cd15, cd16, cd17, cd18, cd19⟩ hf hd
              have hf' : b6 = false := hf
              subst hf'
              have d5 : b5 = true := hd ⟨5, .data⟩ (by simp) rfl
              subst d5
              obtain rfl := cd5.out rfl
              clear hf hd
              try simp only [List.setIfInBounds_toArray, List.set_cons_zero, List.set_cons_succ]
              have z0 := (hb.cell hgs).trans hcj
              intro K hK
              rw [if_pos (by rfl)]
              go_simp
              exact hK.out _ _ ⟨b0, b1, b2, b3, b4, true, true, b7, b8, b9, b10, b11, b12, b13, b14, b15, b16, b17, b18, b19, x51, x52, x53, x54, x55, .pointer (some ⟨gs, j, none⟩), (.string (bsOf nm)), x58, x59, x60, x61, x62, x63, x64, x65, x66, x67, x68, x69, x70, (by simp only [Act.put, List.setIfInBounds_toArray, List.set_cons_zero, List.set_cons_succ]), (by simp only [Act.put, List.setIfInBounds_toArray, List.set_cons_zero, List.set_cons_succ]), hb, cd0, cd1, cd2, cd3, cd4, (fun _ => rfl), (fun _ => rfl), cd7, cd8, cd9, cd10, cd11, cd12, cd13, cd14, cd15, cd16, cd17, cd18, cd19⟩
            · rintro L a w ⟨b0, b1, b2, b3, b4, b5, b6, b7, b8, b9, b10, b11, b12, b13, b14, b15, b16, b17, b18, b19, x51, x52, x53, x54, x55, x56, x57, x58, x59, x60, x61, x62, x63, x64, x65, x66, x67, x68, x69, x70, rfl, rfl, hb, cd0, cd1, cd2, cd3, cd4, cd5, cd6, cd7, cd8, cd9, cd10, cd11, cd12, cd13, cd14, cd15, cd16, cd17, cd18, cd19⟩ hf hd
              have hf' : b7 = false := hf
              subst hf'
              have d6 : b6 = true := hd ⟨6, .data⟩ (by simp) rfl
              subst d6
              have d1 : b1 = true := hd ⟨1, .chain⟩ (by simp) rfl
              subst d1
              obtain rfl := cd6.out rfl
              obtain rfl := cd1.out rfl
              clear hf hd
              try simp only [List.setIfInBounds_toArray, List.set_cons_zero, List.set_cons_succ]
              intro K hK
              rw [if_pos (by rfl)]
              go_simp
              go_at_call 21
              refine (HRN _).mono ?_
              rintro e w' ⟨rfl, bx⟩
              exact hK.out _ _ ⟨b0, true, b2, b3, b4, b5, true, true, b8, b9, b10, b11, b12, b13, b14, b15, b16, b17, b18, b19, x51, .int .i64 v1, x53, x54, x55, x56, .string (bsOf nm), (.bool b), x59, x60, x61, x62, x63, x64, x65, x66, x67, x68, x69, x70, (by simp only [Act.put, List.setIfInBounds_toArray, List.set_cons_zero, List.set_cons_succ]), (by simp only [Act.put, List.setIfInBounds_toArray, List.set_cons_zero, List.set_cons_succ]), hb.trans (bx.mono (Nat.le_trans hB0 hb.size)), cd0, (fun _ => rfl), cd2, cd3, cd4, cd5, (fun _ => rfl), (fun _ => rfl), cd8, cd9, cd10, cd11, cd12, cd13, cd14, cd15, cd16, cd17, cd18, cd19⟩
            · rintro L a w ⟨b0, b1, b2, b3, b4, b5, b6, b7, b8, b9, b10, b11, b12, b13, b14, b15, b16, b17, b18, b19, x51, x52, x53, x54, x55, x56, x57, x58, x59, x60, x61, x62, x63, x64, x65, x66, x67, x68, x69, x70, rfl, rfl, hb, cd0, cd1, cd2, cd3, cd4, cd5, cd6, cd7, cd8, cd9, cd10, cd11, cd12, cd13, cd14, cd15, cd16, cd17, cd18, cd19⟩ hf hd
              have hf' : b8 = false := hf
              subst hf'
              have d2 : b2 = true := hd ⟨2, .data⟩ (by simp) rfl
              subst d2
              have d7 : b7 = true := hd ⟨7, .data⟩ (by simp) rfl
              subst d7
              obtain rfl := cd2.out rfl
              obtain rfl := cd7.out rfl
              clear hf hd
              try simp only [List.setIfInBounds_toArray, List.set_cons_zero, List.set_cons_succ]
              intro K hK
              rw [if_pos (by rfl)]
              go_simp
              exact hK.out _ _ ⟨b0, b1, true, b3, b4, b5, b6, true, true, b9, b10, b11, b12, b13, b14, b15, b16, b17, b18, b19, x51, x52, .bool b, x54, x55, x56, x57, .bool b, (.bool false), x60, x61, x62, x63, x64, x65, x66, x67, x68, x69, x70, (by simp only [Act.put, List.setIfInBounds_toArray, List.set_cons_zero, List.set_cons_succ]), (by simp only [Act.put, List.setIfInBounds_toArray, List.set_cons_zero, List.set_cons_succ]), hb, cd0, cd1, (fun _ => rfl), cd3, cd4, cd5, cd6, (fun _ => rfl), (fun _ => rfl), cd9, cd10, cd11, cd12, cd13, cd14, cd15, cd16, cd17, cd18, cd19⟩
            · rintro L a w ⟨b0, b1, b2, b3, b4, b5, b6, b7, b8, b9, b10, b11, b12, b13, b14, b15, b16, b17, b18, b19, x51, x52, x53, x54, x55, x56, x57, x58, x59, x60, x61, x62, x63, x64, x65, x66, x67, x68, x69, x70, rfl, rfl, hb, cd0, cd1, cd2, cd3, cd4, cd5, cd6, cd7, cd8, cd9, cd10, cd11, cd12, cd13, cd14, cd15, cd16, cd17, cd18, cd19⟩ hf hd
              have hf' : b9 = false := hf
              subst hf'
              have d8 : b8 = true := hd ⟨8, .data⟩ (by simp) rfl
              subst d8
              have d7 : b7 = true := hd ⟨7, .chain⟩ (by simp) rfl
              subst d7
              obtain rfl := cd8.out rfl
              obtain rfl := cd7.out rfl
              clear hf hd
              try simp only [List.setIfInBounds_toArray, List.set_cons_zero, List.set_cons_succ]
              intro K hK
              rw [if_pos (by rfl)]
              go_simp
              exact hK.out _ _ ⟨b0, b1, b2, b3, b4, b5, b6, true, true, true, b10, b11, b12, b13, b14, b15, b16, b17, b18, b19, x51, x52, x53, x54, x55, x56, x57, .bool b, .bool false, (.bool false), x61, x62, x63, x64, x65, x66, x67, x68, x69, x70, (by simp only [Act.put, List.setIfInBounds_toArray, List.set_cons_zero, List.set_cons_succ]), (by simp only [Act.put, List.setIfInBounds_toArray, List.set_cons_zero, List.set_cons_succ]), hb, cd0, cd1, cd2, cd3, cd4, cd5, cd6, (fun _ => rfl), (fun _ => rfl), (fun _ => rfl), cd10, cd11, cd12, cd13, cd14, cd15, cd16, cd17, cd18, cd19⟩
            · rintro L a w ⟨b0, b1, b2, b3, b4, b5, b6, b7, b8, b9, b10, b11, b12, b13, b14, b15, b16, b17, b18, b19, x51, x52, x53, x54, x55, x56, x57, x58, x59, x60, x61, x62, x63, x64, x65, x66, x67, x68, x69, x70, rfl, rfl, hb, cd0, cd1, cd2, cd3, cd4, cd5, cd6, cd7, cd8, cd9, cd10, cd11, cd12, cd13, cd14, cd15, cd16, cd17, cd18, cd19⟩ hf hd
              have hf' : b10 = false := hf
              subst hf'
              have d9 : b9 = true := hd ⟨9, .guard⟩ (by simp) rfl
              subst d9
              obtain rfl := cd9.out rfl
              clear hf hd
              try simp only [List.setIfInBounds_toArray, List.set_cons_zero, List.set_cons_succ]
              have z0 := (hb.cell hp9).trans q0
              have z1 := (hb.cell hp9).trans q1
              have z2 := (hb.cell hp9).trans q2
              have z3 := (hb.cell hp9).trans q3
              intro K hK
              rw [if_pos (by rfl)]
              go_simp
              exact hK.out _ _ ⟨b0, b1, b2, b3, b4, b5, b6, b7, b8, true, true, b11, b12, b13, b14, b15, b16, b17, b18, b19, x51, x52, x53, x54, x55, x56, x57, x58, x59, .bool false, (.agg #[.string ⟨#[120]⟩, .slice (some ⟨c2, 0, none⟩) 1 1, .int .i64 0, .bool false]), x62, x63, x64, x65, x66, x67, x68, x69, x70, (by simp only [Act.put, List.setIfInBounds_toArray, List.set_cons_zero, List.set_cons_succ]), (by simp only [Act.put, List.setIfInBounds_toArray, List.set_cons_zero, List.set_cons_succ]), hb, cd0, cd1, cd2, cd3, cd4, cd5, cd6, cd7, cd8, (fun _ => rfl), (fun _ => rfl), cd11, cd12, cd13, cd14, cd15, cd16, cd17, cd18, cd19⟩
            · rintro L a w ⟨b0, b1, b2, b3, b4, b5, b6, b7, b8, b9, b10, b11, b12, b13, b14, b15, b16, b17, b18, b19, x51, x52, x53, x54, x55, x56, x57, x58, x59, x60, x61, x62, x63, x64, x65, x66, x67, x68, x69, x70, rfl, rfl, hb, cd0, cd1, cd2, cd3, cd4, cd5, cd6, cd7, cd8, cd9, cd10, cd11, cd12, cd13, cd14, cd15, cd16, cd17, cd18, cd19⟩ hf hd
              have hf' : b11 = false := hf
              subst hf'
              have d10 : b10 = true := hd ⟨10, .data⟩ (by simp) rfl
              subst d10
              have d9 : b9 = true := hd ⟨9, .chain⟩ (by simp) rfl
              subst d9
              obtain rfl := cd10.out rfl
              obtain rfl := cd9.out rfl
              clear hf hd
              try simp only [List.setIfInBounds_toArray, List.set_cons_zero, List.set_cons_succ]
              intro K hK
              rw [if_pos (by rfl)]
              go_simp
              go_at_call 12
              refine (HC2 _ hb).mono ?_
              rintro e w' ⟨rfl, bx⟩
              exact hK.out _ _ ⟨b0, b1, b2, b3, b4, b5, b6, b7, b8, true, true, true, b12, b13, b14, b15, b16, b17, b18, b19, x51, x52, x53, x54, x55, x56, x57, x58, x59, .bool false, .agg #[.string ⟨#[120]⟩, .slice (some ⟨c2, 0, none⟩) 1 1, .int .i64 0, .bool false], (.int .i64 v2), x63, x64, x65, x66, x67, x68, x69, x70, (by simp only [Act.put, List.setIfInBounds_toArray, List.set_cons_zero, List.set_cons_succ]), (by simp only [Act.put, List.setIfInBounds_toArray, List.set_cons_zero, List.set_cons_succ]), hb.trans (bx.mono (Nat.le_trans hB0 hb.size)), cd0, cd1, cd2, cd3, cd4, cd5, cd6, cd7, cd8, (fun _ => rfl), (fun _ => rfl), (fun _ => rfl), cd12, cd13, cd14, cd15, cd16, cd17, cd18, cd19⟩
            · rintro L a w ⟨b0, b1, b2, b3, b4, b5, b6, b7, b8, b9, b10, b11, b12, b13, b14, b15, b16, b17, b18, b19, x51, x52, x53, x54, x55, x56, x57, x58, x59, x60, x61, x62, x63, x64, x65, x66, x67, x68, x69, x70, rfl, rfl, hb, cd0, cd1, cd2, cd3, cd4, cd5, cd6, cd7, cd8, cd9, cd10, cd11, cd12, cd13, cd14, cd15, cd16, cd17, cd18, cd19⟩ hf hd
              have hf' : b12 = false := hf
              subst hf'
              have d11 : b11 = true := hd ⟨11, .data⟩ (by simp) rfl
              subst d11
              have d9 : b9 = true := hd ⟨9, .guard⟩ (by simp) rfl
              subst d9
              obtain rfl := cd11.out rfl
              obtain rfl := cd9.out rfl
              clear hf hd
              try simp only [List.setIfInBounds_toArray, List.set_cons_zero, List.set_cons_succ]
              intro K hK
              rw [if_pos (by rfl)]
              go_simp
              rw [HE2.out]
              exact hK.out _ _ ⟨b0, b1, b2, b3, b4, b5, b6, b7, b8, true, b10, true, true, b13, b14, b15, b16, b17, b18, b19, x51, x52, x53, x54, x55, x56, x57, x58, x59, .bool false, x61, .int .i64 v2, (.bool b), x64, x65, x66, x67, x68, x69, x70, (by simp only [Act.put, List.setIfInBounds_toArray, List.set_cons_zero, List.set_cons_succ]), (by simp only [Act.put, List.setIfInBounds_toArray, List.set_cons_zero, List.set_cons_succ]), hb, cd0, cd1, cd2, cd3, cd4, cd5, cd6, cd7, cd8, (fun _ => rfl), cd10, (fun _ => rfl), (fun _ => rfl), cd13, cd14, cd15, cd16, cd17, cd18, cd19⟩
            · rintro L a w ⟨b0, b1, b2, b3, b4, b5, b6, b7, b8, b9, b10, b11, b12, b13, b14, b15, b16, b17, b18, b19, x51, x52, x53, x54, x55, x56, x57, x58, x59, x60, x61, x62, x63, x64, x65, x66, x67, x68, x69, x70, rfl, rfl, hb, cd0, cd1, cd2, cd3, cd4, cd5, cd6, cd7, cd8, cd9, cd10, cd11, cd12, cd13, cd14, cd15, cd16, cd17, cd18, cd19⟩ hf hd
              have hf' : b13 = false := hf
              subst hf'
              have d9 : b9 = true := hd ⟨9, .guard⟩ (by simp) rfl
              subst d9
              obtain rfl := cd9.out rfl
              clear hf hd
              try simp only [List.setIfInBounds_toArray, List.set_cons_zero, List.set_cons_succ]
              intro K hK
              rw [if_pos (by rfl)]
              go_simp
              exact hK.out _ _ ⟨b0, b1, b2, b3, b4, b5, b6, b7, b8, true, b10, b11, b12, true, b14, b15, b16, b17, b18, b19, x51, x52, x53, x54, x55, x56, x57, x58, x59, .bool false, x61, x62, x63, (.slice (some ⟨gs, 0, none⟩) 3 3), x65, x66, x67, x68, x69, x70, (by simp only [Act.put, List.setIfInBounds_toArray, List.set_cons_zero, List.set_cons_succ]), (by simp only [Act.put, List.setIfInBounds_toArray, List.set_cons_zero, List.set_cons_succ]), hb, cd0, cd1, cd2, cd3, cd4, cd5, cd6, cd7, cd8, (fun _ => rfl), cd10, cd11, cd12, (fun _ => rfl), cd14, cd15, cd16, cd17, cd18, cd19⟩
            · rintro L a w ⟨b0, b1, b2, b3, b4, b5, b6, b7, b8, b9, b10, b11, b12, b13, b14, b15, b16, b17, b18, b19, x51, x52, x53, x54, x55, x56, x57, x58, x59, x60, x61, x62, x63, x64, x65, x66, x67, x68, x69, x70, rfl, rfl, hb, cd0, cd1, cd2, cd3, cd4, cd5, cd6, cd7, cd8, cd9, cd10, cd11, cd12, cd13, cd14, cd15, cd16, cd17, cd18, cd19⟩ hf hd
              have hf' : b14 = false := hf
              subst hf'
              have d9 : b9 = true := hd ⟨9, .guard⟩ (by simp) rfl
              subst d9
              obtain rfl := cd9.out rfl
              clear hf hd
              try simp only [List.setIfInBounds_toArray, List.set_cons_zero, List.set_cons_succ]
              intro K hK
              rw [if_pos (by rfl)]
              go_simp
              exact hK.out _ _ ⟨b0, b1, b2, b3, b4, b5, b6, b7, b8, true, b10, b11, b12, b13, true, b15, b16, b17, b18, b19, x51, x52, x53, x54, x55, x56, x57, x58, x59, .bool false, x61, x62, x63, x64, (.int .i64 (j : Nat)), x66, x67, x68, x69, x70, (by simp only [Act.put, List.setIfInBounds_toArray, List.set_cons_zero, List.set_cons_succ]), (by simp only [Act.put, List.setIfInBounds_toArray, List.set_cons_zero, List.set_cons_succ]), hb, cd0, cd1, cd2, cd3, cd4, cd5, cd6, cd7, cd8, (fun _ => rfl), cd10, cd11, cd12, cd13, (fun _ => rfl), cd15, cd16, cd17, cd18, cd19⟩
            · rintro L a w ⟨b0, b1, b2, b3, b4, b5, b6, b7, b8, b9, b10, b11, b12, b13, b14, b15, b16, b17, b18, b19, x51, x52, x53, x54, x55, x56, x57, x58, x59, x60, x61, x62, x63, x64, x65, x66, x67, x68, x69, x70, rfl, rfl, hb, cd0, cd1, cd2, cd3, cd4, cd5, cd6, cd7, cd8, cd9, cd10, cd11, cd12, cd13, cd14, cd15, cd16, cd17, cd18, cd19⟩ hf hd
              have hf' : b15 = false := hf
              subst hf'
              have d13 : b13 = true := hd ⟨13, .data⟩ (by simp) rfl
              subst d13
              have d14 : b14 = true := hd ⟨14, .data⟩ (by simp) rfl
              subst d14
              have d9 : b9 = true := hd ⟨9, .guard⟩ (by simp) rfl
              subst d9
              obtain rfl := cd13.out rfl
              obtain rfl := cd14.out rfl
              obtain rfl := cd9.out rfl
              clear hf hd
              try simp only [List.setIfInBounds_toArray, List.set_cons_zero, List.set_cons_succ]
              intro K hK
              rw [if_pos (by rfl)]
              go_simp
              exact hK.out _ _ ⟨b0, b1, b2, b3, b4, b5, b6, b7, b8, true, b10, b11, b12, true, true, true, b16, b17, b18, b19, x51, x52, x53, x54, x55, x56, x57, x58, x59, .bool false, x61, x62, x63, .slice (some ⟨gs, 0, none⟩) 3 3, .int .i64 (j : Nat), (.pointer (some ⟨gs, j, none⟩)), x67, x68, x69, x70, (by simp only [Act.put, List.setIfInBounds_toArray, List.set_cons_zero, List.set_cons_succ]), (by simp only [Act.put, List.setIfInBounds_toArray, List.set_cons_zero, List.set_cons_succ]), hb, cd0, cd1, cd2, cd3, cd4, cd5, cd6, cd7, cd8, (fun _ => rfl), cd10, cd11, cd12, (fun _ => rfl), (fun _ => rfl), (fun _ => rfl), cd16, cd17, cd18, cd19⟩
            · rintro L a w ⟨b0, b1, b2, b3, b4, b5, b6, b7, b8, b9, b10, b11, b12, b13, b14, b15, b16, b17, b18, b19, x51, x52, x53, x54, x55, x56, x57, x58, x59, x60, x61, x62, x63, x64, x65, x66, x67, x68, x69, x70, rfl, rfl, hb, cd0, cd1, cd2, cd3, cd4, cd5, cd6, cd7, cd8, cd9, cd10, cd11, cd12, cd13, cd14, cd15, cd16, cd17, cd18, cd19⟩ hf hd
              have hf' : b16 = false := hf
              subst hf'
              have d15 : b15 = true := hd ⟨15, .data⟩ (by simp) rfl
              subst d15
              have d9 : b9 = true := hd ⟨9, .guard⟩ (by simp) rfl
              subst d9
              obtain rfl := cd15.out rfl
              obtain rfl := cd9.out rfl
              clear hf hd
              try simp only [List.setIfInBounds_toArray, List.set_cons_zero, List.set_cons_succ]
              have z0 := (hb.cell hgs).trans hcj
              intro K hK
              rw [if_pos (by rfl)]
              go_simp
              exact hK.out _ _ ⟨b0, b1, b2, b3, b4, b5, b6, b7, b8, true, b10, b11, b12, b13, b14, true, true, b17, b18, b19, x51, x52, x53, x54, x55, x56, x57, x58, x59, .bool false, x61, x62, x63, x64, x65, .pointer (some ⟨gs, j, none⟩), (.string (bsOf nm)), x68, x69, x70, (by simp only [Act.put, List.setIfInBounds_toArray, List.set_cons_zero, List.set_cons_succ]), (by simp only [Act.put, List.setIfInBounds_toArray, List.set_cons_zero, List.set_cons_succ]), hb, cd0, cd1, cd2, cd3, cd4, cd5, cd6, cd7, cd8, (fun _ => rfl), cd10, cd11, cd12, cd13, cd14, (fun _ => rfl), (fun _ => rfl), cd17, cd18, cd19⟩
            · rintro L a w ⟨b0, b1, b2, b3, b4, b5, b6, b7, b8, b9, b10, b11, b12, b13, b14, b15, b16, b17, b18, b19, x51, x52, x53, x54, x55, x56, x57, x58, x59, x60, x61, x62, x63, x64, x65, x66, x67, x68, x69, x70, rfl, rfl, hb, cd0, cd1, cd2, cd3, cd4, cd5, cd6, cd7, cd8, cd9, cd10, cd11, cd12, cd13, cd14, cd15, cd16, cd17, cd18, cd19⟩ hf hd
              have hf' : b17 = false := hf
              subst hf'
              have d16 : b16 = true := hd ⟨16, .data⟩ (by simp) rfl
              subst d16
              have d11 : b11 = true := hd ⟨11, .chain⟩ (by simp) rfl
              subst d11
              have d9 : b9 = true := hd ⟨9, .guard⟩ (by simp) rfl
              subst d9
              obtain rfl := cd16.out rfl
              obtain rfl := cd11.out rfl
              obtain rfl := cd9.out rfl
              clear hf hd
              try simp only [List.setIfInBounds_toArray, List.set_cons_zero, List.set_cons_succ]
              intro K hK
              rw [if_pos (by rfl)]
              go_simp
              go_at_call 21
              refine (HRN _).mono ?_
              rintro e w' ⟨rfl, bx⟩
              exact hK.out _ _ ⟨b0, b1, b2, b3, b4, b5, b6, b7, b8, true, b10, true, b12, b13, b14, b15, true, true, b18, b19, x51, x52, x53, x54, x55, x56, x57, x58, x59, .bool false, x61, .int .i64 v2, x63, x64, x65, x66, .string (bsOf nm), (.bool b), x69, x70, (by simp only [Act.put, List.setIfInBounds_toArray, List.set_cons_zero, List.set_cons_succ]), (by simp only [Act.put, List.setIfInBounds_toArray, List.set_cons_zero, List.set_cons_succ]), hb.trans (bx.mono (Nat.le_trans hB0 hb.size)), cd0, cd1, cd2, cd3, cd4, cd5, cd6, cd7, cd8, (fun _ => rfl), cd10, (fun _ => rfl), cd12, cd13, cd14, cd15, (fun _ => rfl), (fun _ => rfl), cd18, cd19⟩
            · rintro L a w ⟨b0, b1, b2, b3, b4, b5, b6, b7, b8, b9, b10, b11, b12, b13, b14, b15, b16, b17, b18, b19, x51, x52, x53, x54, x55, x56, x57, x58, x59, x60, x61, x62, x63, x64, x65, x66, x67, x68, x69, x70, rfl, rfl, hb, cd0, cd1, cd2, cd3, cd4, cd5, cd6, cd7, cd8, cd9, cd10, cd11, cd12, cd13, cd14, cd15, cd16, cd17, cd18, cd19⟩ hf hd
              have hf' : b18 = false := hf
              subst hf'
              have d12 : b12 = true := hd ⟨12, .data⟩ (by simp) rfl
              subst d12
              have d17 : b17 = true := hd ⟨17, .data⟩ (by simp) rfl
              subst d17
              have d9 : b9 = true := hd ⟨9, .guard⟩ (by simp) rfl
              subst d9
              obtain rfl := cd12.out rfl
              obtain rfl := cd17.out rfl
              obtain rfl := cd9.out rfl
              clear hf hd
              try simp only [List.setIfInBounds_toArray, List.set_cons_zero, List.set_cons_succ]
              intro K hK
              rw [if_pos (by rfl)]
              go_simp
              exact hK.out _ _ ⟨b0, b1, b2, b3, b4, b5, b6, b7, b8, true, b10, b11, true, b13, b14, b15, b16, true, true, b19, x51, x52, x53, x54, x55, x56, x57, x58, x59, .bool false, x61, x62, .bool b, x64, x65, x66, x67, .bool b, (.bool false), x70, (by simp only [Act.put, List.setIfInBounds_toArray, List.set_cons_zero, List.set_cons_succ]), (by simp only [Act.put, List.setIfInBounds_toArray, List.set_cons_zero, List.set_cons_succ]), hb, cd0, cd1, cd2, cd3, cd4, cd5, cd6, cd7, cd8, (fun _ => rfl), cd10, cd11, (fun _ => rfl), cd13, cd14, cd15, cd16, (fun _ => rfl), (fun _ => rfl), cd19⟩
            · rintro L a w ⟨b0, b1, b2, b3, b4, b5, b6, b7, b8, b9, b10, b11, b12, b13, b14, b15, b16, b17, b18, b19, x51, x52, x53, x54, x55, x56, x57, x58, x59, x60, x61, x62, x63, x64, x65, x66, x67, x68, x69, x70, rfl, rfl, hb, cd0, cd1, cd2, cd3, cd4, cd5, cd6, cd7, cd8, cd9, cd10, cd11, cd12, cd13, cd14, cd15, cd16, cd17, cd18, cd19⟩ hf hd
              have hf' : b19 = false := hf
              subst hf'
              have d9 : b9 = true := hd ⟨9, .data⟩ (by simp) rfl
              subst d9
              have d18 : b18 = true := hd ⟨18, .data⟩ (by simp) rfl
              subst d18
              obtain rfl := cd9.out rfl
              obtain rfl := cd18.out rfl
              clear hf hd
              try simp only [List.setIfInBounds_toArray, List.set_cons_zero, List.set_cons_succ]
              intro K hK
              rw [if_pos (by rfl)]
              go_simp
              exact hK.out _ _ ⟨b0, b1, b2, b3, b4, b5, b6, b7, b8, true, b10, b11, b12, b13, b14, b15, b16, b17, true, true, x51, x52, x53, x54, x55, x56, x57, x58, x59, .bool false, x61, x62, x63, x64, x65, x66, x67, x68, .bool false, (.bool false), (by simp only [Act.put, List.setIfInBounds_toArray, List.set_cons_zero, List.set_cons_succ]), (by simp only [Act.put, List.setIfInBounds_toArray, List.set_cons_zero, List.set_cons_succ]), hb, cd0, cd1, cd2, cd3, cd4, cd5, cd6, cd7, cd8, (fun _ => rfl), cd10, cd11, cd12, cd13, cd14, cd15, cd16, cd17, (fun _ => rfl), (fun _ => rfl)⟩
          · rintro act V2 ⟨b0, b1, b2, b3, b4, b5, b6, b7, b8, b9, b10, b11, b12, b13, b14, b15, b16, b17, b18, b19, x51, x52, x53, x54, x55, x56, x57, x58, x59, x60, x61, x62, x63, x64, x65, x66, x67, x68, x69, x70, hL, rfl, hb, cd0, cd1, cd2, cd3, cd4, cd5, cd6, cd7, cd8, cd9, cd10, cd11, cd12, cd13, cd14, cd15, cd16, cd17, cd18, cd19⟩
            have hL' : [true, true, true, true, true, true, true, true, true, true, true, true, true, true, true, true, true, true, true, true] = [b0, b1, b2, b3, b4, b5, b6, b7, b8, b9, b10, b11, b12, b13, b14, b15, b16, b17, b18, b19] := congrArg Array.toList hL
            simp only [List.cons.injEq, and_true] at hL'
            obtain ⟨rfl, rfl, rfl, rfl, rfl, rfl, rfl, rfl, rfl, rfl, rfl, rfl, rfl, rfl, rfl, rfl, rfl, rfl, rfl, rfl⟩ := hL'
            obtain rfl := cd0.out rfl
            obtain rfl := cd1.out rfl
            obtain rfl := cd2.out rfl
            obtain rfl := cd3.out rfl
            obtain rfl := cd4.out rfl
            obtain rfl := cd5.out rfl
            obtain rfl := cd6.out rfl
            obtain rfl := cd7.out rfl
            obtain rfl := cd8.out rfl
            obtain rfl := cd9.out rfl
            obtain rfl := cd10.out rfl
            obtain rfl := cd11.out rfl
            obtain rfl := cd12.out rfl
            obtain rfl := cd13.out rfl
            obtain rfl := cd14.out rfl
            obtain rfl := cd15.out rfl
            obtain rfl := cd16.out rfl
            obtain rfl := cd17.out rfl
            obtain rfl := cd18.out rfl
            obtain rfl := cd19.out rfl
            clear hL cd0 cd1 cd2 cd3 cd4 cd5 cd6 cd7 cd8 cd9 cd10 cd11 cd12 cd13 cd14 cd15 cd16 cd17 cd18 cd19
            simp only [List.setIfInBounds_toArray, List.set_cons_zero, List.set_cons_succ]
            have hbW : Below V1.heap.size V1 V2 := (Below.refl _ _).drew.trans hb
            have NSW := NV1.past hbW
            have WW := LV1.past hbW
            have BW := PV1.trans (hbW.mono PV1.size)
            clear hb hbW NV1 LV1 PV1 HC1 HC2 HRN HE1 HE2 p0 p1 p2 p3 q0 q1 q2 q3 hcj
            go_wp2_with fail
            go_roundw
            case rel => exact ⟨j + 1, by omega, by go_num, NSW, WW, BW⟩
            case measure => simp [intOf]; omega
        · have hlt3 : ¬ ((j : Int) < 3) := by omega
          go_wp2_with fail
          go_ret
          exact ⟨rfl, BR⟩
end Go.Proofs.YtpfhggalbdjjmaaDoor
