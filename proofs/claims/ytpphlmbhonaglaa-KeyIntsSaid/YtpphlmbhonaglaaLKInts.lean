/-
  KeyInts, walked.
-/
import Derived.Test.YtpphlmbhonaglaaLaw6
import Derived.Test.YtpphlmbhonaglaaInv
namespace Go.Proofs.Ytpphlmbhonaglaa
open Go.RowKit
set_option linter.unusedSimpArgs false

theorem be_same (k U V : Nat) : ∀ i, i ≤ k → U / 256 ^ (k - i) = V / 256 ^ (k - i) → (be k U).take i = (be k V).take i
  | 0, _, _ => by simp
  | i + 1, h, e => by
    have e1 : k - 1 - i = k - (i + 1) := by omega
    have e2 : k - i = k - (i + 1) + 1 := by omega
    rw [be_take k U i (by omega), be_take k V i (by omega), e1, e, be_same k U V i (by omega) (by rw [e2, Nat.pow_succ, ← Nat.div_div_eq_div_mul, ← Nat.div_div_eq_div_mul, e])]
/-- Where the lower digits are all 255. -/
theorem carry (U P : Nat) (hP : 0 < P) (h : (U + 1) % P = 0) : (U + 1) / P = U / P + 1 := by
  have h1 := Nat.div_add_mod (U + 1) P
  rw [h, Nat.add_zero] at h1
  generalize (U + 1) / P = k at *
  have hk : 0 < k := by
    rcases Nat.eq_zero_or_pos k with rfl | h
    · omega
    · exact h
  obtain ⟨j, rfl⟩ : ∃ j, k = j + 1 := ⟨k - 1, by omega⟩
  rw [Nat.mul_succ] at h1
  have : U / P = j := by
    rw [Nat.div_eq_of_lt_le]
    · rw [Nat.mul_comm]; omega
    · rw [Nat.mul_comm, Nat.mul_succ]; omega
  omega
def dg (U i : Nat) : Nat := U / 256 ^ (8 - i) % 256
theorem dg_lt (U i : Nat) : dg U i < 256 := Nat.mod_lt _ (by omega)
theorem dg_get (U i : Nat) (h : 1 ≤ i) (h8 : i ≤ 8) : (2 :: be 8 U)[i]? = some (UInt8.ofNat (dg U i)) := by
  obtain ⟨j, rfl⟩ : ∃ j, i = j + 1 := ⟨i - 1, by omega⟩
  rw [List.getElem?_cons_succ, be_get 8 U j (by omega)]
  unfold dg
  rw [show 8 - 1 - j = 8 - (j + 1) by omega]
theorem dg_next (U i : Nat) (h : 1 ≤ i) (h8 : i ≤ 8) (hm : (U + 1) % 256 ^ (8 - i) = 0) (h255 : dg U i = 255) : dg (U + 1) i = 0 ∧ (U + 1) % 256 ^ (8 - (i - 1)) = 0 := by
  have hc := carry U (256 ^ (8 - i)) (Nat.pow_pos (by omega)) hm
  unfold dg at h255 ⊢
  have e : 8 - (i - 1) = 8 - i + 1 := by omega
  rw [e, Nat.pow_succ, Nat.mod_mul, hm, hc]
  have : (U / 256 ^ (8 - i) + 1) % 256 = 0 := by omega
  rw [this]
  exact ⟨rfl, by simp⟩
theorem dg_last (U i : Nat) (hU : U + 1 < 18446744073709551616) (h : 1 ≤ i) (h8 : i ≤ 8) (hm : (U + 1) % 256 ^ (8 - i) = 0) (hx : i = 1 ∨ dg U i ≠ 255) : dg U i < 255 ∧ dg (U + 1) i = dg U i + 1 ∧ (2 :: be 8 U).take i = (2 :: be 8 (U + 1)).take i := by
  have hne : dg U i ≠ 255 := by
    rcases hx with rfl | hx
    · intro h255
      have := (dg_next U 1 (by omega) (by omega) hm h255).2
      rw [show 8 - (1 - 1) = 8 from rfl, show (256 : Nat) ^ 8 = 18446744073709551616 by decide] at this
      omega
    · exact hx
  have hlt := dg_lt U i
  have hc := carry U (256 ^ (8 - i)) (Nat.pow_pos (by omega)) hm
  refine ⟨by omega, ?_, ?_⟩
  · unfold dg at hne hlt ⊢
    rw [hc]
    omega
  · obtain ⟨j, rfl⟩ : ∃ j, i = j + 1 := ⟨i - 1, by omega⟩
    rw [List.take_succ_cons, List.take_succ_cons]
    congr 1
    refine be_same 8 U (U + 1) j (by omega) ?_
    have e : 8 - j = 8 - (j + 1) + 1 := by omega
    rw [e, Nat.pow_succ, ← Nat.div_div_eq_div_mul, ← Nat.div_div_eq_div_mul, hc]
    unfold dg at hne hlt
    omega
/-- What stands while the region's operations come up: which have (b), what their slots hold (x), what the world holds. -/
inductive KInts13 (ga : Nat) (gb : Nat) (i : Nat) (d : Nat) (T : List UInt8) (a0 : Act) (w0 : World) (L : Array Bool) (a : Act) (w : World) : Prop
  | mk (b0 b1 b2 b3 b4 b5 b6 b7 b8 b9 b10 b11 b12 b13 b14 b15 b16 b17 b18 b19 b20 b21 : Bool) (x47 x48 x49 x50 x51 x52 x53 x54 x55 x56 x57 x58 x59 x60 x61 x62 x63 x64 x65 x66 x67 x2 : Value) (hL : L = #[b0, b1, b2, b3, b4, b5, b6, b7, b8, b9, b10, b11, b12, b13, b14, b15, b16, b17, b18, b19, b20, b21]) (ha : a = ⟨((((((((((((((((((((((a0.tmps.setIfInBounds 47 x47).setIfInBounds 48 x48).setIfInBounds 49 x49).setIfInBounds 50 x50).setIfInBounds 51 x51).setIfInBounds 52 x52).setIfInBounds 53 x53).setIfInBounds 54 x54).setIfInBounds 55 x55).setIfInBounds 56 x56).setIfInBounds 57 x57).setIfInBounds 58 x58).setIfInBounds 59 x59).setIfInBounds 60 x60).setIfInBounds 61 x61).setIfInBounds 62 x62).setIfInBounds 63 x63).setIfInBounds 64 x64).setIfInBounds 65 x65).setIfInBounds 66 x66).setIfInBounds 67 x67).setIfInBounds 2 x2), a0.defers⟩) (hb : Below w0.heap.size w0 w) (cd0 : Hid (b0 = true → x47 = .slice (some ⟨gb, 0, none⟩) 9 9)) (cd1 : Hid (b1 = true → x48 = .int .i64 (i : Nat))) (cd2 : Hid (b2 = true → x49 = .pointer (some ⟨gb, i, none⟩))) (cd3 : Hid (b3 = true → x50 = .int .u8 ((d : Int) + 1))) (cd4 : Hid (b4 = true → x51 = .slice (some ⟨ga, 0, none⟩) 9 9)) (cd5 : Hid (b5 = true → x52 = .int .i64 (i : Nat))) (cd6 : Hid (b6 = true → x53 = .pointer (some ⟨ga, i, none⟩))) (cd7 : Hid (b7 = true → x54 = .int .u8 (d : Nat))) (cd8 : Hid (b8 = true → x55 = .int .u8 ((d : Int) + 1))) (cd9 : Hid (b9 = true → x56 = .bool true)) (cd10 : Hid (b10 = true → x57 = .bool true)) (cd11 : Hid (b11 = true → x58 = .slice (some ⟨ga, 0, none⟩) 9 9)) (cd12 : Hid (b12 = true → x59 = .int .i64 (i : Nat))) (cd13 : Hid (b13 = true → x60 = .slice (some ⟨ga, 0, none⟩) i 9)) (cd14 : Hid (b14 = true → x61 = .string ⟨T.toArray⟩)) (cd15 : Hid (b15 = true → x62 = .slice (some ⟨gb, 0, none⟩) 9 9)) (cd16 : Hid (b16 = true → x63 = .int .i64 (i : Nat))) (cd17 : Hid (b17 = true → x64 = .slice (some ⟨gb, 0, none⟩) i 9)) (cd18 : Hid (b18 = true → x65 = .string ⟨T.toArray⟩)) (cd19 : Hid (b19 = true → x66 = .bool true)) (cd20 : Hid (b20 = true → x67 = .bool true)) (cd21 : Hid (b21 = true → x2 = .bool true)) : KInts13 ga gb i d T a0 w0 L a w

set_option maxRecDepth 100000 in
set_option maxHeartbeats 4000000 in
theorem keyInts_walk (n : Int) (w : World) (hwf : (Lit.int .i64 n).wf = true) : Calls Try.prog 7 #[.int .i64 n] w (Told w true) := by
  have hr := wf_range hwf
  clear hwf
  by_cases hmax : n = 9223372036854775807
  · subst hmax
    go_enter Try.func7, Try.ntmps7
    go_wp2_with (go_at_call 17; (with_reducible refine (known6_any _).mono ?_); rintro e w1 ⟨rfl, b1⟩)
    go_ret
    exact ⟨rfl, b1⟩
  · have hm2 : (n == 9223372036854775807) = false := by simpa using hmax
    obtain ⟨U, hU⟩ : ∃ U : Nat, n + 9223372036854775808 = (U : Int) := ⟨(n + 9223372036854775808).toNat, by omega⟩
    have hU1 : U + 1 < 18446744073709551616 := by omega
    have eA : keyB ⟨2, n, ByteArray.empty⟩ = 2 :: be 8 U := by
      show 2 :: be 8 (n + 9223372036854775808).toNat = _
      rw [hU, Int.toNat_natCast]
    have eB : keyB ⟨2, n + 1, ByteArray.empty⟩ = 2 :: be 8 (U + 1) := by
      show 2 :: be 8 (n + 1 + 9223372036854775808).toNat = _
      rw [show n + 1 + 9223372036854775808 = ((U + 1 : Nat) : Int) by omega, Int.toNat_natCast]
    have lt := key_cmp ⟨2, n, ByteArray.empty⟩ ⟨2, n + 1, ByteArray.empty⟩ (Vok.int n hr) (Vok.int _ (by omega)) [] []
    rw [List.append_nil, List.append_nil, eA, eB, cmp_num, show cmpI n (n + 1) = -1 by unfold cmpI; rw [if_pos (by omega)]] at lt
    replace lt : Hid (cmpL (2 :: be 8 U) (2 :: be 8 (U + 1)) = -1) := lt
    have HA : ∀ w, Calls Try.prog 21 #[.agg #[.int .i64 2, .int .i64 n, .string ⟨#[]⟩]] w (FreshI w (2 :: be 8 U)) := fun w => by
      rw [← eA]
      exact keyBytes_any _ (Vok.int n hr) w
    have HB : ∀ w, Calls Try.prog 21 #[.agg #[.int .i64 2, .int .i64 (n + 1), .string ⟨#[]⟩]] w (FreshI w (2 :: be 8 (U + 1))) := fun w => by
      rw [← eB]
      exact keyBytes_any _ (Vok.int (n + 1) (by omega)) w
    have lA : (2 :: be 8 U).length = 9 := by rw [List.length_cons, be_length]
    have lB : (2 :: be 8 (U + 1)).length = 9 := by rw [List.length_cons, be_length]
    have hw1 : wrap64 (n + 1) = n + 1 := IntWalk.wrap64_in _ (by omega)
    unfold FreshI at HA HB
    rw [lA] at HA
    rw [lB] at HB
    clear eA eB hU
    go_enter Try.func7, Try.ntmps7
    go_wp2_with (first
      | (go_at_call 17; (with_reducible refine (known6_any _).mono ?_); rintro e w1 ⟨rfl, b1⟩)
      | (go_at_call 21; (with_reducible refine (HA w1).mono ?_); rintro e w2 ⟨ga, rfl, ia, b2, q2⟩; have B2 := b1.trans (b2.mono b1.size))
      | (go_at_call 21; (with_reducible refine (HB w2).mono ?_); rintro e w3 ⟨gb, rfl, ib, b3, q3⟩; have B3 := B2.trans (b3.mono B2.size); have ia3 := ia.past b3)
      | (go_at_call 22; (with_reducible refine (below_any _ _ _ _ _ _ _ _ w3 ia3 ib (by omega) (by omega)).mono ?_); rw [lt.out]; rintro e w4 ⟨rfl, b4⟩; have B4 := B3.trans (b4.mono B3.size); have ia4 := ia3.past b4; have ib4 := ib.past b4))
    go_loopw [5] (fun v wq => ∃ i : Nat, v = .int .i64 i ∧ 1 ≤ i ∧ i ≤ 8 ∧ Hid ((U + 1) % 256 ^ (8 - i) = 0) ∧ Below w4.heap.size w4 wq) (fun v _ => (intOf v).toNat)
    case atStart => exact ⟨8, rfl, by omega, by omega, Nat.mod_one _, Below.refl _ _⟩
    case round =>
      obtain ⟨i, rfl, hi1, hi8, hM, hB⟩ := hrel
      have ca := (ia4.past hB).cell _ rfl i _ (dg_get U i hi1 hi8)
      have cb := (ib4.past hB).cell _ rfl i _ (dg_get (U + 1) i hi1 hi8)
      unfold bc at ca cb
      rw [Addr.add_lit, Nat.zero_add, ofNat_toNat (dg_lt _ _)] at ca cb
      have i9 : (i : Int) < 9 := by omega
      by_cases hgo : 1 < i ∧ dg U i = 255
      · obtain ⟨g1, g2⟩ := hgo
        obtain ⟨hz, hM2⟩ := dg_next U i hi1 hi8 hM.out g2
        rw [g2] at ca
        rw [hz] at cb
        have g1' : (1 : Int) < i := by omega
        replace ca : wr.cell? ⟨ga, i, none⟩ = some (.int .u8 255) := ca
        replace cb : wr.cell? ⟨gb, i, none⟩ = some (.int .u8 0) := cb
        go_wp2_with fail
        go_roundw
        case rel => exact ⟨i - 1, by go_num, by omega, by omega, hM2, hB⟩
        case measure => simp [intOf]; omega
      · obtain ⟨hd, hd2, hT⟩ := dg_last U i hU1 hi1 hi8 hM.out (by omega)
        have ra := fun w => headB_run ga 0 9 9 i w (by omega) (by omega)
        have rb := fun w => headB_run gb 0 9 9 i w (by omega) (by omega)
        have ja := (IsB_take (ia4.past hB) (m := i) (by omega)).drew
        have jb := (IsB_take (ib4.past hB) (m := i) (by omega)).drew
        rw [← hT] at jb
        generalize List.take i (2 :: be 8 U) = T at ja jb
        rw [hd2] at cb
        clear hT hd2
        generalize dg U i = d at ca cb hd hgo
        replace cb : wr.cell? ⟨gb, i, none⟩ = some (.int .u8 ((d : Int) + 1)) := by rw [cb]; simp
        have hsum : IntKind.u8.wrap ((d : Int) + 1) = (d : Int) + 1 := by simp [IntKind.wrap, IntKind.bits, IntKind.signed]; omega
        by_cases g1 : (1 : Int) < i
        · have g2 : ¬ ((d : Int) = 255) := by omega
          have g3 : ((d : Int) == 255) = false := by simpa using g2
          have ca2 := ca
          have cb2 := cb
          go_wp2_with fail
          refine region_inv (KInts13 ga gb i d T) (by kernel_rfl) (by kernel_rfl) ?_ ?_ ?_
          · exact ⟨false, false, false, false, false, false, false, false, false, false, false, false, false, false, false, false, false, false, false, false, false, false, undef, undef, undef, undef, undef, undef, undef, undef, undef, undef, undef, undef, undef, undef, undef, undef, undef, undef, undef, undef, undef, u2, rfl, (by simp only [Act.put, List.setIfInBounds_toArray, List.set_cons_zero, List.set_cons_succ]), Below.refl _ _, (fun h => by cases h), (fun h => by cases h), (fun h => by cases h), (fun h => by cases h), (fun h => by cases h), (fun h => by cases h), (fun h => by cases h), (fun h => by cases h), (fun h => by cases h), (fun h => by cases h), (fun h => by cases h), (fun h => by cases h), (fun h => by cases h), (fun h => by cases h), (fun h => by cases h), (fun h => by cases h), (fun h => by cases h), (fun h => by cases h), (fun h => by cases h), (fun h => by cases h), (fun h => by cases h), (fun h => by cases h)⟩
          · refine ⟨?_, ?_, ?_, ?_, ?_, ?_, ?_, ?_, ?_, ?_, ?_, ?_, ?_, ?_, ?_, ?_, ?_, ?_, ?_, ?_, ?_, ?_, trivial⟩
            · rintro L a w ⟨b0, b1, b2, b3, b4, b5, b6, b7, b8, b9, b10, b11, b12, b13, b14, b15, b16, b17, b18, b19, b20, b21, x47, x48, x49, x50, x51, x52, x53, x54, x55, x56, x57, x58, x59, x60, x61, x62, x63, x64, x65, x66, x67, x2, rfl, rfl, hb, cd0, cd1, cd2, cd3, cd4, cd5, cd6, cd7, cd8, cd9, cd10, cd11, cd12, cd13, cd14, cd15, cd16, cd17, cd18, cd19, cd20, cd21⟩ hf hd
              have hf' : b0 = false := hf
              subst hf'
              clear hf hd
              try simp only [List.setIfInBounds_toArray, List.set_cons_zero, List.set_cons_succ]
              intro K hK
              rw [if_pos (by rfl)]
              go_simp
              exact hK.out _ _ ⟨true, b1, b2, b3, b4, b5, b6, b7, b8, b9, b10, b11, b12, b13, b14, b15, b16, b17, b18, b19, b20, b21, (.slice (some ⟨gb, 0, none⟩) 9 9), x48, x49, x50, x51, x52, x53, x54, x55, x56, x57, x58, x59, x60, x61, x62, x63, x64, x65, x66, x67, x2, (by simp only [Act.put, List.setIfInBounds_toArray, List.set_cons_zero, List.set_cons_succ]), (by simp only [Act.put, List.setIfInBounds_toArray, List.set_cons_zero, List.set_cons_succ]), hb, (fun _ => rfl), cd1, cd2, cd3, cd4, cd5, cd6, cd7, cd8, cd9, cd10, cd11, cd12, cd13, cd14, cd15, cd16, cd17, cd18, cd19, cd20, cd21⟩
            · rintro L a w ⟨b0, b1, b2, b3, b4, b5, b6, b7, b8, b9, b10, b11, b12, b13, b14, b15, b16, b17, b18, b19, b20, b21, x47, x48, x49, x50, x51, x52, x53, x54, x55, x56, x57, x58, x59, x60, x61, x62, x63, x64, x65, x66, x67, x2, rfl, rfl, hb, cd0, cd1, cd2, cd3, cd4, cd5, cd6, cd7, cd8, cd9, cd10, cd11, cd12, cd13, cd14, cd15, cd16, cd17, cd18, cd19, cd20, cd21⟩ hf hd
              have hf' : b1 = false := hf
              subst hf'
              clear hf hd
              try simp only [List.setIfInBounds_toArray, List.set_cons_zero, List.set_cons_succ]
              intro K hK
              rw [if_pos (by rfl)]
              go_simp
              exact hK.out _ _ ⟨b0, true, b2, b3, b4, b5, b6, b7, b8, b9, b10, b11, b12, b13, b14, b15, b16, b17, b18, b19, b20, b21, x47, (.int .i64 (i : Nat)), x49, x50, x51, x52, x53, x54, x55, x56, x57, x58, x59, x60, x61, x62, x63, x64, x65, x66, x67, x2, (by simp only [Act.put, List.setIfInBounds_toArray, List.set_cons_zero, List.set_cons_succ]), (by simp only [Act.put, List.setIfInBounds_toArray, List.set_cons_zero, List.set_cons_succ]), hb, cd0, (fun _ => rfl), cd2, cd3, cd4, cd5, cd6, cd7, cd8, cd9, cd10, cd11, cd12, cd13, cd14, cd15, cd16, cd17, cd18, cd19, cd20, cd21⟩
            · rintro L a w ⟨b0, b1, b2, b3, b4, b5, b6, b7, b8, b9, b10, b11, b12, b13, b14, b15, b16, b17, b18, b19, b20, b21, x47, x48, x49, x50, x51, x52, x53, x54, x55, x56, x57, x58, x59, x60, x61, x62, x63, x64, x65, x66, x67, x2, rfl, rfl, hb, cd0, cd1, cd2, cd3, cd4, cd5, cd6, cd7, cd8, cd9, cd10, cd11, cd12, cd13, cd14, cd15, cd16, cd17, cd18, cd19, cd20, cd21⟩ hf hd
              have hf' : b2 = false := hf
              subst hf'
              have d0 : b0 = true := hd ⟨0, .data⟩ (by simp) rfl
              subst d0
              have d1 : b1 = true := hd ⟨1, .data⟩ (by simp) rfl
              subst d1
              obtain rfl := cd0.out rfl
              obtain rfl := cd1.out rfl
              clear hf hd
              try simp only [List.setIfInBounds_toArray, List.set_cons_zero, List.set_cons_succ]
              intro K hK
              rw [if_pos (by rfl)]
              go_simp
              exact hK.out _ _ ⟨true, true, true, b3, b4, b5, b6, b7, b8, b9, b10, b11, b12, b13, b14, b15, b16, b17, b18, b19, b20, b21, .slice (some ⟨gb, 0, none⟩) 9 9, .int .i64 (i : Nat), (.pointer (some ⟨gb, i, none⟩)), x50, x51, x52, x53, x54, x55, x56, x57, x58, x59, x60, x61, x62, x63, x64, x65, x66, x67, x2, (by simp only [Act.put, List.setIfInBounds_toArray, List.set_cons_zero, List.set_cons_succ]), (by simp only [Act.put, List.setIfInBounds_toArray, List.set_cons_zero, List.set_cons_succ]), hb, (fun _ => rfl), (fun _ => rfl), (fun _ => rfl), cd3, cd4, cd5, cd6, cd7, cd8, cd9, cd10, cd11, cd12, cd13, cd14, cd15, cd16, cd17, cd18, cd19, cd20, cd21⟩
            · rintro L a w ⟨b0, b1, b2, b3, b4, b5, b6, b7, b8, b9, b10, b11, b12, b13, b14, b15, b16, b17, b18, b19, b20, b21, x47, x48, x49, x50, x51, x52, x53, x54, x55, x56, x57, x58, x59, x60, x61, x62, x63, x64, x65, x66, x67, x2, rfl, rfl, hb, cd0, cd1, cd2, cd3, cd4, cd5, cd6, cd7, cd8, cd9, cd10, cd11, cd12, cd13, cd14, cd15, cd16, cd17, cd18, cd19, cd20, cd21⟩ hf hd
              have hf' : b3 = false := hf
              subst hf'
              have d2 : b2 = true := hd ⟨2, .data⟩ (by simp) rfl
              subst d2
              obtain rfl := cd2.out rfl
              clear hf hd
              try simp only [List.setIfInBounds_toArray, List.set_cons_zero, List.set_cons_succ]
              have z1 := (cell_past (cell_past ca (Below.refl _ wr).drew) hb)
              have z2 := (cell_past (cell_past cb (Below.refl _ wr).drew) hb)
              intro K hK
              rw [if_pos (by rfl)]
              go_simp
              exact hK.out _ _ ⟨b0, b1, true, true, b4, b5, b6, b7, b8, b9, b10, b11, b12, b13, b14, b15, b16, b17, b18, b19, b20, b21, x47, x48, .pointer (some ⟨gb, i, none⟩), (.int .u8 ((d : Int) + 1)), x51, x52, x53, x54, x55, x56, x57, x58, x59, x60, x61, x62, x63, x64, x65, x66, x67, x2, (by simp only [Act.put, List.setIfInBounds_toArray, List.set_cons_zero, List.set_cons_succ]), (by simp only [Act.put, List.setIfInBounds_toArray, List.set_cons_zero, List.set_cons_succ]), hb, cd0, cd1, (fun _ => rfl), (fun _ => rfl), cd4, cd5, cd6, cd7, cd8, cd9, cd10, cd11, cd12, cd13, cd14, cd15, cd16, cd17, cd18, cd19, cd20, cd21⟩
            · rintro L a w ⟨b0, b1, b2, b3, b4, b5, b6, b7, b8, b9, b10, b11, b12, b13, b14, b15, b16, b17, b18, b19, b20, b21, x47, x48, x49, x50, x51, x52, x53, x54, x55, x56, x57, x58, x59, x60, x61, x62, x63, x64, x65, x66, x67, x2, rfl, rfl, hb, cd0, cd1, cd2, cd3, cd4, cd5, cd6, cd7, cd8, cd9, cd10, cd11, cd12, cd13, cd14, cd15, cd16, cd17, cd18, cd19, cd20, cd21⟩ hf hd
              have hf' : b4 = false := hf
              subst hf'
              clear hf hd
              try simp only [List.setIfInBounds_toArray, List.set_cons_zero, List.set_cons_succ]
              intro K hK
              rw [if_pos (by rfl)]
              go_simp
              exact hK.out _ _ ⟨b0, b1, b2, b3, true, b5, b6, b7, b8, b9, b10, b11, b12, b13, b14, b15, b16, b17, b18, b19, b20, b21, x47, x48, x49, x50, (.slice (some ⟨ga, 0, none⟩) 9 9), x52, x53, x54, x55, x56, x57, x58, x59, x60, x61, x62, x63, x64, x65, x66, x67, x2, (by simp only [Act.put, List.setIfInBounds_toArray, List.set_cons_zero, List.set_cons_succ]), (by simp only [Act.put, List.setIfInBounds_toArray, List.set_cons_zero, List.set_cons_succ]), hb, cd0, cd1, cd2, cd3, (fun _ => rfl), cd5, cd6, cd7, cd8, cd9, cd10, cd11, cd12, cd13, cd14, cd15, cd16, cd17, cd18, cd19, cd20, cd21⟩
            · rintro L a w ⟨b0, b1, b2, b3, b4, b5, b6, b7, b8, b9, b10, b11, b12, b13, b14, b15, b16, b17, b18, b19, b20, b21, x47, x48, x49, x50, x51, x52, x53, x54, x55, x56, x57, x58, x59, x60, x61, x62, x63, x64, x65, x66, x67, x2, rfl, rfl, hb, cd0, cd1, cd2, cd3, cd4, cd5, cd6, cd7, cd8, cd9, cd10, cd11, cd12, cd13, cd14, cd15, cd16, cd17, cd18, cd19, cd20, cd21⟩ hf hd
              have hf' : b5 = false := hf
              subst hf'
              clear hf hd
              try simp only [List.setIfInBounds_toArray, List.set_cons_zero, List.set_cons_succ]
              intro K hK
              rw [if_pos (by rfl)]
              go_simp
              exact hK.out _ _ ⟨b0, b1, b2, b3, b4, true, b6, b7, b8, b9, b10, b11, b12, b13, b14, b15, b16, b17, b18, b19, b20, b21, x47, x48, x49, x50, x51, (.int .i64 (i : Nat)), x53, x54, x55, x56, x57, x58, x59, x60, x61, x62, x63, x64, x65, x66, x67, x2, (by simp only [Act.put, List.setIfInBounds_toArray, List.set_cons_zero, List.set_cons_succ]), (by simp only [Act.put, List.setIfInBounds_toArray, List.set_cons_zero, List.set_cons_succ]), hb, cd0, cd1, cd2, cd3, cd4, (fun _ => rfl), cd6, cd7, cd8, cd9, cd10, cd11, cd12, cd13, cd14, cd15, cd16, cd17, cd18, cd19, cd20, cd21⟩
            · rintro L a w ⟨b0, b1, b2, b3, b4, b5, b6, b7, b8, b9, b10, b11, b12, b13, b14, b15, b16, b17, b18, b19, b20, b21, x47, x48, x49, x50, x51, x52, x53, x54, x55, x56, x57, x58, x59, x60, x61, x62, x63, x64, x65, x66, x67, x2, rfl, rfl, hb, cd0, cd1, cd2, cd3, cd4, cd5, cd6, cd7, cd8, cd9, cd10, cd11, cd12, cd13, cd14, cd15, cd16, cd17, cd18, cd19, cd20, cd21⟩ hf hd
              have hf' : b6 = false := hf
              subst hf'
              have d4 : b4 = true := hd ⟨4, .data⟩ (by simp) rfl
              subst d4
              have d5 : b5 = true := hd ⟨5, .data⟩ (by simp) rfl
              subst d5
              obtain rfl := cd4.out rfl
              obtain rfl := cd5.out rfl
              clear hf hd
              try simp only [List.setIfInBounds_toArray, List.set_cons_zero, List.set_cons_succ]
              intro K hK
              rw [if_pos (by rfl)]
              go_simp
              exact hK.out _ _ ⟨b0, b1, b2, b3, true, true, true, b7, b8, b9, b10, b11, b12, b13, b14, b15, b16, b17, b18, b19, b20, b21, x47, x48, x49, x50, .slice (some ⟨ga, 0, none⟩) 9 9, .int .i64 (i : Nat), (.pointer (some ⟨ga, i, none⟩)), x54, x55, x56, x57, x58, x59, x60, x61, x62, x63, x64, x65, x66, x67, x2, (by simp only [Act.put, List.setIfInBounds_toArray, List.set_cons_zero, List.set_cons_succ]), (by simp only [Act.put, List.setIfInBounds_toArray, List.set_cons_zero, List.set_cons_succ]), hb, cd0, cd1, cd2, cd3, (fun _ => rfl), (fun _ => rfl), (fun _ => rfl), cd7, cd8, cd9, cd10, cd11, cd12, cd13, cd14, cd15, cd16, cd17, cd18, cd19, cd20, cd21⟩
            · rintro L a w ⟨b0, b1, b2, b3, b4, b5, b6, b7, b8, b9, b10, b11, b12, b13, b14, b15, b16, b17, b18, b19, b20, b21, x47, x48, x49, x50, x51, x52, x53, x54, x55, x56, x57, x58, x59, x60, x61, x62, x63, x64, x65, x66, x67, x2, rfl, rfl, hb, cd0, cd1, cd2, cd3, cd4, cd5, cd6, cd7, cd8, cd9, cd10, cd11, cd12, cd13, cd14, cd15, cd16, cd17, cd18, cd19, cd20, cd21⟩ hf hd
              have hf' : b7 = false := hf
              subst hf'
              have d6 : b6 = true := hd ⟨6, .data⟩ (by simp) rfl
              subst d6
              obtain rfl := cd6.out rfl
              clear hf hd
              try simp only [List.setIfInBounds_toArray, List.set_cons_zero, List.set_cons_succ]
              have z1 := (cell_past (cell_past ca (Below.refl _ wr).drew) hb)
              have z2 := (cell_past (cell_past cb (Below.refl _ wr).drew) hb)
              intro K hK
              rw [if_pos (by rfl)]
              go_simp
              exact hK.out _ _ ⟨b0, b1, b2, b3, b4, b5, true, true, b8, b9, b10, b11, b12, b13, b14, b15, b16, b17, b18, b19, b20, b21, x47, x48, x49, x50, x51, x52, .pointer (some ⟨ga, i, none⟩), (.int .u8 (d : Nat)), x55, x56, x57, x58, x59, x60, x61, x62, x63, x64, x65, x66, x67, x2, (by simp only [Act.put, List.setIfInBounds_toArray, List.set_cons_zero, List.set_cons_succ]), (by simp only [Act.put, List.setIfInBounds_toArray, List.set_cons_zero, List.set_cons_succ]), hb, cd0, cd1, cd2, cd3, cd4, cd5, (fun _ => rfl), (fun _ => rfl), cd8, cd9, cd10, cd11, cd12, cd13, cd14, cd15, cd16, cd17, cd18, cd19, cd20, cd21⟩
            · rintro L a w ⟨b0, b1, b2, b3, b4, b5, b6, b7, b8, b9, b10, b11, b12, b13, b14, b15, b16, b17, b18, b19, b20, b21, x47, x48, x49, x50, x51, x52, x53, x54, x55, x56, x57, x58, x59, x60, x61, x62, x63, x64, x65, x66, x67, x2, rfl, rfl, hb, cd0, cd1, cd2, cd3, cd4, cd5, cd6, cd7, cd8, cd9, cd10, cd11, cd12, cd13, cd14, cd15, cd16, cd17, cd18, cd19, cd20, cd21⟩ hf hd
              have hf' : b8 = false := hf
              subst hf'
              have d7 : b7 = true := hd ⟨7, .data⟩ (by simp) rfl
              subst d7
              obtain rfl := cd7.out rfl
              clear hf hd
              try simp only [List.setIfInBounds_toArray, List.set_cons_zero, List.set_cons_succ]
              intro K hK
              rw [if_pos (by rfl)]
              go_simp
              exact hK.out _ _ ⟨b0, b1, b2, b3, b4, b5, b6, true, true, b9, b10, b11, b12, b13, b14, b15, b16, b17, b18, b19, b20, b21, x47, x48, x49, x50, x51, x52, x53, .int .u8 (d : Nat), (.int .u8 ((d : Int) + 1)), x56, x57, x58, x59, x60, x61, x62, x63, x64, x65, x66, x67, x2, (by simp only [Act.put, List.setIfInBounds_toArray, List.set_cons_zero, List.set_cons_succ]), (by simp only [Act.put, List.setIfInBounds_toArray, List.set_cons_zero, List.set_cons_succ]), hb, cd0, cd1, cd2, cd3, cd4, cd5, cd6, (fun _ => rfl), (fun _ => rfl), cd9, cd10, cd11, cd12, cd13, cd14, cd15, cd16, cd17, cd18, cd19, cd20, cd21⟩
            · rintro L a w ⟨b0, b1, b2, b3, b4, b5, b6, b7, b8, b9, b10, b11, b12, b13, b14, b15, b16, b17, b18, b19, b20, b21, x47, x48, x49, x50, x51, x52, x53, x54, x55, x56, x57, x58, x59, x60, x61, x62, x63, x64, x65, x66, x67, x2, rfl, rfl, hb, cd0, cd1, cd2, cd3, cd4, cd5, cd6, cd7, cd8, cd9, cd10, cd11, cd12, cd13, cd14, cd15, cd16, cd17, cd18, cd19, cd20, cd21⟩ hf hd
              have hf' : b9 = false := hf
              subst hf'
              have d3 : b3 = true := hd ⟨3, .data⟩ (by simp) rfl
              subst d3
              have d8 : b8 = true := hd ⟨8, .data⟩ (by simp) rfl
              subst d8
              obtain rfl := cd3.out rfl
              obtain rfl := cd8.out rfl
              clear hf hd
              try simp only [List.setIfInBounds_toArray, List.set_cons_zero, List.set_cons_succ]
              intro K hK
              rw [if_pos (by rfl)]
              go_simp
              exact hK.out _ _ ⟨b0, b1, b2, true, b4, b5, b6, b7, true, true, b10, b11, b12, b13, b14, b15, b16, b17, b18, b19, b20, b21, x47, x48, x49, .int .u8 ((d : Int) + 1), x51, x52, x53, x54, .int .u8 ((d : Int) + 1), (.bool true), x57, x58, x59, x60, x61, x62, x63, x64, x65, x66, x67, x2, (by simp only [Act.put, List.setIfInBounds_toArray, List.set_cons_zero, List.set_cons_succ]), (by simp only [Act.put, List.setIfInBounds_toArray, List.set_cons_zero, List.set_cons_succ]), hb, cd0, cd1, cd2, (fun _ => rfl), cd4, cd5, cd6, cd7, (fun _ => rfl), (fun _ => rfl), cd10, cd11, cd12, cd13, cd14, cd15, cd16, cd17, cd18, cd19, cd20, cd21⟩
            · rintro L a w ⟨b0, b1, b2, b3, b4, b5, b6, b7, b8, b9, b10, b11, b12, b13, b14, b15, b16, b17, b18, b19, b20, b21, x47, x48, x49, x50, x51, x52, x53, x54, x55, x56, x57, x58, x59, x60, x61, x62, x63, x64, x65, x66, x67, x2, rfl, rfl, hb, cd0, cd1, cd2, cd3, cd4, cd5, cd6, cd7, cd8, cd9, cd10, cd11, cd12, cd13, cd14, cd15, cd16, cd17, cd18, cd19, cd20, cd21⟩ hf hd
              have hf' : b10 = false := hf
              subst hf'
              have d9 : b9 = true := hd ⟨9, .data⟩ (by simp) rfl
              subst d9
              obtain rfl := cd9.out rfl
              clear hf hd
              try simp only [List.setIfInBounds_toArray, List.set_cons_zero, List.set_cons_succ]
              intro K hK
              rw [if_pos (by rfl)]
              go_simp
              exact hK.out _ _ ⟨b0, b1, b2, b3, b4, b5, b6, b7, b8, true, true, b11, b12, b13, b14, b15, b16, b17, b18, b19, b20, b21, x47, x48, x49, x50, x51, x52, x53, x54, x55, .bool true, (.bool true), x58, x59, x60, x61, x62, x63, x64, x65, x66, x67, x2, (by simp only [Act.put, List.setIfInBounds_toArray, List.set_cons_zero, List.set_cons_succ]), (by simp only [Act.put, List.setIfInBounds_toArray, List.set_cons_zero, List.set_cons_succ]), hb, cd0, cd1, cd2, cd3, cd4, cd5, cd6, cd7, cd8, (fun _ => rfl), (fun _ => rfl), cd11, cd12, cd13, cd14, cd15, cd16, cd17, cd18, cd19, cd20, cd21⟩
            · rintro L a w ⟨b0, b1, b2, b3, b4, b5, b6, b7, b8, b9, b10, b11, b12, b13, b14, b15, b16, b17, b18, b19, b20, b21, x47, x48, x49, x50, x51, x52, x53, x54, x55, x56, x57, x58, x59, x60, x61, x62, x63, x64, x65, x66, x67, x2, rfl, rfl, hb, cd0, cd1, cd2, cd3, cd4, cd5, cd6, cd7, cd8, cd9, cd10, cd11, cd12, cd13, cd14, cd15, cd16, cd17, cd18, cd19, cd20, cd21⟩ hf hd
              have hf' : b11 = false := hf
              subst hf'
              have d10 : b10 = true := hd ⟨10, .guard⟩ (by simp) rfl
              subst d10
              obtain rfl := cd10.out rfl
              clear hf hd
              try simp only [List.setIfInBounds_toArray, List.set_cons_zero, List.set_cons_succ]
              intro K hK
              rw [if_pos (by rfl)]
              go_simp
              exact hK.out _ _ ⟨b0, b1, b2, b3, b4, b5, b6, b7, b8, b9, true, true, b12, b13, b14, b15, b16, b17, b18, b19, b20, b21, x47, x48, x49, x50, x51, x52, x53, x54, x55, x56, .bool true, (.slice (some ⟨ga, 0, none⟩) 9 9), x59, x60, x61, x62, x63, x64, x65, x66, x67, x2, (by simp only [Act.put, List.setIfInBounds_toArray, List.set_cons_zero, List.set_cons_succ]), (by simp only [Act.put, List.setIfInBounds_toArray, List.set_cons_zero, List.set_cons_succ]), hb, cd0, cd1, cd2, cd3, cd4, cd5, cd6, cd7, cd8, cd9, (fun _ => rfl), (fun _ => rfl), cd12, cd13, cd14, cd15, cd16, cd17, cd18, cd19, cd20, cd21⟩
            · rintro L a w ⟨b0, b1, b2, b3, b4, b5, b6, b7, b8, b9, b10, b11, b12, b13, b14, b15, b16, b17, b18, b19, b20, b21, x47, x48, x49, x50, x51, x52, x53, x54, x55, x56, x57, x58, x59, x60, x61, x62, x63, x64, x65, x66, x67, x2, rfl, rfl, hb, cd0, cd1, cd2, cd3, cd4, cd5, cd6, cd7, cd8, cd9, cd10, cd11, cd12, cd13, cd14, cd15, cd16, cd17, cd18, cd19, cd20, cd21⟩ hf hd
              have hf' : b12 = false := hf
              subst hf'
              have d10 : b10 = true := hd ⟨10, .guard⟩ (by simp) rfl
              subst d10
              obtain rfl := cd10.out rfl
              clear hf hd
              try simp only [List.setIfInBounds_toArray, List.set_cons_zero, List.set_cons_succ]
              intro K hK
              rw [if_pos (by rfl)]
              go_simp
              exact hK.out _ _ ⟨b0, b1, b2, b3, b4, b5, b6, b7, b8, b9, true, b11, true, b13, b14, b15, b16, b17, b18, b19, b20, b21, x47, x48, x49, x50, x51, x52, x53, x54, x55, x56, .bool true, x58, (.int .i64 (i : Nat)), x60, x61, x62, x63, x64, x65, x66, x67, x2, (by simp only [Act.put, List.setIfInBounds_toArray, List.set_cons_zero, List.set_cons_succ]), (by simp only [Act.put, List.setIfInBounds_toArray, List.set_cons_zero, List.set_cons_succ]), hb, cd0, cd1, cd2, cd3, cd4, cd5, cd6, cd7, cd8, cd9, (fun _ => rfl), cd11, (fun _ => rfl), cd13, cd14, cd15, cd16, cd17, cd18, cd19, cd20, cd21⟩
            · rintro L a w ⟨b0, b1, b2, b3, b4, b5, b6, b7, b8, b9, b10, b11, b12, b13, b14, b15, b16, b17, b18, b19, b20, b21, x47, x48, x49, x50, x51, x52, x53, x54, x55, x56, x57, x58, x59, x60, x61, x62, x63, x64, x65, x66, x67, x2, rfl, rfl, hb, cd0, cd1, cd2, cd3, cd4, cd5, cd6, cd7, cd8, cd9, cd10, cd11, cd12, cd13, cd14, cd15, cd16, cd17, cd18, cd19, cd20, cd21⟩ hf hd
              have hf' : b13 = false := hf
              subst hf'
              have d11 : b11 = true := hd ⟨11, .data⟩ (by simp) rfl
              subst d11
              have d12 : b12 = true := hd ⟨12, .data⟩ (by simp) rfl
              subst d12
              have d10 : b10 = true := hd ⟨10, .guard⟩ (by simp) rfl
              subst d10
              obtain rfl := cd11.out rfl
              obtain rfl := cd12.out rfl
              obtain rfl := cd10.out rfl
              clear hf hd
              try simp only [List.setIfInBounds_toArray, List.set_cons_zero, List.set_cons_succ]
              intro K hK
              rw [if_pos (by rfl)]
              go_simp
              exact hK.out _ _ ⟨b0, b1, b2, b3, b4, b5, b6, b7, b8, b9, true, true, true, true, b14, b15, b16, b17, b18, b19, b20, b21, x47, x48, x49, x50, x51, x52, x53, x54, x55, x56, .bool true, .slice (some ⟨ga, 0, none⟩) 9 9, .int .i64 (i : Nat), (.slice (some ⟨ga, 0, none⟩) i 9), x61, x62, x63, x64, x65, x66, x67, x2, (by simp only [Act.put, List.setIfInBounds_toArray, List.set_cons_zero, List.set_cons_succ]), (by simp only [Act.put, List.setIfInBounds_toArray, List.set_cons_zero, List.set_cons_succ]), hb, cd0, cd1, cd2, cd3, cd4, cd5, cd6, cd7, cd8, cd9, (fun _ => rfl), (fun _ => rfl), (fun _ => rfl), (fun _ => rfl), cd14, cd15, cd16, cd17, cd18, cd19, cd20, cd21⟩
            · rintro L a w ⟨b0, b1, b2, b3, b4, b5, b6, b7, b8, b9, b10, b11, b12, b13, b14, b15, b16, b17, b18, b19, b20, b21, x47, x48, x49, x50, x51, x52, x53, x54, x55, x56, x57, x58, x59, x60, x61, x62, x63, x64, x65, x66, x67, x2, rfl, rfl, hb, cd0, cd1, cd2, cd3, cd4, cd5, cd6, cd7, cd8, cd9, cd10, cd11, cd12, cd13, cd14, cd15, cd16, cd17, cd18, cd19, cd20, cd21⟩ hf hd
              have hf' : b14 = false := hf
              subst hf'
              have d13 : b13 = true := hd ⟨13, .data⟩ (by simp) rfl
              subst d13
              have d10 : b10 = true := hd ⟨10, .guard⟩ (by simp) rfl
              subst d10
              obtain rfl := cd13.out rfl
              obtain rfl := cd10.out rfl
              clear hf hd
              try simp only [List.setIfInBounds_toArray, List.set_cons_zero, List.set_cons_succ]
              have cv := (ja.past hb).conv byteTy Try.underlying9
              intro K hK
              rw [if_pos (by rfl)]
              go_simp
              exact hK.out _ _ ⟨b0, b1, b2, b3, b4, b5, b6, b7, b8, b9, true, b11, b12, true, true, b15, b16, b17, b18, b19, b20, b21, x47, x48, x49, x50, x51, x52, x53, x54, x55, x56, .bool true, x58, x59, .slice (some ⟨ga, 0, none⟩) i 9, (.string ⟨T.toArray⟩), x62, x63, x64, x65, x66, x67, x2, (by simp only [Act.put, List.setIfInBounds_toArray, List.set_cons_zero, List.set_cons_succ]), (by simp only [Act.put, List.setIfInBounds_toArray, List.set_cons_zero, List.set_cons_succ]), hb, cd0, cd1, cd2, cd3, cd4, cd5, cd6, cd7, cd8, cd9, (fun _ => rfl), cd11, cd12, (fun _ => rfl), (fun _ => rfl), cd15, cd16, cd17, cd18, cd19, cd20, cd21⟩
            · rintro L a w ⟨b0, b1, b2, b3, b4, b5, b6, b7, b8, b9, b10, b11, b12, b13, b14, b15, b16, b17, b18, b19, b20, b21, x47, x48, x49, x50, x51, x52, x53, x54, x55, x56, x57, x58, x59, x60, x61, x62, x63, x64, x65, x66, x67, x2, rfl, rfl, hb, cd0, cd1, cd2, cd3, cd4, cd5, cd6, cd7, cd8, cd9, cd10, cd11, cd12, cd13, cd14, cd15, cd16, cd17, cd18, cd19, cd20, cd21⟩ hf hd
              have hf' : b15 = false := hf
              subst hf'
              have d10 : b10 = true := hd ⟨10, .guard⟩ (by simp) rfl
              subst d10
              obtain rfl := cd10.out rfl
              clear hf hd
              try simp only [List.setIfInBounds_toArray, List.set_cons_zero, List.set_cons_succ]
              intro K hK
              rw [if_pos (by rfl)]
              go_simp
              exact hK.out _ _ ⟨b0, b1, b2, b3, b4, b5, b6, b7, b8, b9, true, b11, b12, b13, b14, true, b16, b17, b18, b19, b20, b21, x47, x48, x49, x50, x51, x52, x53, x54, x55, x56, .bool true, x58, x59, x60, x61, (.slice (some ⟨gb, 0, none⟩) 9 9), x63, x64, x65, x66, x67, x2, (by simp only [Act.put, List.setIfInBounds_toArray, List.set_cons_zero, List.set_cons_succ]), (by simp only [Act.put, List.setIfInBounds_toArray, List.set_cons_zero, List.set_cons_succ]), hb, cd0, cd1, cd2, cd3, cd4, cd5, cd6, cd7, cd8, cd9, (fun _ => rfl), cd11, cd12, cd13, cd14, (fun _ => rfl), cd16, cd17, cd18, cd19, cd20, cd21⟩
            · rintro L a w ⟨b0, b1, b2, b3, b4, b5, b6, b7, b8, b9, b10, b11, b12, b13, b14, b15, b16, b17, b18, b19, b20, b21, x47, x48, x49, x50, x51, x52, x53, x54, x55, x56, x57, x58, x59, x60, x61, x62, x63, x64, x65, x66, x67, x2, rfl, rfl, hb, cd0, cd1, cd2, cd3, cd4, cd5, cd6, cd7, cd8, cd9, cd10, cd11, cd12, cd13, cd14, cd15, cd16, cd17, cd18, cd19, cd20, cd21⟩ hf hd
              have hf' : b16 = false := hf
              subst hf'
              have d10 : b10 = true := hd ⟨10, .guard⟩ (by simp) rfl
              subst d10
              obtain rfl := cd10.out rfl
              clear hf hd
              try simp only [List.setIfInBounds_toArray, List.set_cons_zero, List.set_cons_succ]
              intro K hK
              rw [if_pos (by rfl)]
              go_simp
              exact hK.out _ _ ⟨b0, b1, b2, b3, b4, b5, b6, b7, b8, b9, true, b11, b12, b13, b14, b15, true, b17, b18, b19, b20, b21, x47, x48, x49, x50, x51, x52, x53, x54, x55, x56, .bool true, x58, x59, x60, x61, x62, (.int .i64 (i : Nat)), x64, x65, x66, x67, x2, (by simp only [Act.put, List.setIfInBounds_toArray, List.set_cons_zero, List.set_cons_succ]), (by simp only [Act.put, List.setIfInBounds_toArray, List.set_cons_zero, List.set_cons_succ]), hb, cd0, cd1, cd2, cd3, cd4, cd5, cd6, cd7, cd8, cd9, (fun _ => rfl), cd11, cd12, cd13, cd14, cd15, (fun _ => rfl), cd17, cd18, cd19, cd20, cd21⟩
            · rintro L a w ⟨b0, b1, b2, b3, b4, b5, b6, b7, b8, b9, b10, b11, b12, b13, b14, b15, b16, b17, b18, b19, b20, b21, x47, x48, x49, x50, x51, x52, x53, x54, x55, x56, x57, x58, x59, x60, x61, x62, x63, x64, x65, x66, x67, x2, rfl, rfl, hb, cd0, cd1, cd2, cd3, cd4, cd5, cd6, cd7, cd8, cd9, cd10, cd11, cd12, cd13, cd14, cd15, cd16, cd17, cd18, cd19, cd20, cd21⟩ hf hd
              have hf' : b17 = false := hf
              subst hf'
              have d15 : b15 = true := hd ⟨15, .data⟩ (by simp) rfl
              subst d15
              have d16 : b16 = true := hd ⟨16, .data⟩ (by simp) rfl
              subst d16
              have d10 : b10 = true := hd ⟨10, .guard⟩ (by simp) rfl
              subst d10
              obtain rfl := cd15.out rfl
              obtain rfl := cd16.out rfl
              obtain rfl := cd10.out rfl
              clear hf hd
              try simp only [List.setIfInBounds_toArray, List.set_cons_zero, List.set_cons_succ]
              intro K hK
              rw [if_pos (by rfl)]
              go_simp
              exact hK.out _ _ ⟨b0, b1, b2, b3, b4, b5, b6, b7, b8, b9, true, b11, b12, b13, b14, true, true, true, b18, b19, b20, b21, x47, x48, x49, x50, x51, x52, x53, x54, x55, x56, .bool true, x58, x59, x60, x61, .slice (some ⟨gb, 0, none⟩) 9 9, .int .i64 (i : Nat), (.slice (some ⟨gb, 0, none⟩) i 9), x65, x66, x67, x2, (by simp only [Act.put, List.setIfInBounds_toArray, List.set_cons_zero, List.set_cons_succ]), (by simp only [Act.put, List.setIfInBounds_toArray, List.set_cons_zero, List.set_cons_succ]), hb, cd0, cd1, cd2, cd3, cd4, cd5, cd6, cd7, cd8, cd9, (fun _ => rfl), cd11, cd12, cd13, cd14, (fun _ => rfl), (fun _ => rfl), (fun _ => rfl), cd18, cd19, cd20, cd21⟩
            · rintro L a w ⟨b0, b1, b2, b3, b4, b5, b6, b7, b8, b9, b10, b11, b12, b13, b14, b15, b16, b17, b18, b19, b20, b21, x47, x48, x49, x50, x51, x52, x53, x54, x55, x56, x57, x58, x59, x60, x61, x62, x63, x64, x65, x66, x67, x2, rfl, rfl, hb, cd0, cd1, cd2, cd3, cd4, cd5, cd6, cd7, cd8, cd9, cd10, cd11, cd12, cd13, cd14, cd15, cd16, cd17, cd18, cd19, cd20, cd21⟩ hf hd
              have hf' : b18 = false := hf
              subst hf'
              have d17 : b17 = true := hd ⟨17, .data⟩ (by simp) rfl
              subst d17
              have d10 : b10 = true := hd ⟨10, .guard⟩ (by simp) rfl
              subst d10
              obtain rfl := cd17.out rfl
              obtain rfl := cd10.out rfl
              clear hf hd
              try simp only [List.setIfInBounds_toArray, List.set_cons_zero, List.set_cons_succ]
              have cv := (jb.past hb).conv byteTy Try.underlying9
              intro K hK
              rw [if_pos (by rfl)]
              go_simp
              exact hK.out _ _ ⟨b0, b1, b2, b3, b4, b5, b6, b7, b8, b9, true, b11, b12, b13, b14, b15, b16, true, true, b19, b20, b21, x47, x48, x49, x50, x51, x52, x53, x54, x55, x56, .bool true, x58, x59, x60, x61, x62, x63, .slice (some ⟨gb, 0, none⟩) i 9, (.string ⟨T.toArray⟩), x66, x67, x2, (by simp only [Act.put, List.setIfInBounds_toArray, List.set_cons_zero, List.set_cons_succ]), (by simp only [Act.put, List.setIfInBounds_toArray, List.set_cons_zero, List.set_cons_succ]), hb, cd0, cd1, cd2, cd3, cd4, cd5, cd6, cd7, cd8, cd9, (fun _ => rfl), cd11, cd12, cd13, cd14, cd15, cd16, (fun _ => rfl), (fun _ => rfl), cd19, cd20, cd21⟩
            · rintro L a w ⟨b0, b1, b2, b3, b4, b5, b6, b7, b8, b9, b10, b11, b12, b13, b14, b15, b16, b17, b18, b19, b20, b21, x47, x48, x49, x50, x51, x52, x53, x54, x55, x56, x57, x58, x59, x60, x61, x62, x63, x64, x65, x66, x67, x2, rfl, rfl, hb, cd0, cd1, cd2, cd3, cd4, cd5, cd6, cd7, cd8, cd9, cd10, cd11, cd12, cd13, cd14, cd15, cd16, cd17, cd18, cd19, cd20, cd21⟩ hf hd
              have hf' : b19 = false := hf
              subst hf'
              have d14 : b14 = true := hd ⟨14, .data⟩ (by simp) rfl
              subst d14
              have d18 : b18 = true := hd ⟨18, .data⟩ (by simp) rfl
              subst d18
              have d10 : b10 = true := hd ⟨10, .guard⟩ (by simp) rfl
              subst d10
              obtain rfl := cd14.out rfl
              obtain rfl := cd18.out rfl
              obtain rfl := cd10.out rfl
              clear hf hd
              try simp only [List.setIfInBounds_toArray, List.set_cons_zero, List.set_cons_succ]
              intro K hK
              rw [if_pos (by rfl)]
              go_simp
              exact hK.out _ _ ⟨b0, b1, b2, b3, b4, b5, b6, b7, b8, b9, true, b11, b12, b13, true, b15, b16, b17, true, true, b20, b21, x47, x48, x49, x50, x51, x52, x53, x54, x55, x56, .bool true, x58, x59, x60, .string ⟨T.toArray⟩, x62, x63, x64, .string ⟨T.toArray⟩, (.bool true), x67, x2, (by simp only [Act.put, List.setIfInBounds_toArray, List.set_cons_zero, List.set_cons_succ]), (by simp only [Act.put, List.setIfInBounds_toArray, List.set_cons_zero, List.set_cons_succ]), hb, cd0, cd1, cd2, cd3, cd4, cd5, cd6, cd7, cd8, cd9, (fun _ => rfl), cd11, cd12, cd13, (fun _ => rfl), cd15, cd16, cd17, (fun _ => rfl), (fun _ => rfl), cd20, cd21⟩
            · rintro L a w ⟨b0, b1, b2, b3, b4, b5, b6, b7, b8, b9, b10, b11, b12, b13, b14, b15, b16, b17, b18, b19, b20, b21, x47, x48, x49, x50, x51, x52, x53, x54, x55, x56, x57, x58, x59, x60, x61, x62, x63, x64, x65, x66, x67, x2, rfl, rfl, hb, cd0, cd1, cd2, cd3, cd4, cd5, cd6, cd7, cd8, cd9, cd10, cd11, cd12, cd13, cd14, cd15, cd16, cd17, cd18, cd19, cd20, cd21⟩ hf hd
              have hf' : b20 = false := hf
              subst hf'
              have d10 : b10 = true := hd ⟨10, .data⟩ (by simp) rfl
              subst d10
              have d19 : b19 = true := hd ⟨19, .data⟩ (by simp) rfl
              subst d19
              obtain rfl := cd10.out rfl
              obtain rfl := cd19.out rfl
              clear hf hd
              try simp only [List.setIfInBounds_toArray, List.set_cons_zero, List.set_cons_succ]
              intro K hK
              rw [if_pos (by rfl)]
              go_simp
              exact hK.out _ _ ⟨b0, b1, b2, b3, b4, b5, b6, b7, b8, b9, true, b11, b12, b13, b14, b15, b16, b17, b18, true, true, b21, x47, x48, x49, x50, x51, x52, x53, x54, x55, x56, .bool true, x58, x59, x60, x61, x62, x63, x64, x65, .bool true, (.bool true), x2, (by simp only [Act.put, List.setIfInBounds_toArray, List.set_cons_zero, List.set_cons_succ]), (by simp only [Act.put, List.setIfInBounds_toArray, List.set_cons_zero, List.set_cons_succ]), hb, cd0, cd1, cd2, cd3, cd4, cd5, cd6, cd7, cd8, cd9, (fun _ => rfl), cd11, cd12, cd13, cd14, cd15, cd16, cd17, cd18, (fun _ => rfl), (fun _ => rfl), cd21⟩
            · rintro L a w ⟨b0, b1, b2, b3, b4, b5, b6, b7, b8, b9, b10, b11, b12, b13, b14, b15, b16, b17, b18, b19, b20, b21, x47, x48, x49, x50, x51, x52, x53, x54, x55, x56, x57, x58, x59, x60, x61, x62, x63, x64, x65, x66, x67, x2, rfl, rfl, hb, cd0, cd1, cd2, cd3, cd4, cd5, cd6, cd7, cd8, cd9, cd10, cd11, cd12, cd13, cd14, cd15, cd16, cd17, cd18, cd19, cd20, cd21⟩ hf hd
              have hf' : b21 = false := hf
              subst hf'
              have d20 : b20 = true := hd ⟨20, .data⟩ (by simp) rfl
              subst d20
              have d10 : b10 = true := hd ⟨10, .chain⟩ (by simp) rfl
              subst d10
              have d0 : b0 = true := hd ⟨0, .phase⟩ (by simp) rfl
              subst d0
              have d1 : b1 = true := hd ⟨1, .phase⟩ (by simp) rfl
              subst d1
              have d2 : b2 = true := hd ⟨2, .phase⟩ (by simp) rfl
              subst d2
              have d3 : b3 = true := hd ⟨3, .phase⟩ (by simp) rfl
              subst d3
              have d4 : b4 = true := hd ⟨4, .phase⟩ (by simp) rfl
              subst d4
              have d5 : b5 = true := hd ⟨5, .phase⟩ (by simp) rfl
              subst d5
              have d6 : b6 = true := hd ⟨6, .phase⟩ (by simp) rfl
              subst d6
              have d7 : b7 = true := hd ⟨7, .phase⟩ (by simp) rfl
              subst d7
              have d8 : b8 = true := hd ⟨8, .phase⟩ (by simp) rfl
              subst d8
              have d9 : b9 = true := hd ⟨9, .phase⟩ (by simp) rfl
              subst d9
              have d11 : b11 = true := hd ⟨11, .phase⟩ (by simp) rfl
              subst d11
              have d12 : b12 = true := hd ⟨12, .phase⟩ (by simp) rfl
              subst d12
              have d13 : b13 = true := hd ⟨13, .phase⟩ (by simp) rfl
              subst d13
              have d14 : b14 = true := hd ⟨14, .phase⟩ (by simp) rfl
              subst d14
              have d15 : b15 = true := hd ⟨15, .phase⟩ (by simp) rfl
              subst d15
              have d16 : b16 = true := hd ⟨16, .phase⟩ (by simp) rfl
              subst d16
              have d17 : b17 = true := hd ⟨17, .phase⟩ (by simp) rfl
              subst d17
              have d18 : b18 = true := hd ⟨18, .phase⟩ (by simp) rfl
              subst d18
              have d19 : b19 = true := hd ⟨19, .phase⟩ (by simp) rfl
              subst d19
              obtain rfl := cd20.out rfl
              obtain rfl := cd10.out rfl
              obtain rfl := cd0.out rfl
              obtain rfl := cd1.out rfl
              obtain rfl := cd2.out rfl
              obtain rfl := cd3.out rfl
              obtain rfl := cd4.out rfl
              obtain rfl := cd5.out rfl
              obtain rfl := cd6.out rfl
              obtain rfl := cd7.out rfl
              obtain rfl := cd8.out rfl
              obtain rfl := cd9.out rfl
              obtain rfl := cd11.out rfl
              obtain rfl := cd12.out rfl
              obtain rfl := cd13.out rfl
              obtain rfl := cd14.out rfl
              obtain rfl := cd15.out rfl
              obtain rfl := cd16.out rfl
              obtain rfl := cd17.out rfl
              obtain rfl := cd18.out rfl
              obtain rfl := cd19.out rfl
              clear hf hd
              try simp only [List.setIfInBounds_toArray, List.set_cons_zero, List.set_cons_succ]
              intro K hK
              rw [if_pos (by rfl)]
              go_simp
              exact hK.out _ _ ⟨true, true, true, true, true, true, true, true, true, true, true, true, true, true, true, true, true, true, true, true, true, true, .slice (some ⟨gb, 0, none⟩) 9 9, .int .i64 (i : Nat), .pointer (some ⟨gb, i, none⟩), .int .u8 ((d : Int) + 1), .slice (some ⟨ga, 0, none⟩) 9 9, .int .i64 (i : Nat), .pointer (some ⟨ga, i, none⟩), .int .u8 (d : Nat), .int .u8 ((d : Int) + 1), .bool true, .bool true, .slice (some ⟨ga, 0, none⟩) 9 9, .int .i64 (i : Nat), .slice (some ⟨ga, 0, none⟩) i 9, .string ⟨T.toArray⟩, .slice (some ⟨gb, 0, none⟩) 9 9, .int .i64 (i : Nat), .slice (some ⟨gb, 0, none⟩) i 9, .string ⟨T.toArray⟩, .bool true, .bool true, (.bool true), (by simp only [Act.put, List.setIfInBounds_toArray, List.set_cons_zero, List.set_cons_succ]), (by simp only [Act.put, List.setIfInBounds_toArray, List.set_cons_zero, List.set_cons_succ]), hb, (fun _ => rfl), (fun _ => rfl), (fun _ => rfl), (fun _ => rfl), (fun _ => rfl), (fun _ => rfl), (fun _ => rfl), (fun _ => rfl), (fun _ => rfl), (fun _ => rfl), (fun _ => rfl), (fun _ => rfl), (fun _ => rfl), (fun _ => rfl), (fun _ => rfl), (fun _ => rfl), (fun _ => rfl), (fun _ => rfl), (fun _ => rfl), (fun _ => rfl), (fun _ => rfl), (fun _ => rfl)⟩
          · rintro a w ⟨b0, b1, b2, b3, b4, b5, b6, b7, b8, b9, b10, b11, b12, b13, b14, b15, b16, b17, b18, b19, b20, b21, x47, x48, x49, x50, x51, x52, x53, x54, x55, x56, x57, x58, x59, x60, x61, x62, x63, x64, x65, x66, x67, x2, hL, rfl, hb, cd0, cd1, cd2, cd3, cd4, cd5, cd6, cd7, cd8, cd9, cd10, cd11, cd12, cd13, cd14, cd15, cd16, cd17, cd18, cd19, cd20, cd21⟩
            have hL' : [true, true, true, true, true, true, true, true, true, true, true, true, true, true, true, true, true, true, true, true, true, true] = [b0, b1, b2, b3, b4, b5, b6, b7, b8, b9, b10, b11, b12, b13, b14, b15, b16, b17, b18, b19, b20, b21] := congrArg Array.toList hL
            simp only [List.cons.injEq, and_true] at hL'
            obtain ⟨rfl, rfl, rfl, rfl, rfl, rfl, rfl, rfl, rfl, rfl, rfl, rfl, rfl, rfl, rfl, rfl, rfl, rfl, rfl, rfl, rfl, rfl⟩ := hL'
            obtain rfl := cd0.out rfl
            obtain rfl := cd1.out rfl
            obtain rfl := cd2.out rfl
            obtain rfl := cd3.out rfl
            obtain rfl := cd4.out rfl
            obtain rfl := cd5.out rfl
            obtain rfl := cd6.out rfl
            obtain rfl := cd7.out rfl
            obtain rfl := cd8.out rfl
            obtain rfl := cd9.out rfl
            obtain rfl := cd10.out rfl
            obtain rfl := cd11.out rfl
            obtain rfl := cd12.out rfl
            obtain rfl := cd13.out rfl
            obtain rfl := cd14.out rfl
            obtain rfl := cd15.out rfl
            obtain rfl := cd16.out rfl
            obtain rfl := cd17.out rfl
            obtain rfl := cd18.out rfl
            obtain rfl := cd19.out rfl
            obtain rfl := cd20.out rfl
            obtain rfl := cd21.out rfl
            clear hL
            simp only [List.setIfInBounds_toArray, List.set_cons_zero, List.set_cons_succ]
            have BE := B4.trans ((hB.trans ((Below.refl wr.heap.size wr).drew.mono hB.size)).mono B4.size)
            have BF := BE.trans (hb.mono BE.size)
            go_wp2_with fail
            go_ret
            exact ⟨rfl, BF⟩
        · have ca2 := ca
          have cb2 := cb
          go_wp2_with fail
          refine region_inv (KInts13 ga gb i d T) (by kernel_rfl) (by kernel_rfl) ?_ ?_ ?_
          · exact ⟨false, false, false, false, false, false, false, false, false, false, false, false, false, false, false, false, false, false, false, false, false, false, undef, undef, undef, undef, undef, undef, undef, undef, undef, undef, undef, undef, undef, undef, undef, undef, undef, undef, undef, undef, undef, u2, rfl, (by simp only [Act.put, List.setIfInBounds_toArray, List.set_cons_zero, List.set_cons_succ]), Below.refl _ _, (fun h => by cases h), (fun h => by cases h), (fun h => by cases h), (fun h => by cases h), (fun h => by cases h), (fun h => by cases h), (fun h => by cases h), (fun h => by cases h), (fun h => by cases h), (fun h => by cases h), (fun h => by cases h), (fun h => by cases h), (fun h => by cases h), (fun h => by cases h), (fun h => by cases h), (fun h => by cases h), (fun h => by cases h), (fun h => by cases h), (fun h => by cases h), (fun h => by cases h), (fun h => by cases h), (fun h => by cases h)⟩
          · refine ⟨?_, ?_, ?_, ?_, ?_, ?_, ?_, ?_, ?_, ?_, ?_, ?_, ?_, ?_, ?_, ?_, ?_, ?_, ?_, ?_, ?_, ?_, trivial⟩
            · rintro L a w ⟨b0, b1, b2, b3, b4, b5, b6, b7, b8, b9, b10, b11, b12, b13, b14, b15, b16, b17, b18, b19, b20, b21, x47, x48, x49, x50, x51, x52, x53, x54, x55, x56, x57, x58, x59, x60, x61, x62, x63, x64, x65, x66, x67, x2, rfl, rfl, hb, cd0, cd1, cd2, cd3, cd4, cd5, cd6, cd7, cd8, cd9, cd10, cd11, cd12, cd13, cd14, cd15, cd16, cd17, cd18, cd19, cd20, cd21⟩ hf hd
              have hf' : b0 = false := hf
              subst hf'
              clear hf hd
              try simp only [List.setIfInBounds_toArray, List.set_cons_zero, List.set_cons_succ]
              intro K hK
              rw [if_pos (by rfl)]
              go_simp
              exact hK.out _ _ ⟨true, b1, b2, b3, b4, b5, b6, b7, b8, b9, b10, b11, b12, b13, b14, b15, b16, b17, b18, b19, b20, b21, (.slice (some ⟨gb, 0, none⟩) 9 9), x48, x49, x50, x51, x52, x53, x54, x55, x56, x57, x58, x59, x60, x61, x62, x63, x64, x65, x66, x67, x2, (by simp only [Act.put, List.setIfInBounds_toArray, List.set_cons_zero, List.set_cons_succ]), (by simp only [Act.put, List.setIfInBounds_toArray, List.set_cons_zero, List.set_cons_succ]), hb, (fun _ => rfl), cd1, cd2, cd3, cd4, cd5, cd6, cd7, cd8, cd9, cd10, cd11, cd12, cd13, cd14, cd15, cd16, cd17, cd18, cd19, cd20, cd21⟩
            · rintro L a w ⟨b0, b1, b2, b3, b4, b5, b6, b7, b8, b9, b10, b11, b12, b13, b14, b15, b16, b17, b18, b19, b20, b21, x47, x48, x49, x50, x51, x52, x53, x54, x55, x56, x57, x58, x59, x60, x61, x62, x63, x64, x65, x66, x67, x2, rfl, rfl, hb, cd0, cd1, cd2, cd3, cd4, cd5, cd6, cd7, cd8, cd9, cd10, cd11, cd12, cd13, cd14, cd15, cd16, cd17, cd18, cd19, cd20, cd21⟩ hf hd
              have hf' : b1 = false := hf
              subst hf'
              clear hf hd
              try simp only [List.setIfInBounds_toArray, List.set_cons_zero, List.set_cons_succ]
              intro K hK
              rw [if_pos (by rfl)]
              go_simp
              exact hK.out _ _ ⟨b0, true, b2, b3, b4, b5, b6, b7, b8, b9, b10, b11, b12, b13, b14, b15, b16, b17, b18, b19, b20, b21, x47, (.int .i64 (i : Nat)), x49, x50, x51, x52, x53, x54, x55, x56, x57, x58, x59, x60, x61, x62, x63, x64, x65, x66, x67, x2, (by simp only [Act.put, List.setIfInBounds_toArray, List.set_cons_zero, List.set_cons_succ]), (by simp only [Act.put, List.setIfInBounds_toArray, List.set_cons_zero, List.set_cons_succ]), hb, cd0, (fun _ => rfl), cd2, cd3, cd4, cd5, cd6, cd7, cd8, cd9, cd10, cd11, cd12, cd13, cd14, cd15, cd16, cd17, cd18, cd19, cd20, cd21⟩
            · rintro L a w ⟨b0, b1, b2, b3, b4, b5, b6, b7, b8, b9, b10, b11, b12, b13, b14, b15, b16, b17, b18, b19, b20, b21, x47, x48, x49, x50, x51, x52, x53, x54, x55, x56, x57, x58, x59, x60, x61, x62, x63, x64, x65, x66, x67, x2, rfl, rfl, hb, cd0, cd1, cd2, cd3, cd4, cd5, cd6, cd7, cd8, cd9, cd10, cd11, cd12, cd13, cd14, cd15, cd16, cd17, cd18, cd19, cd20, cd21⟩ hf hd
              have hf' : b2 = false := hf
              subst hf'
              have d0 : b0 = true := hd ⟨0, .data⟩ (by simp) rfl
              subst d0
              have d1 : b1 = true := hd ⟨1, .data⟩ (by simp) rfl
              subst d1
              obtain rfl := cd0.out rfl
              obtain rfl := cd1.out rfl
              clear hf hd
              try simp only [List.setIfInBounds_toArray, List.set_cons_zero, List.set_cons_succ]
              intro K hK
              rw [if_pos (by rfl)]
              go_simp
              exact hK.out _ _ ⟨true, true, true, b3, b4, b5, b6, b7, b8, b9, b10, b11, b12, b13, b14, b15, b16, b17, b18, b19, b20, b21, .slice (some ⟨gb, 0, none⟩) 9 9, .int .i64 (i : Nat), (.pointer (some ⟨gb, i, none⟩)), x50, x51, x52, x53, x54, x55, x56, x57, x58, x59, x60, x61, x62, x63, x64, x65, x66, x67, x2, (by simp only [Act.put, List.setIfInBounds_toArray, List.set_cons_zero, List.set_cons_succ]), (by simp only [Act.put, List.setIfInBounds_toArray, List.set_cons_zero, List.set_cons_succ]), hb, (fun _ => rfl), (fun _ => rfl), (fun _ => rfl), cd3, cd4, cd5, cd6, cd7, cd8, cd9, cd10, cd11, cd12, cd13, cd14, cd15, cd16, cd17, cd18, cd19, cd20, cd21⟩
            · rintro L a w ⟨b0, b1, b2, b3, b4, b5, b6, b7, b8, b9, b10, b11, b12, b13, b14, b15, b16, b17, b18, b19, b20, b21, x47, x48, x49, x50, x51, x52, x53, x54, x55, x56, x57, x58, x59, x60, x61, x62, x63, x64, x65, x66, x67, x2, rfl, rfl, hb, cd0, cd1, cd2, cd3, cd4, cd5, cd6, cd7, cd8, cd9, cd10, cd11, cd12, cd13, cd14, cd15, cd16, cd17, cd18, cd19, cd20, cd21⟩ hf hd
              have hf' : b3 = false := hf
              subst hf'
              have d2 : b2 = true := hd ⟨2, .data⟩ (by simp) rfl
              subst d2
              obtain rfl := cd2.out rfl
              clear hf hd
              try simp only [List.setIfInBounds_toArray, List.set_cons_zero, List.set_cons_succ]
              have z1 := (cell_past (cell_past ca (Below.refl _ wr).drew) hb)
              have z2 := (cell_past (cell_past cb (Below.refl _ wr).drew) hb)
              intro K hK
              rw [if_pos (by rfl)]
              go_simp
              exact hK.out _ _ ⟨b0, b1, true, true, b4, b5, b6, b7, b8, b9, b10, b11, b12, b13, b14, b15, b16, b17, b18, b19, b20, b21, x47, x48, .pointer (some ⟨gb, i, none⟩), (.int .u8 ((d : Int) + 1)), x51, x52, x53, x54, x55, x56, x57, x58, x59, x60, x61, x62, x63, x64, x65, x66, x67, x2, (by simp only [Act.put, List.setIfInBounds_toArray, List.set_cons_zero, List.set_cons_succ]), (by simp only [Act.put, List.setIfInBounds_toArray, List.set_cons_zero, List.set_cons_succ]), hb, cd0, cd1, (fun _ => rfl), (fun _ => rfl), cd4, cd5, cd6, cd7, cd8, cd9, cd10, cd11, cd12, cd13, cd14, cd15, cd16, cd17, cd18, cd19, cd20, cd21⟩
            · rintro L a w ⟨b0, b1, b2, b3, b4, b5, b6, b7, b8, b9, b10, b11, b12, b13, b14, b15, b16, b17, b18, b19, b20, b21, x47, x48, x49, x50, x51, x52, x53, x54, x55, x56, x57, x58, x59, x60, x61, x62, x63, x64, x65, x66, x67, x2, rfl, rfl, hb, cd0, cd1, cd2, cd3, cd4, cd5, cd6, cd7, cd8, cd9, cd10, cd11, cd12, cd13, cd14, cd15, cd16, cd17, cd18, cd19, cd20, cd21⟩ hf hd
              have hf' : b4 = false := hf
              subst hf'
              clear hf hd
              try simp only [List.setIfInBounds_toArray, List.set_cons_zero, List.set_cons_succ]
              intro K hK
              rw [if_pos (by rfl)]
              go_simp
              exact hK.out _ _ ⟨b0, b1, b2, b3, true, b5, b6, b7, b8, b9, b10, b11, b12, b13, b14, b15, b16, b17, b18, b19, b20, b21, x47, x48, x49, x50, (.slice (some ⟨ga, 0, none⟩) 9 9), x52, x53, x54, x55, x56, x57, x58, x59, x60, x61, x62, x63, x64, x65, x66, x67, x2, (by simp only [Act.put, List.setIfInBounds_toArray, List.set_cons_zero, List.set_cons_succ]), (by simp only [Act.put, List.setIfInBounds_toArray, List.set_cons_zero, List.set_cons_succ]), hb, cd0, cd1, cd2, cd3, (fun _ => rfl), cd5, cd6, cd7, cd8, cd9, cd10, cd11, cd12, cd13, cd14, cd15, cd16, cd17, cd18, cd19, cd20, cd21⟩
            · rintro L a w ⟨b0, b1, b2, b3, b4, b5, b6, b7, b8, b9, b10, b11, b12, b13, b14, b15, b16, b17, b18, b19, b20, b21, x47, x48, x49, x50, x51, x52, x53, x54, x55, x56, x57, x58, x59, x60, x61, x62, x63, x64, x65, x66, x67, x2, rfl, rfl, hb, cd0, cd1, cd2, cd3, cd4, cd5, cd6, cd7, cd8, cd9, cd10, cd11, cd12, cd13, cd14, cd15, cd16, cd17, cd18, cd19, cd20, cd21⟩ hf hd
              have hf' : b5 = false := hf
              subst hf'
              clear hf hd
              try simp only [List.setIfInBounds_toArray, List.set_cons_zero, List.set_cons_succ]
              intro K hK
              rw [if_pos (by rfl)]
              go_simp
              exact hK.out _ _ ⟨b0, b1, b2, b3, b4, true, b6, b7, b8, b9, b10, b11, b12, b13, b14, b15, b16, b17, b18, b19, b20, b21, x47, x48, x49, x50, x51, (.int .i64 (i : Nat)), x53, x54, x55, x56, x57, x58, x59, x60, x61, x62, x63, x64, x65, x66, x67, x2, (by simp only [Act.put, List.setIfInBounds_toArray, List.set_cons_zero, List.set_cons_succ]), (by simp only [Act.put, List.setIfInBounds_toArray, List.set_cons_zero, List.set_cons_succ]), hb, cd0, cd1, cd2, cd3, cd4, (fun _ => rfl), cd6, cd7, cd8, cd9, cd10, cd11, cd12, cd13, cd14, cd15, cd16, cd17, cd18, cd19, cd20, cd21⟩
            · rintro L a w ⟨b0, b1, b2, b3, b4, b5, b6, b7, b8, b9, b10, b11, b12, b13, b14, b15, b16, b17, b18, b19, b20, b21, x47, x48, x49, x50, x51, x52, x53, x54, x55, x56, x57, x58, x59, x60, x61, x62, x63, x64, x65, x66, x67, x2, rfl, rfl, hb, cd0, cd1, cd2, cd3, cd4, cd5, cd6, cd7, cd8, cd9, cd10, cd11, cd12, cd13, cd14, cd15, cd16, cd17, cd18, cd19, cd20, cd21⟩ hf hd
              have hf' : b6 = false := hf
              subst hf'
              have d4 : b4 = true := hd ⟨4, .data⟩ (by simp) rfl
              subst d4
              have d5 : b5 = true := hd ⟨5, .data⟩ (by simp) rfl
              subst d5
              obtain rfl := cd4.out rfl
              obtain rfl := cd5.out rfl
              clear hf hd
              try simp only [List.setIfInBounds_toArray, List.set_cons_zero, List.set_cons_succ]
              intro K hK
              rw [if_pos (by rfl)]
              go_simp
              exact hK.out _ _ ⟨b0, b1, b2, b3, true, true, true, b7, b8, b9, b10, b11, b12, b13, b14, b15, b16, b17, b18, b19, b20, b21, x47, x48, x49, x50, .slice (some ⟨ga, 0, none⟩) 9 9, .int .i64 (i : Nat), (.pointer (some ⟨ga, i, none⟩)), x54, x55, x56, x57, x58, x59, x60, x61, x62, x63, x64, x65, x66, x67, x2, (by simp only [Act.put, List.setIfInBounds_toArray, List.set_cons_zero, List.set_cons_succ]), (by simp only [Act.put, List.setIfInBounds_toArray, List.set_cons_zero, List.set_cons_succ]), hb, cd0, cd1, cd2, cd3, (fun _ => rfl), (fun _ => rfl), (fun _ => rfl), cd7, cd8, cd9, cd10, cd11, cd12, cd13, cd14, cd15, cd16, cd17, cd18, cd19, cd20, cd21⟩
            · rintro L a w ⟨b0, b1, b2, b3, b4, b5, b6, b7, b8, b9, b10, b11, b12, b13, b14, b15, b16, b17, b18, b19, b20, b21, x47, x48, x49, x50, x51, x52, x53, x54, x55, x56, x57, x58, x59, x60, x61, x62, x63, x64, x65, x66, x67, x2, rfl, rfl, hb, cd0, cd1, cd2, cd3, cd4, cd5, cd6, cd7, cd8, cd9, cd10, cd11, cd12, cd13, cd14, cd15, cd16, cd17, cd18, cd19, cd20, cd21⟩ hf hd
              have hf' : b7 = false := hf
              subst hf'
              have d6 : b6 = true := hd ⟨6, .data⟩ (by simp) rfl
              subst d6
              obtain rfl := cd6.out rfl
              clear hf hd
              try simp only [List.setIfInBounds_toArray, List.set_cons_zero, List.set_cons_succ]
              have z1 := (cell_past (cell_past ca (Below.refl _ wr).drew) hb)
              have z2 := (cell_past (cell_past cb (Below.refl _ wr).drew) hb)
              intro K hK
              rw [if_pos (by rfl)]
              go_simp
              exact hK.out _ _ ⟨b0, b1, b2, b3, b4, b5, true, true, b8, b9, b10, b11, b12, b13, b14, b15, b16, b17, b18, b19, b20, b21, x47, x48, x49, x50, x51, x52, .pointer (some ⟨ga, i, none⟩), (.int .u8 (d : Nat)), x55, x56, x57, x58, x59, x60, x61, x62, x63, x64, x65, x66, x67, x2, (by simp only [Act.put, List.setIfInBounds_toArray, List.set_cons_zero, List.set_cons_succ]), (by simp only [Act.put, List.setIfInBounds_toArray, List.set_cons_zero, List.set_cons_succ]), hb, cd0, cd1, cd2, cd3, cd4, cd5, (fun _ => rfl), (fun _ => rfl), cd8, cd9, cd10, cd11, cd12, cd13, cd14, cd15, cd16, cd17, cd18, cd19, cd20, cd21⟩
            · rintro L a w ⟨b0, b1, b2, b3, b4, b5, b6, b7, b8, b9, b10, b11, b12, b13, b14, b15, b16, b17, b18, b19, b20, b21, x47, x48, x49, x50, x51, x52, x53, x54, x55, x56, x57, x58, x59, x60, x61, x62, x63, x64, x65, x66, x67, x2, rfl, rfl, hb, cd0, cd1, cd2, cd3, cd4, cd5, cd6, cd7, cd8, cd9, cd10, cd11, cd12, cd13, cd14, cd15, cd16, cd17, cd18, cd19, cd20, cd21⟩ hf hd
              have hf' : b8 = false := hf
              subst hf'
              have d7 : b7 = true := hd ⟨7, .data⟩ (by simp) rfl
              subst d7
              obtain rfl := cd7.out rfl
              clear hf hd
              try simp only [List.setIfInBounds_toArray, List.set_cons_zero, List.set_cons_succ]
              intro K hK
              rw [if_pos (by rfl)]
              go_simp
              exact hK.out _ _ ⟨b0, b1, b2, b3, b4, b5, b6, true, true, b9, b10, b11, b12, b13, b14, b15, b16, b17, b18, b19, b20, b21, x47, x48, x49, x50, x51, x52, x53, .int .u8 (d : Nat), (.int .u8 ((d : Int) + 1)), x56, x57, x58, x59, x60, x61, x62, x63, x64, x65, x66, x67, x2, (by simp only [Act.put, List.setIfInBounds_toArray, List.set_cons_zero, List.set_cons_succ]), (by simp only [Act.put, List.setIfInBounds_toArray, List.set_cons_zero, List.set_cons_succ]), hb, cd0, cd1, cd2, cd3, cd4, cd5, cd6, (fun _ => rfl), (fun _ => rfl), cd9, cd10, cd11, cd12, cd13, cd14, cd15, cd16, cd17, cd18, cd19, cd20, cd21⟩
            · rintro L a w ⟨b0, b1, b2, b3, b4, b5, b6, b7, b8, b9, b10, b11, b12, b13, b14, b15, b16, b17, b18, b19, b20, b21, x47, x48, x49, x50, x51, x52, x53, x54, x55, x56, x57, x58, x59, x60, x61, x62, x63, x64, x65, x66, x67, x2, rfl, rfl, hb, cd0, cd1, cd2, cd3, cd4, cd5, cd6, cd7, cd8, cd9, cd10, cd11, cd12, cd13, cd14, cd15, cd16, cd17, cd18, cd19, cd20, cd21⟩ hf hd
              have hf' : b9 = false := hf
              subst hf'
              have d3 : b3 = true := hd ⟨3, .data⟩ (by simp) rfl
              subst d3
              have d8 : b8 = true := hd ⟨8, .data⟩ (by simp) rfl
              subst d8
              obtain rfl := cd3.out rfl
              obtain rfl := cd8.out rfl
              clear hf hd
              try simp only [List.setIfInBounds_toArray, List.set_cons_zero, List.set_cons_succ]
              intro K hK
              rw [if_pos (by rfl)]
              go_simp
              exact hK.out _ _ ⟨b0, b1, b2, true, b4, b5, b6, b7, true, true, b10, b11, b12, b13, b14, b15, b16, b17, b18, b19, b20, b21, x47, x48, x49, .int .u8 ((d : Int) + 1), x51, x52, x53, x54, .int .u8 ((d : Int) + 1), (.bool true), x57, x58, x59, x60, x61, x62, x63, x64, x65, x66, x67, x2, (by simp only [Act.put, List.setIfInBounds_toArray, List.set_cons_zero, List.set_cons_succ]), (by simp only [Act.put, List.setIfInBounds_toArray, List.set_cons_zero, List.set_cons_succ]), hb, cd0, cd1, cd2, (fun _ => rfl), cd4, cd5, cd6, cd7, (fun _ => rfl), (fun _ => rfl), cd10, cd11, cd12, cd13, cd14, cd15, cd16, cd17, cd18, cd19, cd20, cd21⟩
            · rintro L a w ⟨b0, b1, b2, b3, b4, b5, b6, b7, b8, b9, b10, b11, b12, b13, b14, b15, b16, b17, b18, b19, b20, b21, x47, x48, x49, x50, x51, x52, x53, x54, x55, x56, x57, x58, x59, x60, x61, x62, x63, x64, x65, x66, x67, x2, rfl, rfl, hb, cd0, cd1, cd2, cd3, cd4, cd5, cd6, cd7, cd8, cd9, cd10, cd11, cd12, cd13, cd14, cd15, cd16, cd17, cd18, cd19, cd20, cd21⟩ hf hd
              have hf' : b10 = false := hf
              subst hf'
              have d9 : b9 = true := hd ⟨9, .data⟩ (by simp) rfl
              subst d9
              obtain rfl := cd9.out rfl
              clear hf hd
              try simp only [List.setIfInBounds_toArray, List.set_cons_zero, List.set_cons_succ]
              intro K hK
              rw [if_pos (by rfl)]
              go_simp
              exact hK.out _ _ ⟨b0, b1, b2, b3, b4, b5, b6, b7, b8, true, true, b11, b12, b13, b14, b15, b16, b17, b18, b19, b20, b21, x47, x48, x49, x50, x51, x52, x53, x54, x55, .bool true, (.bool true), x58, x59, x60, x61, x62, x63, x64, x65, x66, x67, x2, (by simp only [Act.put, List.setIfInBounds_toArray, List.set_cons_zero, List.set_cons_succ]), (by simp only [Act.put, List.setIfInBounds_toArray, List.set_cons_zero, List.set_cons_succ]), hb, cd0, cd1, cd2, cd3, cd4, cd5, cd6, cd7, cd8, (fun _ => rfl), (fun _ => rfl), cd11, cd12, cd13, cd14, cd15, cd16, cd17, cd18, cd19, cd20, cd21⟩
            · rintro L a w ⟨b0, b1, b2, b3, b4, b5, b6, b7, b8, b9, b10, b11, b12, b13, b14, b15, b16, b17, b18, b19, b20, b21, x47, x48, x49, x50, x51, x52, x53, x54, x55, x56, x57, x58, x59, x60, x61, x62, x63, x64, x65, x66, x67, x2, rfl, rfl, hb, cd0, cd1, cd2, cd3, cd4, cd5, cd6, cd7, cd8, cd9, cd10, cd11, cd12, cd13, cd14, cd15, cd16, cd17, cd18, cd19, cd20, cd21⟩ hf hd
              have hf' : b11 = false := hf
              subst hf'
              have d10 : b10 = true := hd ⟨10, .guard⟩ (by simp) rfl
              subst d10
              obtain rfl := cd10.out rfl
              clear hf hd
              try simp only [List.setIfInBounds_toArray, List.set_cons_zero, List.set_cons_succ]
              intro K hK
              rw [if_pos (by rfl)]
              go_simp
              exact hK.out _ _ ⟨b0, b1, b2, b3, b4, b5, b6, b7, b8, b9, true, true, b12, b13, b14, b15, b16, b17, b18, b19, b20, b21, x47, x48, x49, x50, x51, x52, x53, x54, x55, x56, .bool true, (.slice (some ⟨ga, 0, none⟩) 9 9), x59, x60, x61, x62, x63, x64, x65, x66, x67, x2, (by simp only [Act.put, List.setIfInBounds_toArray, List.set_cons_zero, List.set_cons_succ]), (by simp only [Act.put, List.setIfInBounds_toArray, List.set_cons_zero, List.set_cons_succ]), hb, cd0, cd1, cd2, cd3, cd4, cd5, cd6, cd7, cd8, cd9, (fun _ => rfl), (fun _ => rfl), cd12, cd13, cd14, cd15, cd16, cd17, cd18, cd19, cd20, cd21⟩
            · rintro L a w ⟨b0, b1, b2, b3, b4, b5, b6, b7, b8, b9, b10, b11, b12, b13, b14, b15, b16, b17, b18, b19, b20, b21, x47, x48, x49, x50, x51, x52, x53, x54, x55, x56, x57, x58, x59, x60, x61, x62, x63, x64, x65, x66, x67, x2, rfl, rfl, hb, cd0, cd1, cd2, cd3, cd4, cd5, cd6, cd7, cd8, cd9, cd10, cd11, cd12, cd13, cd14, cd15, cd16, cd17, cd18, cd19, cd20, cd21⟩ hf hd
              have hf' : b12 = false := hf
              subst hf'
              have d10 : b10 = true := hd ⟨10, .guard⟩ (by simp) rfl
              subst d10
              obtain rfl := cd10.out rfl
              clear hf hd
              try simp only [List.setIfInBounds_toArray, List.set_cons_zero, List.set_cons_succ]
              intro K hK
              rw [if_pos (by rfl)]
              go_simp
              exact hK.out _ _ ⟨b0, b1, b2, b3, b4, b5, b6, b7, b8, b9, true, b11, true, b13, b14, b15, b16, b17, b18, b19, b20, b21, x47, x48, x49, x50, x51, x52, x53, x54, x55, x56, .bool true, x58, (.int .i64 (i : Nat)), x60, x61, x62, x63, x64, x65, x66, x67, x2, (by simp only [Act.put, List.setIfInBounds_toArray, List.set_cons_zero, List.set_cons_succ]), (by simp only [Act.put, List.setIfInBounds_toArray, List.set_cons_zero, List.set_cons_succ]), hb, cd0, cd1, cd2, cd3, cd4, cd5, cd6, cd7, cd8, cd9, (fun _ => rfl), cd11, (fun _ => rfl), cd13, cd14, cd15, cd16, cd17, cd18, cd19, cd20, cd21⟩
            · rintro L a w ⟨b0, b1, b2, b3, b4, b5, b6, b7, b8, b9, b10, b11, b12, b13, b14, b15, b16, b17, b18, b19, b20, b21, x47, x48, x49, x50, x51, x52, x53, x54, x55, x56, x57, x58, x59, x60, x61, x62, x63, x64, x65, x66, x67, x2, rfl, rfl, hb, cd0, cd1, cd2, cd3, cd4, cd5, cd6, cd7, cd8, cd9, cd10, cd11, cd12, cd13, cd14, cd15, cd16, cd17, cd18, cd19, cd20, cd21⟩ hf hd
              have hf' : b13 = false := hf
              subst hf'
              have d11 : b11 = true := hd ⟨11, .data⟩ (by simp) rfl
              subst d11
              have d12 : b12 = true := hd ⟨12, .data⟩ (by simp) rfl
              subst d12
              have d10 : b10 = true := hd ⟨10, .guard⟩ (by simp) rfl
              subst d10
              obtain rfl := cd11.out rfl
              obtain rfl := cd12.out rfl
              obtain rfl := cd10.out rfl
              clear hf hd
              try simp only [List.setIfInBounds_toArray, List.set_cons_zero, List.set_cons_succ]
              intro K hK
              rw [if_pos (by rfl)]
              go_simp
              exact hK.out _ _ ⟨b0, b1, b2, b3, b4, b5, b6, b7, b8, b9, true, true, true, true, b14, b15, b16, b17, b18, b19, b20, b21, x47, x48, x49, x50, x51, x52, x53, x54, x55, x56, .bool true, .slice (some ⟨ga, 0, none⟩) 9 9, .int .i64 (i : Nat), (.slice (some ⟨ga, 0, none⟩) i 9), x61, x62, x63, x64, x65, x66, x67, x2, (by simp only [Act.put, List.setIfInBounds_toArray, List.set_cons_zero, List.set_cons_succ]), (by simp only [Act.put, List.setIfInBounds_toArray, List.set_cons_zero, List.set_cons_succ]), hb, cd0, cd1, cd2, cd3, cd4, cd5, cd6, cd7, cd8, cd9, (fun _ => rfl), (fun _ => rfl), (fun _ => rfl), (fun _ => rfl), cd14, cd15, cd16, cd17, cd18, cd19, cd20, cd21⟩
            · rintro L a w ⟨b0, b1, b2, b3, b4, b5, b6, b7, b8, b9, b10, b11, b12, b13, b14, b15, b16, b17, b18, b19, b20, b21, x47, x48, x49, x50, x51, x52, x53, x54, x55, x56, x57, x58, x59, x60, x61, x62, x63, x64, x65, x66, x67, x2, rfl, rfl, hb, cd0, cd1, cd2, cd3, cd4, cd5, cd6, cd7, cd8, cd9, cd10, cd11, cd12, cd13, cd14, cd15, cd16, cd17, cd18, cd19, cd20, cd21⟩ hf hd
              have hf' : b14 = false := hf
              subst hf'
              have d13 : b13 = true := hd ⟨13, .data⟩ (by simp) rfl
              subst d13
              have d10 : b10 = true := hd ⟨10, .guard⟩ (by simp) rfl
              subst d10
              obtain rfl := cd13.out rfl
              obtain rfl := cd10.out rfl
              clear hf hd
              try simp only [List.setIfInBounds_toArray, List.set_cons_zero, List.set_cons_succ]
              have cv := (ja.past hb).conv byteTy Try.underlying9
              intro K hK
              rw [if_pos (by rfl)]
              go_simp
              exact hK.out _ _ ⟨b0, b1, b2, b3, b4, b5, b6, b7, b8, b9, true, b11, b12, true, true, b15, b16, b17, b18, b19, b20, b21, x47, x48, x49, x50, x51, x52, x53, x54, x55, x56, .bool true, x58, x59, .slice (some ⟨ga, 0, none⟩) i 9, (.string ⟨T.toArray⟩), x62, x63, x64, x65, x66, x67, x2, (by simp only [Act.put, List.setIfInBounds_toArray, List.set_cons_zero, List.set_cons_succ]), (by simp only [Act.put, List.setIfInBounds_toArray, List.set_cons_zero, List.set_cons_succ]), hb, cd0, cd1, cd2, cd3, cd4, cd5, cd6, cd7, cd8, cd9, (fun _ => rfl), cd11, cd12, (fun _ => rfl), (fun _ => rfl), cd15, cd16, cd17, cd18, cd19, cd20, cd21⟩
            · rintro L a w ⟨b0, b1, b2, b3, b4, b5, b6, b7, b8, b9, b10, b11, b12, b13, b14, b15, b16, b17, b18, b19, b20, b21, x47, x48, x49, x50, x51, x52, x53, x54, x55, x56, x57, x58, x59, x60, x61, x62, x63, x64, x65, x66, x67, x2, rfl, rfl, hb, cd0, cd1, cd2, cd3, cd4, cd5, cd6, cd7, cd8, cd9, cd10, cd11, cd12, cd13, cd14, cd15, cd16, cd17, cd18, cd19, cd20, cd21⟩ hf hd
              have hf' : b15 = false := hf
              subst hf'
              have d10 : b10 = true := hd ⟨10, .guard⟩ (by simp) rfl
              subst d10
              obtain rfl := cd10.out rfl
              clear hf hd
              try simp only [List.setIfInBounds_toArray, List.set_cons_zero, List.set_cons_succ]
              intro K hK
              rw [if_pos (by rfl)]
              go_simp
              exact hK.out _ _ ⟨b0, b1, b2, b3, b4, b5, b6, b7, b8, b9, true, b11, b12, b13, b14, true, b16, b17, b18, b19, b20, b21, x47, x48, x49, x50, x51, x52, x53, x54, x55, x56, .bool true, x58, x59, x60, x61, (.slice (some ⟨gb, 0, none⟩) 9 9), x63, x64, x65, x66, x67, x2, (by simp only [Act.put, List.setIfInBounds_toArray, List.set_cons_zero, List.set_cons_succ]), (by simp only [Act.put, List.setIfInBounds_toArray, List.set_cons_zero, List.set_cons_succ]), hb, cd0, cd1, cd2, cd3, cd4, cd5, cd6, cd7, cd8, cd9, (fun _ => rfl), cd11, cd12, cd13, cd14, (fun _ => rfl), cd16, cd17, cd18, cd19, cd20, cd21⟩
            · rintro L a w ⟨b0, b1, b2, b3, b4, b5, b6, b7, b8, b9, b10, b11, b12, b13, b14, b15, b16, b17, b18, b19, b20, b21, x47, x48, x49, x50, x51, x52, x53, x54, x55, x56, x57, x58, x59, x60, x61, x62, x63, x64, x65, x66, x67, x2, rfl, rfl, hb, cd0, cd1, cd2, cd3, cd4, cd5, cd6, cd7, cd8, cd9, cd10, cd11, cd12, cd13, cd14, cd15, cd16, cd17, cd18, cd19, cd20, cd21⟩ hf hd
              have hf' : b16 = false := hf
              subst hf'
              have d10 : b10 = true := hd ⟨10, .guard⟩ (by simp) rfl
              subst d10
              obtain rfl := cd10.out rfl
              clear hf hd
              try simp only [List.setIfInBounds_toArray, List.set_cons_zero, List.set_cons_succ]
              intro K hK
              rw [if_pos (by rfl)]
              go_simp
              exact hK.out _ _ ⟨b0, b1, b2, b3, b4, b5, b6, b7, b8, b9, true, b11, b12, b13, b14, b15, true, b17, b18, b19, b20, b21, x47, x48, x49, x50, x51, x52, x53, x54, x55, x56, .bool true, x58, x59, x60, x61, x62, (.int .i64 (i : Nat)), x64, x65, x66, x67, x2, (by simp only [Act.put, List.setIfInBounds_toArray, List.set_cons_zero, List.set_cons_succ]), (by simp only [Act.put, List.setIfInBounds_toArray, List.set_cons_zero, List.set_cons_succ]), hb, cd0, cd1, cd2, cd3, cd4, cd5, cd6, cd7, cd8, cd9, (fun _ => rfl), cd11, cd12, cd13, cd14, cd15, (fun _ => rfl), cd17, cd18, cd19, cd20, cd21⟩
            · rintro L a w ⟨b0, b1, b2, b3, b4, b5, b6, b7, b8, b9, b10, b11, b12, b13, b14, b15, b16, b17, b18, b19, b20, b21, x47, x48, x49, x50, x51, x52, x53, x54, x55, x56, x57, x58, x59, x60, x61, x62, x63, x64, x65, x66, x67, x2, rfl, rfl, hb, cd0, cd1, cd2, cd3, cd4, cd5, cd6, cd7, cd8, cd9, cd10, cd11, cd12, cd13, cd14, cd15, cd16, cd17, cd18, cd19, cd20, cd21⟩ hf hd
              have hf' : b17 = false := hf
              subst hf'
              have d15 : b15 = true := hd ⟨15, .data⟩ (by simp) rfl
              subst d15
              have d16 : b16 = true := hd ⟨16, .data⟩ (by simp) rfl
              subst d16
              have d10 : b10 = true := hd ⟨10, .guard⟩ (by simp) rfl
              subst d10
              obtain rfl := cd15.out rfl
              obtain rfl := cd16.out rfl
              obtain rfl := cd10.out rfl
              clear hf hd
              try simp only [List.setIfInBounds_toArray, List.set_cons_zero, List.set_cons_succ]
              intro K hK
              rw [if_pos (by rfl)]
              go_simp
              exact hK.out _ _ ⟨b0, b1, b2, b3, b4, b5, b6, b7, b8, b9, true, b11, b12, b13, b14, true, true, true, b18, b19, b20, b21, x47, x48, x49, x50, x51, x52, x53, x54, x55, x56, .bool true, x58, x59, x60, x61, .slice (some ⟨gb, 0, none⟩) 9 9, .int .i64 (i : Nat), (.slice (some ⟨gb, 0, none⟩) i 9), x65, x66, x67, x2, (by simp only [Act.put, List.setIfInBounds_toArray, List.set_cons_zero, List.set_cons_succ]), (by simp only [Act.put, List.setIfInBounds_toArray, List.set_cons_zero, List.set_cons_succ]), hb, cd0, cd1, cd2, cd3, cd4, cd5, cd6, cd7, cd8, cd9, (fun _ => rfl), cd11, cd12, cd13, cd14, (fun _ => rfl), (fun _ => rfl), (fun _ => rfl), cd18, cd19, cd20, cd21⟩
            · rintro L a w ⟨b0, b1, b2, b3, b4, b5, b6, b7, b8, b9, b10, b11, b12, b13, b14, b15, b16, b17, b18, b19, b20, b21, x47, x48, x49, x50, x51, x52, x53, x54, x55, x56, x57, x58, x59, x60, x61, x62, x63, x64, x65, x66, x67, x2, rfl, rfl, hb, cd0, cd1, cd2, cd3, cd4, cd5, cd6, cd7, cd8, cd9, cd10, cd11, cd12, cd13, cd14, cd15, cd16, cd17, cd18, cd19, cd20, cd21⟩ hf hd
              have hf' : b18 = false := hf
              subst hf'
              have d17 : b17 = true := hd ⟨17, .data⟩ (by simp) rfl
              subst d17
              have d10 : b10 = true := hd ⟨10, .guard⟩ (by simp) rfl
              subst d10
              obtain rfl := cd17.out rfl
              obtain rfl := cd10.out rfl
              clear hf hd
              try simp only [List.setIfInBounds_toArray, List.set_cons_zero, List.set_cons_succ]
              have cv := (jb.past hb).conv byteTy Try.underlying9
              intro K hK
              rw [if_pos (by rfl)]
              go_simp
              exact hK.out _ _ ⟨b0, b1, b2, b3, b4, b5, b6, b7, b8, b9, true, b11, b12, b13, b14, b15, b16, true, true, b19, b20, b21, x47, x48, x49, x50, x51, x52, x53, x54, x55, x56, .bool true, x58, x59, x60, x61, x62, x63, .slice (some ⟨gb, 0, none⟩) i 9, (.string ⟨T.toArray⟩), x66, x67, x2, (by simp only [Act.put, List.setIfInBounds_toArray, List.set_cons_zero, List.set_cons_succ]), (by simp only [Act.put, List.setIfInBounds_toArray, List.set_cons_zero, List.set_cons_succ]), hb, cd0, cd1, cd2, cd3, cd4, cd5, cd6, cd7, cd8, cd9, (fun _ => rfl), cd11, cd12, cd13, cd14, cd15, cd16, (fun _ => rfl), (fun _ => rfl), cd19, cd20, cd21⟩
            · rintro L a w ⟨b0, b1, b2, b3, b4, b5, b6, b7, b8, b9, b10, b11, b12, b13, b14, b15, b16, b17, b18, b19, b20, b21, x47, x48, x49, x50, x51, x52, x53, x54, x55, x56, x57, x58, x59, x60, x61, x62, x63, x64, x65, x66, x67, x2, rfl, rfl, hb, cd0, cd1, cd2, cd3, cd4, cd5, cd6, cd7, cd8, cd9, cd10, cd11, cd12, cd13, cd14, cd15, cd16, cd17, cd18, cd19, cd20, cd21⟩ hf hd
              have hf' : b19 = false := hf
              subst hf'
              have d14 : b14 = true := hd ⟨14, .data⟩ (by simp) rfl
              subst d14
              have d18 : b18 = true := hd ⟨18, .data⟩ (by simp) rfl
              subst d18
              have d10 : b10 = true := hd ⟨10, .guard⟩ (by simp) rfl
              subst d10
              obtain rfl := cd14.out rfl
              obtain rfl := cd18.out rfl
              obtain rfl := cd10.out rfl
              clear hf hd
              try simp only [List.setIfInBounds_toArray, List.set_cons_zero, List.set_cons_succ]
              intro K hK
              rw [if_pos (by rfl)]
              go_simp
              exact hK.out _ _ ⟨b0, b1, b2, b3, b4, b5, b6, b7, b8, b9, true, b11, b12, b13, true, b15, b16, b17, true, true, b20, b21, x47, x48, x49, x50, x51, x52, x53, x54, x55, x56, .bool true, x58, x59, x60, .string ⟨T.toArray⟩, x62, x63, x64, .string ⟨T.toArray⟩, (.bool true), x67, x2, (by simp only [Act.put, List.setIfInBounds_toArray, List.set_cons_zero, List.set_cons_succ]), (by simp only [Act.put, List.setIfInBounds_toArray, List.set_cons_zero, List.set_cons_succ]), hb, cd0, cd1, cd2, cd3, cd4, cd5, cd6, cd7, cd8, cd9, (fun _ => rfl), cd11, cd12, cd13, (fun _ => rfl), cd15, cd16, cd17, (fun _ => rfl), (fun _ => rfl), cd20, cd21⟩
            · rintro L a w ⟨b0, b1, b2, b3, b4, b5, b6, b7, b8, b9, b10, b11, b12, b13, b14, b15, b16, b17, b18, b19, b20, b21, x47, x48, x49, x50, x51, x52, x53, x54, x55, x56, x57, x58, x59, x60, x61, x62, x63, x64, x65, x66, x67, x2, rfl, rfl, hb, cd0, cd1, cd2, cd3, cd4, cd5, cd6, cd7, cd8, cd9, cd10, cd11, cd12, cd13, cd14, cd15, cd16, cd17, cd18, cd19, cd20, cd21⟩ hf hd
              have hf' : b20 = false := hf
              subst hf'
              have d10 : b10 = true := hd ⟨10, .data⟩ (by simp) rfl
              subst d10
              have d19 : b19 = true := hd ⟨19, .data⟩ (by simp) rfl
              subst d19
              obtain rfl := cd10.out rfl
              obtain rfl := cd19.out rfl
              clear hf hd
              try simp only [List.setIfInBounds_toArray, List.set_cons_zero, List.set_cons_succ]
              intro K hK
              rw [if_pos (by rfl)]
              go_simp
              exact hK.out _ _ ⟨b0, b1, b2, b3, b4, b5, b6, b7, b8, b9, true, b11, b12, b13, b14, b15, b16, b17, b18, true, true, b21, x47, x48, x49, x50, x51, x52, x53, x54, x55, x56, .bool true, x58, x59, x60, x61, x62, x63, x64, x65, .bool true, (.bool true), x2, (by simp only [Act.put, List.setIfInBounds_toArray, List.set_cons_zero, List.set_cons_succ]), (by simp only [Act.put, List.setIfInBounds_toArray, List.set_cons_zero, List.set_cons_succ]), hb, cd0, cd1, cd2, cd3, cd4, cd5, cd6, cd7, cd8, cd9, (fun _ => rfl), cd11, cd12, cd13, cd14, cd15, cd16, cd17, cd18, (fun _ => rfl), (fun _ => rfl), cd21⟩
            · rintro L a w ⟨b0, b1, b2, b3, b4, b5, b6, b7, b8, b9, b10, b11, b12, b13, b14, b15, b16, b17, b18, b19, b20, b21, x47, x48, x49, x50, x51, x52, x53, x54, x55, x56, x57, x58, x59, x60, x61, x62, x63, x64, x65, x66, x67, x2, rfl, rfl, hb, cd0, cd1, cd2, cd3, cd4, cd5, cd6, cd7, cd8, cd9, cd10, cd11, cd12, cd13, cd14, cd15, cd16, cd17, cd18, cd19, cd20, cd21⟩ hf hd
              have hf' : b21 = false := hf
              subst hf'
              have d20 : b20 = true := hd ⟨20, .data⟩ (by simp) rfl
              subst d20
              have d10 : b10 = true := hd ⟨10, .chain⟩ (by simp) rfl
              subst d10
              have d0 : b0 = true := hd ⟨0, .phase⟩ (by simp) rfl
              subst d0
              have d1 : b1 = true := hd ⟨1, .phase⟩ (by simp) rfl
              subst d1
              have d2 : b2 = true := hd ⟨2, .phase⟩ (by simp) rfl
              subst d2
              have d3 : b3 = true := hd ⟨3, .phase⟩ (by simp) rfl
              subst d3
              have d4 : b4 = true := hd ⟨4, .phase⟩ (by simp) rfl
              subst d4
              have d5 : b5 = true := hd ⟨5, .phase⟩ (by simp) rfl
              subst d5
              have d6 : b6 = true := hd ⟨6, .phase⟩ (by simp) rfl
              subst d6
              have d7 : b7 = true := hd ⟨7, .phase⟩ (by simp) rfl
              subst d7
              have d8 : b8 = true := hd ⟨8, .phase⟩ (by simp) rfl
              subst d8
              have d9 : b9 = true := hd ⟨9, .phase⟩ (by simp) rfl
              subst d9
              have d11 : b11 = true := hd ⟨11, .phase⟩ (by simp) rfl
              subst d11
              have d12 : b12 = true := hd ⟨12, .phase⟩ (by simp) rfl
              subst d12
              have d13 : b13 = true := hd ⟨13, .phase⟩ (by simp) rfl
              subst d13
              have d14 : b14 = true := hd ⟨14, .phase⟩ (by simp) rfl
              subst d14
              have d15 : b15 = true := hd ⟨15, .phase⟩ (by simp) rfl
              subst d15
              have d16 : b16 = true := hd ⟨16, .phase⟩ (by simp) rfl
              subst d16
              have d17 : b17 = true := hd ⟨17, .phase⟩ (by simp) rfl
              subst d17
              have d18 : b18 = true := hd ⟨18, .phase⟩ (by simp) rfl
              subst d18
              have d19 : b19 = true := hd ⟨19, .phase⟩ (by simp) rfl
              subst d19
              obtain rfl := cd20.out rfl
              obtain rfl := cd10.out rfl
              obtain rfl := cd0.out rfl
              obtain rfl := cd1.out rfl
              obtain rfl := cd2.out rfl
              obtain rfl := cd3.out rfl
              obtain rfl := cd4.out rfl
              obtain rfl := cd5.out rfl
              obtain rfl := cd6.out rfl
              obtain rfl := cd7.out rfl
              obtain rfl := cd8.out rfl
              obtain rfl := cd9.out rfl
              obtain rfl := cd11.out rfl
              obtain rfl := cd12.out rfl
              obtain rfl := cd13.out rfl
              obtain rfl := cd14.out rfl
              obtain rfl := cd15.out rfl
              obtain rfl := cd16.out rfl
              obtain rfl := cd17.out rfl
              obtain rfl := cd18.out rfl
              obtain rfl := cd19.out rfl
              clear hf hd
              try simp only [List.setIfInBounds_toArray, List.set_cons_zero, List.set_cons_succ]
              intro K hK
              rw [if_pos (by rfl)]
              go_simp
              exact hK.out _ _ ⟨true, true, true, true, true, true, true, true, true, true, true, true, true, true, true, true, true, true, true, true, true, true, .slice (some ⟨gb, 0, none⟩) 9 9, .int .i64 (i : Nat), .pointer (some ⟨gb, i, none⟩), .int .u8 ((d : Int) + 1), .slice (some ⟨ga, 0, none⟩) 9 9, .int .i64 (i : Nat), .pointer (some ⟨ga, i, none⟩), .int .u8 (d : Nat), .int .u8 ((d : Int) + 1), .bool true, .bool true, .slice (some ⟨ga, 0, none⟩) 9 9, .int .i64 (i : Nat), .slice (some ⟨ga, 0, none⟩) i 9, .string ⟨T.toArray⟩, .slice (some ⟨gb, 0, none⟩) 9 9, .int .i64 (i : Nat), .slice (some ⟨gb, 0, none⟩) i 9, .string ⟨T.toArray⟩, .bool true, .bool true, (.bool true), (by simp only [Act.put, List.setIfInBounds_toArray, List.set_cons_zero, List.set_cons_succ]), (by simp only [Act.put, List.setIfInBounds_toArray, List.set_cons_zero, List.set_cons_succ]), hb, (fun _ => rfl), (fun _ => rfl), (fun _ => rfl), (fun _ => rfl), (fun _ => rfl), (fun _ => rfl), (fun _ => rfl), (fun _ => rfl), (fun _ => rfl), (fun _ => rfl), (fun _ => rfl), (fun _ => rfl), (fun _ => rfl), (fun _ => rfl), (fun _ => rfl), (fun _ => rfl), (fun _ => rfl), (fun _ => rfl), (fun _ => rfl), (fun _ => rfl), (fun _ => rfl), (fun _ => rfl)⟩
          · rintro a w ⟨b0, b1, b2, b3, b4, b5, b6, b7, b8, b9, b10, b11, b12, b13, b14, b15, b16, b17, b18, b19, b20, b21, x47, x48, x49, x50, x51, x52, x53, x54, x55, x56, x57, x58, x59, x60, x61, x62, x63, x64, x65, x66, x67, x2, hL, rfl, hb, cd0, cd1, cd2, cd3, cd4, cd5, cd6, cd7, cd8, cd9, cd10, cd11, cd12, cd13, cd14, cd15, cd16, cd17, cd18, cd19, cd20, cd21⟩
            have hL' : [true, true, true, true, true, true, true, true, true, true, true, true, true, true, true, true, true, true, true, true, true, true] = [b0, b1, b2, b3, b4, b5, b6, b7, b8, b9, b10, b11, b12, b13, b14, b15, b16, b17, b18, b19, b20, b21] := congrArg Array.toList hL
            simp only [List.cons.injEq, and_true] at hL'
            obtain ⟨rfl, rfl, rfl, rfl, rfl, rfl, rfl, rfl, rfl, rfl, rfl, rfl, rfl, rfl, rfl, rfl, rfl, rfl, rfl, rfl, rfl, rfl⟩ := hL'
            obtain rfl := cd0.out rfl
            obtain rfl := cd1.out rfl
            obtain rfl := cd2.out rfl
            obtain rfl := cd3.out rfl
            obtain rfl := cd4.out rfl
            obtain rfl := cd5.out rfl
            obtain rfl := cd6.out rfl
            obtain rfl := cd7.out rfl
            obtain rfl := cd8.out rfl
            obtain rfl := cd9.out rfl
            obtain rfl := cd10.out rfl
            obtain rfl := cd11.out rfl
            obtain rfl := cd12.out rfl
            obtain rfl := cd13.out rfl
            obtain rfl := cd14.out rfl
            obtain rfl := cd15.out rfl
            obtain rfl := cd16.out rfl
            obtain rfl := cd17.out rfl
            obtain rfl := cd18.out rfl
            obtain rfl := cd19.out rfl
            obtain rfl := cd20.out rfl
            obtain rfl := cd21.out rfl
            clear hL
            simp only [List.setIfInBounds_toArray, List.set_cons_zero, List.set_cons_succ]
            have BE := B4.trans ((hB.trans ((Below.refl wr.heap.size wr).drew.mono hB.size)).mono B4.size)
            have BF := BE.trans (hb.mono BE.size)
            go_wp2_with fail
            go_ret
            exact ⟨rfl, BF⟩
end Go.Proofs.Ytpphlmbhonaglaa
