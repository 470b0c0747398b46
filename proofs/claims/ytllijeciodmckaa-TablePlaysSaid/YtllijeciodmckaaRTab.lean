/-
  The reference of chapter 4: Check.
  The reference of chapter 5: Fits.
  The reference of chapter 10: at, Get (by gen_rtab.py).
  The reference of chapter 10: Put (by gen_rtabp.py).
-/
import Derived.Test.YtllijeciodmckaaChkV
import Derived.Test.YtllijeciodmckaaFits
import Derived.BigQuiet
import Derived.Deep.QuietTactic
import Derived.Test.YtllijeciodmckaaTabD
import Derived.Test.YtllijeciodmckaaTabK
import Derived.Test.YtllijeciodmckaaRCmpT
import Derived.Test.YtllijeciodmckaaBlk
import Derived.Test.YtllijeciodmckaaTabC
namespace Go.Proofs.Ytllijeciodmckaa
open Go.RowKit
set_option linter.unusedSimpArgs false
theorem size_nil (s : ByteArray) (h : s.toList = []) : s.size = 0 := by
  rw [ByteArray.toList_eq] at h
  show s.data.size = 0
  rw [← Array.length_toList, h]
  rfl
theorem chk0 (n : Int) (s : ByteArray) : chkV 0 n s = if n = 0 ∧ s.toList.isEmpty = true then 0 else 1 := rfl
theorem chk1 (n : Int) (s : ByteArray) : chkV 1 n s = if n = 0 ∨ n = 1 then (if s.toList.isEmpty = true then 0 else 1) else 1 := rfl
theorem chk2 (n : Int) (s : ByteArray) : chkV 2 n s = if s.toList.isEmpty = true then 0 else 1 := rfl
theorem chk3 (n : Int) (s : ByteArray) : chkV 3 n s = if n = 0 then (if (60 : Int) < (s.size : Int) then 5 else 0) else 1 := rfl
set_option maxRecDepth 100000 in
set_option maxHeartbeats 4000000 in
theorem rchk4_any (k n : Int) (s : ByteArray) (w : World) :
    Calls Try.prog 136 #[vv k n s] w fun e w' => e = .returned (.int .i64 (chkV k n s)) ∧ Below w.heap.size w w' := by
  have b0 : ∀ o, Below w.heap.size w (w.alloc o) := fun o => (Below.refl _ _).alloc (Nat.le_refl _) o
  by_cases k0 : k = 0
  · subst k0
    rw [chk0]
    by_cases hn : n = 0
    · subst hn
      cases hs : s.toList.isEmpty
      · have hs2 : ¬ s.toList = [] := by simpa using hs
        go_enter Try.func136, Try.ntmps136
        go_wp2_with fail
        go_ret
        exact ⟨ret_int rfl, b0 _⟩
      · have hs2 : s.toList = [] := by simpa using hs
        have hz : ¬ 60 < (s.size : Int) := by have := size_nil s hs2; omega
        go_enter Try.func136, Try.ntmps136
        go_wp2_with fail
        go_ret
        exact ⟨ret_int rfl, b0 _⟩
    · have hn2 : (n != 0) = true := by simp [hn]
      rw [if_neg (fun h => hn h.1)]
      go_enter Try.func136, Try.ntmps136
      go_wp2_with fail
      go_ret
      exact ⟨ret_int (rfl), b0 _⟩
  by_cases k1 : k = 1
  · subst k1
    rw [chk1]
    by_cases hn : n = 0 ∨ n = 1
    · rw [if_pos hn]
      have hn1 : decide (n < 0) = false := by simp; omega
      have hn2 : decide (1 < n) = false := by simp; omega
      have hn3 : ¬ (n < 0) := by omega
      have hn4 : ¬ (1 < n) := by omega
      clear hn
      cases hs : s.toList.isEmpty
      · have hs2 : ¬ s.toList = [] := by simpa using hs
        go_enter Try.func136, Try.ntmps136
        go_wp2_with fail
        go_ret
        exact ⟨ret_int rfl, b0 _⟩
      · have hs2 : s.toList = [] := by simpa using hs
        have hz : ¬ 60 < (s.size : Int) := by have := size_nil s hs2; omega
        go_enter Try.func136, Try.ntmps136
        go_wp2_with fail
        go_ret
        exact ⟨ret_int rfl, b0 _⟩
    · rw [if_neg hn]
      by_cases hl : n < 0
      · have hn1 : decide (n < 0) = true := by simp; omega
        go_enter Try.func136, Try.ntmps136
        go_wp2_with fail
        go_ret
        exact ⟨ret_int (rfl), b0 _⟩
      · have hn1 : decide (n < 0) = false := by simp; omega
        have hn2 : decide (1 < n) = true := by simp; omega
        have hn3 : 1 < n := by omega
        go_enter Try.func136, Try.ntmps136
        go_wp2_with fail
        go_ret
        exact ⟨ret_int (rfl), b0 _⟩
  by_cases k2 : k = 2
  · subst k2
    rw [chk2]
    cases hs : s.toList.isEmpty
    · have hs2 : ¬ s.toList = [] := by simpa using hs
      go_enter Try.func136, Try.ntmps136
      go_wp2_with fail
      go_ret
      exact ⟨ret_int rfl, b0 _⟩
    · have hs2 : s.toList = [] := by simpa using hs
      have hz : ¬ 60 < (s.size : Int) := by have := size_nil s hs2; omega
      go_enter Try.func136, Try.ntmps136
      go_wp2_with fail
      go_ret
      exact ⟨ret_int rfl, b0 _⟩
  by_cases k3 : k = 3
  · subst k3
    rw [chk3]
    by_cases hn : n = 0
    · subst hn
      rw [if_pos rfl]
      by_cases hs : 60 < (s.size : Int)
      · rw [if_pos hs]
        go_enter Try.func136, Try.ntmps136
        go_wp2_with fail
        go_ret
        exact ⟨ret_int (rfl), b0 _⟩
      · rw [if_neg hs]
        go_enter Try.func136, Try.ntmps136
        go_wp2_with fail
        go_ret
        exact ⟨ret_int (rfl), b0 _⟩
    · have hn2 : (n != 0) = true := by simp [hn]
      rw [if_neg hn]
      go_enter Try.func136, Try.ntmps136
      go_wp2_with fail
      go_ret
      exact ⟨ret_int (rfl), b0 _⟩
  by_cases kn : k < 0
  · go_enter Try.func136, Try.ntmps136
    go_wp2_with fail
    go_ret
    exact ⟨ret_int (by unfold chkV; (repeat' split) <;> omega), b0 _⟩
  · have kp : 3 < k := by omega
    go_enter Try.func136, Try.ntmps136
    go_wp2_with fail
    go_ret
    exact ⟨ret_int (by unfold chkV; (repeat' split) <;> omega), b0 _⟩
end Go.Proofs.Ytllijeciodmckaa
namespace Go.Proofs.Ytllijeciodmckaa
open Go.RowKit
set_option linter.unusedSimpArgs false
set_option maxRecDepth 100000 in
set_option maxHeartbeats 1000000 in
theorem rfits_any (w : World) (l : List UInt8) (co : Option Addr) (cn cc : Nat) (cs : List Co) (key : Int) (only : Bool) (hc : IsR encCo w co cn cc cs) (ao : Option Addr) (n c : Nat) (r : List V) (h : IsR EV w ao n c r) :
    Calls Try.prog 81 #[scV l co cn cc key only, .slice ao n c] w fun e w' => e = .returned (.int .i64 (fitsE cs r)) ∧ Below w.heap.size w w' := by
  have hln := h.len
  have hcl := hc.len
  have hmx := h.max
  have hle := h.le
  unfold maxLen at hmx
  unfold scV
  have X := ScB.new w l co cn cc key only
  have B := (Below.refl w.heap.size w).alloc (Nat.le_refl _) (.cells #[.string (bsOf l), .slice co cn cc, .int .i64 key, .bool only] 40)
  by_cases hne : n = cn
  · subst hne
    have hF : Hid (fitsE cs r = fitsL cs r) := by
      show _ = _
      unfold fitsE
      rw [if_pos (by omega)]
    go_enter Try.func81, Try.ntmps81
    go_upto_region 1 with fail
    generalize w.alloc (.cells #[.string (bsOf l), .slice co n cc, .int .i64 key, .bool only] 40) = w1 at X B ⊢
    obtain ⟨p, hp⟩ : ∃ p, w.heap.size = p := ⟨_, rfl⟩
    rw [hp] at X
    simp only [hp]
    have HP := Lib.hid hp
    have hp1 : p ≤ w1.heap.size := by rw [← hp]; exact B.size
    clear hp
    have y1 : w1.cell? ⟨p, 1, none⟩ = some (.slice co n cc) := cell_blk X rfl
    go_wp2_with fail
    go_loopw [5] (fun i wr => ∃ j : Nat, j ≤ n ∧ i = .int .i64 (j : Nat) ∧ Below w1.heap.size w1 wr ∧ Hid (fitsL cs r = fitsL (cs.drop j) (r.drop j))) (fun i _ => n - (intOf i).toNat)
    case atStart => exact ⟨0, by omega, rfl, Below.refl _ _, rfl⟩
    case round =>
      obtain ⟨j, hj, rfl, hB, hf⟩ := hrel
      have y2 : wr.cell? ⟨p, 1, none⟩ = some (.slice co n cc) := cell_blk (X.past hB) rfl
      have hpw : p < wr.heap.size := (X.past hB).lt
      by_cases hlt : j < n
      · have hlti : (j : Int) < (n : Int) := by omega
        obtain ⟨v, hv⟩ : ∃ v, r[j]? = some v := ⟨r[j]'(by omega), List.getElem?_eq_getElem _⟩
        obtain ⟨x, hx⟩ : ∃ v, cs[j]? = some v := ⟨cs[j]'(by omega), List.getElem?_eq_getElem _⟩
        obtain ⟨b, off, rfl, hb, hcc⟩ := h.open (by omega) (by decide)
        obtain ⟨bb, of2, rfl, hb2, hcc2⟩ := hc.open (by omega) (by decide)
        obtain ⟨c0, c1, c2⟩ := cells_v hcc j v hv
        obtain ⟨d0, d1, d2⟩ := cells_co hcc2 j x hx
        have BB := B.trans (hB.mono B.size)
        rw [← BB.cell hb] at c0 c1 c2
        rw [← BB.cell hb2] at d0 d1 d2
        have HC := rchk4_any v.k v.n v.s
        have hstep := hf.out.trans (fitsL_drop cs r j x v hx hv)
        obtain ⟨E, hE⟩ : ∃ E, chkV v.k v.n v.s = E := ⟨_, rfl⟩
        have hstep2 : fitsL (cs.drop j) (r.drop j) = fitsL (cs.drop j) (r.drop j) := rfl
        clear hstep2
        unfold fitE at hstep
        rw [hE] at hstep HC
        have HS := Lib.hid hstep
        obtain ⟨k, m, s⟩ := v
        obtain ⟨xn, xk, xb⟩ := x
        simp only at c0 c1 c2 d0 d1 d2 HC HS
        clear hcc hcc2 hv hx hE hstep
        have hbw : b < wr.heap.size := Nat.lt_of_lt_of_le hb BB.size
        have hb2w : bb < wr.heap.size := Nat.lt_of_lt_of_le hb2 BB.size
        have hbS := hB.size
        by_cases e0 : E = 0
        · subst e0
          by_cases k0 : k = 0
          · subst k0
            cases xb
            · have HN : Hid (fitsL cs r = 13) := by
                show _ = _
                rw [HS.out, if_pos rfl, if_pos rfl]
                rfl
              clear HS
              go_upto_region 7 with (go_at_call 136; refine (HC _).mono ?_; rintro e w2 ⟨rfl, b2⟩; have q0 := (b2.cell hbw).trans c0; have q1 := (b2.cell hpw).trans y2; have q2 := (b2.cell hb2w).trans d1; have q3 := (b2.cell hb2w).trans d2)
              have hB2 := hB.trans (b2.mono hbS)
              clear c0 c1 c2 d0 d1 d2 y2
              go_wp2_with fail
              go_ret
              exact ⟨by rw [hF.out, HN.out]; rfl, B.trans (hB2.mono B.size)⟩
            · have HN : Hid (fitsL cs r = fitsL (cs.drop (j + 1)) (r.drop (j + 1))) := by
                show _ = _
                rw [HS.out, if_pos rfl, if_pos rfl]
                rfl
              clear HS
              go_upto_region 7 with (go_at_call 136; refine (HC _).mono ?_; rintro e w2 ⟨rfl, b2⟩; have q0 := (b2.cell hbw).trans c0; have q1 := (b2.cell hpw).trans y2; have q2 := (b2.cell hb2w).trans d1; have q3 := (b2.cell hb2w).trans d2)
              have hB2 := hB.trans (b2.mono hbS)
              clear c0 c1 c2 d0 d1 d2 y2
              go_wp2_with fail
              go_roundw
              case rel => exact ⟨j + 1, by omega, by go_num, hB2, by show _ = _; rw [HN.out]⟩
              case measure => simp [intOf]; omega
          · have kb : (k == 0) = false := by simp [k0]
            by_cases k1 : k = xk
            · subst k1
              have kn : (k != k) = false := by simp
              have HN : Hid (fitsL cs r = fitsL (cs.drop (j + 1)) (r.drop (j + 1))) := by
                show _ = _
                rw [HS.out, if_pos rfl, if_neg k0, if_pos rfl]
                rfl
              clear HS
              go_upto_region 7 with (go_at_call 136; refine (HC _).mono ?_; rintro e w2 ⟨rfl, b2⟩; have q0 := (b2.cell hbw).trans c0; have q1 := (b2.cell hpw).trans y2; have q2 := (b2.cell hb2w).trans d1; have q3 := (b2.cell hb2w).trans d2)
              have hB2 := hB.trans ((b2.mono hbS))
              clear c0 c1 c2 d0 d1 d2 y2
              go_upto_region 12 with fail
              go_quiet (fail)
              go_wp2_with fail
              go_roundw
              case rel => exact ⟨j + 1, by omega, by go_num, below_drewN hB2 _, by show _ = _; rw [HN.out]⟩
              case measure => simp [intOf]; omega
            · have kn : (k != xk) = true := by simp [k1]
              have kn2 : (k == xk) = false := by simp [k1]
              have HN : Hid (fitsL cs r = 3) := by
                show _ = _
                rw [HS.out, if_pos rfl, if_neg k0, if_neg k1]
                rfl
              clear HS
              go_upto_region 7 with (go_at_call 136; refine (HC _).mono ?_; rintro e w2 ⟨rfl, b2⟩; have q0 := (b2.cell hbw).trans c0; have q1 := (b2.cell hpw).trans y2; have q2 := (b2.cell hb2w).trans d1; have q3 := (b2.cell hb2w).trans d2)
              have hB2 := hB.trans (b2.mono hbS)
              clear c0 c1 c2 d0 d1 d2 y2
              go_upto_region 12 with fail
              go_quiet (fail)
              go_wp2_with fail
              go_ret
              exact ⟨by rw [hF.out, HN.out]; rfl, B.trans ((below_drewN hB2 _).mono B.size)⟩
        · have eb : (E == 0) = false := by simp [e0]
          have en : (E != 0) = true := by simp [e0]
          have HN : Hid (fitsL cs r = E) := by
            show _ = _
            rw [HS.out, if_neg e0, if_neg e0]
          clear HS
          go_upto_region 7 with (go_at_call 136; refine (HC _).mono ?_; rintro e w2 ⟨rfl, b2⟩; have q0 := (b2.cell hbw).trans c0; have q1 := (b2.cell hpw).trans y2; have q2 := (b2.cell hb2w).trans d1; have q3 := (b2.cell hb2w).trans d2)
          have hB2 := hB.trans (b2.mono hbS)
          clear c0 c1 c2 d0 d1 d2 y2
          go_wp2_with fail
          go_ret
          exact ⟨by rw [hF.out, HN.out]; rfl, B.trans (hB2.mono B.size)⟩
      · have hlti : ¬ ((j : Int) < (n : Int)) := by omega
        obtain rfl : j = n := by omega
        have HN : Hid (fitsL cs r = 0) := by
          show _ = _
          rw [hf.out, List.drop_of_length_le (by omega)]
          rfl
        go_wp2_with fail
        go_ret
        exact ⟨by rw [hF.out, HN.out]; rfl, B.trans (hB.mono B.size)⟩
  · have hF : Hid (fitsE cs r = 1) := by
      show _ = _
      unfold fitsE
      rw [if_neg (by omega)]
    have hb : ((n : Int) != (cn : Int)) = true := by simp; omega
    have hb2 : ((n : Int) == (cn : Int)) = false := by simp; omega
    go_enter Try.func81, Try.ntmps81
    go_wp2_with fail
    go_ret
    exact ⟨by rw [hF.out]; rfl, B⟩
end Go.Proofs.Ytllijeciodmckaa
namespace Go.Proofs.Ytllijeciodmckaa
open Go.RowKit
set_option linter.unusedSimpArgs false
/-- What stands while the region's operations come up. -/
inductive RAt2 (B : Nat) (p : Nat) (b : Nat) (off : Nat) (rn : Nat) (rc : Nat) (ky : Nat) (j : Nat) (zb : Nat) (zo : Nat) (xn : Nat) (xc : Nat) (k1 : Int) (m1 : Int) (s1 : ByteArray) (k : Int) (m : Int) (s : ByteArray) (C : Int) (TK : Bool) (a0 : Act) (w0 : World) (L : Array Bool) (a : Act) (w : World) : Prop
  | mk (b0 b1 b2 b3 b4 b5 b6 b7 b8 b9 b10 b11 b12 b13 b14 b15 b16 b17 b18 b19 : Bool) (x6 x7 x8 x9 x10 x11 x12 x13 x14 x15 x16 x17 x18 x19 x20 x21 x22 x23 x24 x25 : Value) (hL : L = #[b0, b1, b2, b3, b4, b5, b6, b7, b8, b9, b10, b11, b12, b13, b14, b15, b16, b17, b18, b19]) (ha : a = ⟨((((((((((((((((((((a0.tmps.setIfInBounds 6 x6).setIfInBounds 7 x7).setIfInBounds 8 x8).setIfInBounds 9 x9).setIfInBounds 10 x10).setIfInBounds 11 x11).setIfInBounds 12 x12).setIfInBounds 13 x13).setIfInBounds 14 x14).setIfInBounds 15 x15).setIfInBounds 16 x16).setIfInBounds 17 x17).setIfInBounds 18 x18).setIfInBounds 19 x19).setIfInBounds 20 x20).setIfInBounds 21 x21).setIfInBounds 22 x22).setIfInBounds 23 x23).setIfInBounds 24 x24).setIfInBounds 25 x25), a0.defers⟩) (hb : Below B w0 w) (cd0 : Hid (b0 = true → x6 = .int .i64 (j : Nat))) (cd1 : Hid (b1 = true → x7 = .pointer (some ⟨p, 4, none⟩))) (cd2 : Hid (b2 = true → x8 = .slice (some ⟨b, off, none⟩) rn rc)) (cd3 : Hid (b3 = true → x9 = .int .i64 (rn : Nat))) (cd4 : Hid (b4 = true → x10 = .bool true)) (cd5 : Hid (b5 = true → x11 = .bool true)) (cd6 : Hid (b6 = true → x12 = .pointer (some ⟨p, 4, none⟩))) (cd7 : Hid (b7 = true → x13 = .slice (some ⟨b, off, none⟩) rn rc)) (cd8 : Hid (b8 = true → x14 = .int .i64 (j : Nat))) (cd9 : Hid (b9 = true → x15 = .pointer (some ⟨b, off + j, none⟩))) (cd10 : Hid (b10 = true → x16 = .slice (some ⟨zb, zo, none⟩) xn xc)) (cd11 : Hid (b11 = true → x17 = .pointer (some ⟨p, 0, none⟩))) (cd12 : Hid (b12 = true → x18 = .pointer (some ⟨p, 2, none⟩))) (cd13 : Hid (b13 = true → x19 = .int .i64 (ky : Nat))) (cd14 : Hid (b14 = true → x20 = .pointer (some ⟨zb, zo + ky * 3, none⟩))) (cd15 : Hid (b15 = true → x21 = .agg #[.int .i64 k1, .int .i64 m1, .string s1])) (cd16 : Hid (b16 = true → x22 = .agg #[.int .i64 k, .int .i64 m, .string s])) (cd17 : Hid (b17 = true → x23 = .int .i64 C)) (cd18 : Hid (b18 = true → x24 = .bool (decide (C < 0)))) (cd19 : Hid (b19 = true → x25 = .bool (decide (C < 0)))) : RAt2 B p b off rn rc ky j zb zo xn xc k1 m1 s1 k m s C TK a0 w0 L a w
theorem atN_drop {ky : Nat} {v : V} {rs : List (List V)} {j : Nat} {r : List V} (h : rs[j]? = some r) : atN ky v (rs.drop j) = if (kOf ky r).cmp v < 0 then atN ky v (rs.drop (j + 1)) + 1 else 0 := by
  obtain ⟨h1, rfl⟩ := List.getElem?_eq_some_iff.1 h
  rw [List.drop_eq_getElem_cons h1, atN]
set_option maxRecDepth 100000 in
set_option maxHeartbeats 1000000 in
theorem rat_any (w : World) (l : List UInt8) (co : Option Addr) (cn cc : Nat) (ky : Nat) (only : Bool) (ro : Option Addr) (rn rc : Nat) (B : Nat) (rs : List (List V)) (h : IsRR EV w B ro rn rc rs) (v : V) (hv : Val v.k v.n v.s) (hV : ∀ r ∈ rs, ky < r.length ∧ Val (kOf ky r).k (kOf ky r).n (kOf ky r).s) (hn : rn ≤ 1000) :
    Calls Try.prog 82 #[tbV l co cn cc (ky : Nat) only ro rn rc, vv v.k v.n v.s] w fun e w' => e = .returned (.int .i64 (atN ky v rs : Nat)) ∧ Below w.heap.size w w' := by
  have hln := h.len
  obtain ⟨k, m, s⟩ := v
  simp only at hv ⊢
  have B0 : Below w.heap.size w ((w.alloc (.cells #[.string (bsOf l), .slice co cn cc, .int .i64 (ky : Nat), .bool only, .slice ro rn rc] 48)).alloc (.cells #[.int .i64 k, .int .i64 m, .string s] 55)) := ((Below.refl _ _).alloc (Nat.le_refl _) _).alloc (by simp) _
  have hT : Bk ((w.alloc (.cells #[.string (bsOf l), .slice co cn cc, .int .i64 (ky : Nat), .bool only, .slice ro rn rc] 48)).alloc (.cells #[.int .i64 k, .int .i64 m, .string s] 55)) w.heap.size (tbC l co cn cc (ky : Nat) only ro rn rc) 48 := (Bk.new w _ _).alloc _
  have hVa : VAt ((w.alloc (.cells #[.string (bsOf l), .slice co cn cc, .int .i64 (ky : Nat), .bool only, .slice ro rn rc] 48)).alloc (.cells #[.int .i64 k, .int .i64 m, .string s] 55)) (w.heap.size + 1) k m s := by
    have := VAt.new (w.alloc (.cells #[.string (bsOf l), .slice co cn cc, .int .i64 (ky : Nat), .bool only, .slice ro rn rc] 48)) k m s
    rwa [World.size_alloc] at this
  unfold tbV
  go_enter Try.func82, Try.ntmps82
  go_upto_region 1 with fail
  generalize (w.alloc (.cells #[.string (bsOf l), .slice co cn cc, .int .i64 (ky : Nat), .bool only, .slice ro rn rc] 48)).alloc (.cells #[.int .i64 k, .int .i64 m, .string s] 55) = W at B0 hT hVa ⊢
  obtain ⟨p, hp⟩ : ∃ p, w.heap.size = p := ⟨_, rfl⟩
  obtain ⟨q, hq⟩ : ∃ q, p + 1 = q := ⟨_, rfl⟩
  simp only [hp, hq] at hT hVa ⊢
  clear hp hq
  go_wp2_with fail
  go_loopw [5] (fun i wr => ∃ j : Nat, j ≤ rn ∧ i = .int .i64 (j : Nat) ∧ Below W.heap.size W wr ∧ Hid (atN ky ⟨k, m, s⟩ rs = j + atN ky ⟨k, m, s⟩ (rs.drop j))) (fun i _ => rn - (intOf i).toNat)
  case atStart => exact ⟨0, Nat.zero_le _, rfl, Below.refl _ _, by show _ = _; simp⟩
  case round =>
    obtain ⟨j, hj, rfl, hB, hf⟩ := hrel
    obtain ⟨t0, t1, t2, t3, t4⟩ := tb_cells (hT.past hB)
    obtain ⟨g0, g1, g2, -, -, -, hgB⟩ := hVa.past hB
    have hpB := (hT.past hB).lt
    by_cases hlt : j < rn
    · have hlti : (j : Int) < (rn : Int) := by omega
      obtain ⟨r, hr⟩ : ∃ r, rs[j]? = some r := ⟨rs[j]'(by omega), List.getElem?_eq_getElem _⟩
      obtain ⟨b, off, x, rfl, hbx, hc, hx⟩ := h.at hr
      obtain ⟨hky, hVr⟩ := hV r (List.mem_of_getElem? hr)
      obtain ⟨kv, hkv⟩ : ∃ v, r[ky]? = some v := ⟨r[ky]'hky, List.getElem?_eq_getElem _⟩
      have hkk := kOf_get hkv
      rw [hkk] at hVr
      obtain ⟨xa, xn, xc⟩ := x
      simp only at hc hx
      obtain ⟨zb, zo, rfl, hb2x, hcc⟩ := hx.open (by have := hx.len; omega) (by decide)
      obtain ⟨e0, e1, e2⟩ := cells_v hcc ky kv hkv
      have hxl := hx.len
      have BB := B0.trans (hB.mono B0.size)
      rw [← BB.cell hbx] at hc
      rw [← BB.cell hb2x] at e0 e1 e2
      have hbB := Nat.lt_of_lt_of_le hbx BB.size
      have hb2B := Nat.lt_of_lt_of_le hb2x BB.size
      have hkn : (ky : Int) < (xn : Int) := by omega
      have HC0 := fun w => rcmp4_any kv.k kv.n kv.s k m s w hVr hv
      have hstep := hf.out.trans (by rw [atN_drop hr, hkk])
      obtain ⟨C, hC⟩ : ∃ C, kv.cmp ⟨k, m, s⟩ = C := ⟨_, rfl⟩
      rw [hC] at hstep
      have HS := Lib.hid hstep
      have HC : ∀ w', Calls Try.prog 87 #[vv kv.k kv.n kv.s, vv k m s] w' fun e w'' => e = .returned (.int .i64 C) ∧ Below w'.heap.size w' w'' := by rw [← hC]; exact HC0
      obtain ⟨k1, m1, s1⟩ := kv
      simp only at e0 e1 e2 HC
      have hB0 : wr.heap.size ≤ wr.heap.size := Nat.le_refl _
      clear hf hstep HC0 hC hVr hkk hkv hcc hx hr
      go_upto_region 2 with fail
      refine region_inv (RAt2 wr.heap.size p b off rn rc ky j zb zo xn xc k1 m1 s1 k m s C true) (by kernel_rfl) (by kernel_rfl) ?_ ?_ ?_
      · exact ⟨false, false, false, false, false, false, false, false, false, false, false, false, false, false, false, false, false, false, false, false, u6, u7, u8, u9, u10, u11, u12, u13, u14, u15, u16, u17, u18, u19, u20, u21, u22, u23, u24, u25, rfl, (by simp only [Act.put, List.setIfInBounds_toArray, List.set_cons_zero, List.set_cons_succ]), Below.refl _ _, (fun h => by cases h), (fun h => by cases h), (fun h => by cases h), (fun h => by cases h), (fun h => by cases h), (fun h => by cases h), (fun h => by cases h), (fun h => by cases h), (fun h => by cases h), (fun h => by cases h), (fun h => by cases h), (fun h => by cases h), (fun h => by cases h), (fun h => by cases h), (fun h => by cases h), (fun h => by cases h), (fun h => by cases h), (fun h => by cases h), (fun h => by cases h), (fun h => by cases h)⟩
      · refine ⟨?_, ?_, ?_, ?_, ?_, ?_, ?_, ?_, ?_, ?_, ?_, ?_, ?_, ?_, ?_, ?_, ?_, ?_, ?_, ?_, trivial⟩
        · rintro L a w ⟨b0, b1, b2, b3, b4, b5, b6, b7, b8, b9, b10, b11, b12, b13, b14, b15, b16, b17, b18, b19, x6, x7, x8, x9, x10, x11, x12, x13, x14, x15, x16, x17, x18, x19, x20, x21, x22, x23, x24, x25, rfl, rfl, hb, cd0, cd1, cd2, cd3, cd4, cd5, cd6, cd7, cd8, cd9, cd10, cd11, cd12, cd13, cd14, cd15, cd16, cd17, cd18, cd19⟩ hf hd
          have hf' : b0 = false := hf
          subst hf'
          clear hf hd
          try simp only [List.setIfInBounds_toArray, List.set_cons_zero, List.set_cons_succ]
          intro K hK
          rw [if_pos (by rfl)]
          go_simp
          exact hK.out _ _ ⟨true, b1, b2, b3, b4, b5, b6, b7, b8, b9, b10, b11, b12, b13, b14, b15, b16, b17, b18, b19, (.int .i64 (j : Nat)), x7, x8, x9, x10, x11, x12, x13, x14, x15, x16, x17, x18, x19, x20, x21, x22, x23, x24, x25, (by simp only [Act.put, List.setIfInBounds_toArray, List.set_cons_zero, List.set_cons_succ]), (by simp only [Act.put, List.setIfInBounds_toArray, List.set_cons_zero, List.set_cons_succ]), hb, (fun _ => rfl), cd1, cd2, cd3, cd4, cd5, cd6, cd7, cd8, cd9, cd10, cd11, cd12, cd13, cd14, cd15, cd16, cd17, cd18, cd19⟩
        · rintro L a w ⟨b0, b1, b2, b3, b4, b5, b6, b7, b8, b9, b10, b11, b12, b13, b14, b15, b16, b17, b18, b19, x6, x7, x8, x9, x10, x11, x12, x13, x14, x15, x16, x17, x18, x19, x20, x21, x22, x23, x24, x25, rfl, rfl, hb, cd0, cd1, cd2, cd3, cd4, cd5, cd6, cd7, cd8, cd9, cd10, cd11, cd12, cd13, cd14, cd15, cd16, cd17, cd18, cd19⟩ hf hd
          have hf' : b1 = false := hf
          subst hf'
          clear hf hd
          try simp only [List.setIfInBounds_toArray, List.set_cons_zero, List.set_cons_succ]
          intro K hK
          rw [if_pos (by rfl)]
          go_simp
          exact hK.out _ _ ⟨b0, true, b2, b3, b4, b5, b6, b7, b8, b9, b10, b11, b12, b13, b14, b15, b16, b17, b18, b19, x6, (.pointer (some ⟨p, 4, none⟩)), x8, x9, x10, x11, x12, x13, x14, x15, x16, x17, x18, x19, x20, x21, x22, x23, x24, x25, (by simp only [Act.put, List.setIfInBounds_toArray, List.set_cons_zero, List.set_cons_succ]), (by simp only [Act.put, List.setIfInBounds_toArray, List.set_cons_zero, List.set_cons_succ]), hb, cd0, (fun _ => rfl), cd2, cd3, cd4, cd5, cd6, cd7, cd8, cd9, cd10, cd11, cd12, cd13, cd14, cd15, cd16, cd17, cd18, cd19⟩
        · rintro L a w ⟨b0, b1, b2, b3, b4, b5, b6, b7, b8, b9, b10, b11, b12, b13, b14, b15, b16, b17, b18, b19, x6, x7, x8, x9, x10, x11, x12, x13, x14, x15, x16, x17, x18, x19, x20, x21, x22, x23, x24, x25, rfl, rfl, hb, cd0, cd1, cd2, cd3, cd4, cd5, cd6, cd7, cd8, cd9, cd10, cd11, cd12, cd13, cd14, cd15, cd16, cd17, cd18, cd19⟩ hf hd
          have hf' : b2 = false := hf
          subst hf'
          have d1 : b1 = true := hd ⟨1, .data⟩ (by simp) rfl
          subst d1
          obtain rfl := cd1.out rfl
          clear hf hd
          try simp only [List.setIfInBounds_toArray, List.set_cons_zero, List.set_cons_succ]
          have z0 := (hb.cell hpB).trans t4
          intro K hK
          rw [if_pos (by rfl)]
          go_simp
          exact hK.out _ _ ⟨b0, true, true, b3, b4, b5, b6, b7, b8, b9, b10, b11, b12, b13, b14, b15, b16, b17, b18, b19, x6, .pointer (some ⟨p, 4, none⟩), (.slice (some ⟨b, off, none⟩) rn rc), x9, x10, x11, x12, x13, x14, x15, x16, x17, x18, x19, x20, x21, x22, x23, x24, x25, (by simp only [Act.put, List.setIfInBounds_toArray, List.set_cons_zero, List.set_cons_succ]), (by simp only [Act.put, List.setIfInBounds_toArray, List.set_cons_zero, List.set_cons_succ]), hb, cd0, (fun _ => rfl), (fun _ => rfl), cd3, cd4, cd5, cd6, cd7, cd8, cd9, cd10, cd11, cd12, cd13, cd14, cd15, cd16, cd17, cd18, cd19⟩
        · rintro L a w ⟨b0, b1, b2, b3, b4, b5, b6, b7, b8, b9, b10, b11, b12, b13, b14, b15, b16, b17, b18, b19, x6, x7, x8, x9, x10, x11, x12, x13, x14, x15, x16, x17, x18, x19, x20, x21, x22, x23, x24, x25, rfl, rfl, hb, cd0, cd1, cd2, cd3, cd4, cd5, cd6, cd7, cd8, cd9, cd10, cd11, cd12, cd13, cd14, cd15, cd16, cd17, cd18, cd19⟩ hf hd
          have hf' : b3 = false := hf
          subst hf'
          have d2 : b2 = true := hd ⟨2, .data⟩ (by simp) rfl
          subst d2
          obtain rfl := cd2.out rfl
          clear hf hd
          try simp only [List.setIfInBounds_toArray, List.set_cons_zero, List.set_cons_succ]
          intro K hK
          rw [if_pos (by rfl)]
          go_simp
          exact hK.out _ _ ⟨b0, b1, true, true, b4, b5, b6, b7, b8, b9, b10, b11, b12, b13, b14, b15, b16, b17, b18, b19, x6, x7, .slice (some ⟨b, off, none⟩) rn rc, (.int .i64 (rn : Nat)), x10, x11, x12, x13, x14, x15, x16, x17, x18, x19, x20, x21, x22, x23, x24, x25, (by simp only [Act.put, List.setIfInBounds_toArray, List.set_cons_zero, List.set_cons_succ]), (by simp only [Act.put, List.setIfInBounds_toArray, List.set_cons_zero, List.set_cons_succ]), hb, cd0, cd1, (fun _ => rfl), (fun _ => rfl), cd4, cd5, cd6, cd7, cd8, cd9, cd10, cd11, cd12, cd13, cd14, cd15, cd16, cd17, cd18, cd19⟩
        · rintro L a w ⟨b0, b1, b2, b3, b4, b5, b6, b7, b8, b9, b10, b11, b12, b13, b14, b15, b16, b17, b18, b19, x6, x7, x8, x9, x10, x11, x12, x13, x14, x15, x16, x17, x18, x19, x20, x21, x22, x23, x24, x25, rfl, rfl, hb, cd0, cd1, cd2, cd3, cd4, cd5, cd6, cd7, cd8, cd9, cd10, cd11, cd12, cd13, cd14, cd15, cd16, cd17, cd18, cd19⟩ hf hd
          have hf' : b4 = false := hf
          subst hf'
          have d0 : b0 = true := hd ⟨0, .data⟩ (by simp) rfl
          subst d0
          have d3 : b3 = true := hd ⟨3, .data⟩ (by simp) rfl
          subst d3
          obtain rfl := cd0.out rfl
          obtain rfl := cd3.out rfl
          clear hf hd
          try simp only [List.setIfInBounds_toArray, List.set_cons_zero, List.set_cons_succ]
          intro K hK
          rw [if_pos (by rfl)]
          go_simp
          exact hK.out _ _ ⟨true, b1, b2, true, true, b5, b6, b7, b8, b9, b10, b11, b12, b13, b14, b15, b16, b17, b18, b19, .int .i64 (j : Nat), x7, x8, .int .i64 (rn : Nat), (.bool true), x11, x12, x13, x14, x15, x16, x17, x18, x19, x20, x21, x22, x23, x24, x25, (by simp only [Act.put, List.setIfInBounds_toArray, List.set_cons_zero, List.set_cons_succ]), (by simp only [Act.put, List.setIfInBounds_toArray, List.set_cons_zero, List.set_cons_succ]), hb, (fun _ => rfl), cd1, cd2, (fun _ => rfl), (fun _ => rfl), cd5, cd6, cd7, cd8, cd9, cd10, cd11, cd12, cd13, cd14, cd15, cd16, cd17, cd18, cd19⟩
        · rintro L a w ⟨b0, b1, b2, b3, b4, b5, b6, b7, b8, b9, b10, b11, b12, b13, b14, b15, b16, b17, b18, b19, x6, x7, x8, x9, x10, x11, x12, x13, x14, x15, x16, x17, x18, x19, x20, x21, x22, x23, x24, x25, rfl, rfl, hb, cd0, cd1, cd2, cd3, cd4, cd5, cd6, cd7, cd8, cd9, cd10, cd11, cd12, cd13, cd14, cd15, cd16, cd17, cd18, cd19⟩ hf hd
          have hf' : b5 = false := hf
          subst hf'
          have d4 : b4 = true := hd ⟨4, .data⟩ (by simp) rfl
          subst d4
          obtain rfl := cd4.out rfl
          clear hf hd
          try simp only [List.setIfInBounds_toArray, List.set_cons_zero, List.set_cons_succ]
          intro K hK
          rw [if_pos (by rfl)]
          go_simp
          exact hK.out _ _ ⟨b0, b1, b2, b3, true, true, b6, b7, b8, b9, b10, b11, b12, b13, b14, b15, b16, b17, b18, b19, x6, x7, x8, x9, .bool true, (.bool true), x12, x13, x14, x15, x16, x17, x18, x19, x20, x21, x22, x23, x24, x25, (by simp only [Act.put, List.setIfInBounds_toArray, List.set_cons_zero, List.set_cons_succ]), (by simp only [Act.put, List.setIfInBounds_toArray, List.set_cons_zero, List.set_cons_succ]), hb, cd0, cd1, cd2, cd3, (fun _ => rfl), (fun _ => rfl), cd6, cd7, cd8, cd9, cd10, cd11, cd12, cd13, cd14, cd15, cd16, cd17, cd18, cd19⟩
        · rintro L a w ⟨b0, b1, b2, b3, b4, b5, b6, b7, b8, b9, b10, b11, b12, b13, b14, b15, b16, b17, b18, b19, x6, x7, x8, x9, x10, x11, x12, x13, x14, x15, x16, x17, x18, x19, x20, x21, x22, x23, x24, x25, rfl, rfl, hb, cd0, cd1, cd2, cd3, cd4, cd5, cd6, cd7, cd8, cd9, cd10, cd11, cd12, cd13, cd14, cd15, cd16, cd17, cd18, cd19⟩ hf hd
          have hf' : b6 = false := hf
          subst hf'
          have d5 : b5 = true := hd ⟨5, .guard⟩ (by simp) rfl
          subst d5
          obtain rfl := cd5.out rfl
          clear hf hd
          try simp only [List.setIfInBounds_toArray, List.set_cons_zero, List.set_cons_succ]
          intro K hK
          rw [if_pos (by rfl)]
          go_simp
          exact hK.out _ _ ⟨b0, b1, b2, b3, b4, true, true, b7, b8, b9, b10, b11, b12, b13, b14, b15, b16, b17, b18, b19, x6, x7, x8, x9, x10, .bool true, (.pointer (some ⟨p, 4, none⟩)), x13, x14, x15, x16, x17, x18, x19, x20, x21, x22, x23, x24, x25, (by simp only [Act.put, List.setIfInBounds_toArray, List.set_cons_zero, List.set_cons_succ]), (by simp only [Act.put, List.setIfInBounds_toArray, List.set_cons_zero, List.set_cons_succ]), hb, cd0, cd1, cd2, cd3, cd4, (fun _ => rfl), (fun _ => rfl), cd7, cd8, cd9, cd10, cd11, cd12, cd13, cd14, cd15, cd16, cd17, cd18, cd19⟩
        · rintro L a w ⟨b0, b1, b2, b3, b4, b5, b6, b7, b8, b9, b10, b11, b12, b13, b14, b15, b16, b17, b18, b19, x6, x7, x8, x9, x10, x11, x12, x13, x14, x15, x16, x17, x18, x19, x20, x21, x22, x23, x24, x25, rfl, rfl, hb, cd0, cd1, cd2, cd3, cd4, cd5, cd6, cd7, cd8, cd9, cd10, cd11, cd12, cd13, cd14, cd15, cd16, cd17, cd18, cd19⟩ hf hd
          have hf' : b7 = false := hf
          subst hf'
          have d6 : b6 = true := hd ⟨6, .data⟩ (by simp) rfl
          subst d6
          have d5 : b5 = true := hd ⟨5, .guard⟩ (by simp) rfl
          subst d5
          obtain rfl := cd6.out rfl
          obtain rfl := cd5.out rfl
          clear hf hd
          try simp only [List.setIfInBounds_toArray, List.set_cons_zero, List.set_cons_succ]
          have z0 := (hb.cell hpB).trans t4
          intro K hK
          rw [if_pos (by rfl)]
          go_simp
          exact hK.out _ _ ⟨b0, b1, b2, b3, b4, true, true, true, b8, b9, b10, b11, b12, b13, b14, b15, b16, b17, b18, b19, x6, x7, x8, x9, x10, .bool true, .pointer (some ⟨p, 4, none⟩), (.slice (some ⟨b, off, none⟩) rn rc), x14, x15, x16, x17, x18, x19, x20, x21, x22, x23, x24, x25, (by simp only [Act.put, List.setIfInBounds_toArray, List.set_cons_zero, List.set_cons_succ]), (by simp only [Act.put, List.setIfInBounds_toArray, List.set_cons_zero, List.set_cons_succ]), hb, cd0, cd1, cd2, cd3, cd4, (fun _ => rfl), (fun _ => rfl), (fun _ => rfl), cd8, cd9, cd10, cd11, cd12, cd13, cd14, cd15, cd16, cd17, cd18, cd19⟩
        · rintro L a w ⟨b0, b1, b2, b3, b4, b5, b6, b7, b8, b9, b10, b11, b12, b13, b14, b15, b16, b17, b18, b19, x6, x7, x8, x9, x10, x11, x12, x13, x14, x15, x16, x17, x18, x19, x20, x21, x22, x23, x24, x25, rfl, rfl, hb, cd0, cd1, cd2, cd3, cd4, cd5, cd6, cd7, cd8, cd9, cd10, cd11, cd12, cd13, cd14, cd15, cd16, cd17, cd18, cd19⟩ hf hd
          have hf' : b8 = false := hf
          subst hf'
          have d5 : b5 = true := hd ⟨5, .guard⟩ (by simp) rfl
          subst d5
          obtain rfl := cd5.out rfl
          clear hf hd
          try simp only [List.setIfInBounds_toArray, List.set_cons_zero, List.set_cons_succ]
          intro K hK
          rw [if_pos (by rfl)]
          go_simp
          exact hK.out _ _ ⟨b0, b1, b2, b3, b4, true, b6, b7, true, b9, b10, b11, b12, b13, b14, b15, b16, b17, b18, b19, x6, x7, x8, x9, x10, .bool true, x12, x13, (.int .i64 (j : Nat)), x15, x16, x17, x18, x19, x20, x21, x22, x23, x24, x25, (by simp only [Act.put, List.setIfInBounds_toArray, List.set_cons_zero, List.set_cons_succ]), (by simp only [Act.put, List.setIfInBounds_toArray, List.set_cons_zero, List.set_cons_succ]), hb, cd0, cd1, cd2, cd3, cd4, (fun _ => rfl), cd6, cd7, (fun _ => rfl), cd9, cd10, cd11, cd12, cd13, cd14, cd15, cd16, cd17, cd18, cd19⟩
        · rintro L a w ⟨b0, b1, b2, b3, b4, b5, b6, b7, b8, b9, b10, b11, b12, b13, b14, b15, b16, b17, b18, b19, x6, x7, x8, x9, x10, x11, x12, x13, x14, x15, x16, x17, x18, x19, x20, x21, x22, x23, x24, x25, rfl, rfl, hb, cd0, cd1, cd2, cd3, cd4, cd5, cd6, cd7, cd8, cd9, cd10, cd11, cd12, cd13, cd14, cd15, cd16, cd17, cd18, cd19⟩ hf hd
          have hf' : b9 = false := hf
          subst hf'
          have d7 : b7 = true := hd ⟨7, .data⟩ (by simp) rfl
          subst d7
          have d8 : b8 = true := hd ⟨8, .data⟩ (by simp) rfl
          subst d8
          have d5 : b5 = true := hd ⟨5, .guard⟩ (by simp) rfl
          subst d5
          obtain rfl := cd7.out rfl
          obtain rfl := cd8.out rfl
          obtain rfl := cd5.out rfl
          clear hf hd
          try simp only [List.setIfInBounds_toArray, List.set_cons_zero, List.set_cons_succ]
          intro K hK
          rw [if_pos (by rfl)]
          go_simp
          exact hK.out _ _ ⟨b0, b1, b2, b3, b4, true, b6, true, true, true, b10, b11, b12, b13, b14, b15, b16, b17, b18, b19, x6, x7, x8, x9, x10, .bool true, x12, .slice (some ⟨b, off, none⟩) rn rc, .int .i64 (j : Nat), (.pointer (some ⟨b, off + j, none⟩)), x16, x17, x18, x19, x20, x21, x22, x23, x24, x25, (by simp only [Act.put, List.setIfInBounds_toArray, List.set_cons_zero, List.set_cons_succ]), (by simp only [Act.put, List.setIfInBounds_toArray, List.set_cons_zero, List.set_cons_succ]), hb, cd0, cd1, cd2, cd3, cd4, (fun _ => rfl), cd6, (fun _ => rfl), (fun _ => rfl), (fun _ => rfl), cd10, cd11, cd12, cd13, cd14, cd15, cd16, cd17, cd18, cd19⟩
        · rintro L a w ⟨b0, b1, b2, b3, b4, b5, b6, b7, b8, b9, b10, b11, b12, b13, b14, b15, b16, b17, b18, b19, x6, x7, x8, x9, x10, x11, x12, x13, x14, x15, x16, x17, x18, x19, x20, x21, x22, x23, x24, x25, rfl, rfl, hb, cd0, cd1, cd2, cd3, cd4, cd5, cd6, cd7, cd8, cd9, cd10, cd11, cd12, cd13, cd14, cd15, cd16, cd17, cd18, cd19⟩ hf hd
          have hf' : b10 = false := hf
          subst hf'
          have d9 : b9 = true := hd ⟨9, .data⟩ (by simp) rfl
          subst d9
          have d5 : b5 = true := hd ⟨5, .guard⟩ (by simp) rfl
          subst d5
          obtain rfl := cd9.out rfl
          obtain rfl := cd5.out rfl
          clear hf hd
          try simp only [List.setIfInBounds_toArray, List.set_cons_zero, List.set_cons_succ]
          have z0 := (hb.cell hbB).trans hc
          intro K hK
          rw [if_pos (by rfl)]
          go_simp
          exact hK.out _ _ ⟨b0, b1, b2, b3, b4, true, b6, b7, b8, true, true, b11, b12, b13, b14, b15, b16, b17, b18, b19, x6, x7, x8, x9, x10, .bool true, x12, x13, x14, .pointer (some ⟨b, off + j, none⟩), (.slice (some ⟨zb, zo, none⟩) xn xc), x17, x18, x19, x20, x21, x22, x23, x24, x25, (by simp only [Act.put, List.setIfInBounds_toArray, List.set_cons_zero, List.set_cons_succ]), (by simp only [Act.put, List.setIfInBounds_toArray, List.set_cons_zero, List.set_cons_succ]), hb, cd0, cd1, cd2, cd3, cd4, (fun _ => rfl), cd6, cd7, cd8, (fun _ => rfl), (fun _ => rfl), cd11, cd12, cd13, cd14, cd15, cd16, cd17, cd18, cd19⟩
        · rintro L a w ⟨b0, b1, b2, b3, b4, b5, b6, b7, b8, b9, b10, b11, b12, b13, b14, b15, b16, b17, b18, b19, x6, x7, x8, x9, x10, x11, x12, x13, x14, x15, x16, x17, x18, x19, x20, x21, x22, x23, x24, x25, rfl, rfl, hb, cd0, cd1, cd2, cd3, cd4, cd5, cd6, cd7, cd8, cd9, cd10, cd11, cd12, cd13, cd14, cd15, cd16, cd17, cd18, cd19⟩ hf hd
          have hf' : b11 = false := hf
          subst hf'
          have d5 : b5 = true := hd ⟨5, .guard⟩ (by simp) rfl
          subst d5
          obtain rfl := cd5.out rfl
          clear hf hd
          try simp only [List.setIfInBounds_toArray, List.set_cons_zero, List.set_cons_succ]
          intro K hK
          rw [if_pos (by rfl)]
          go_simp
          exact hK.out _ _ ⟨b0, b1, b2, b3, b4, true, b6, b7, b8, b9, b10, true, b12, b13, b14, b15, b16, b17, b18, b19, x6, x7, x8, x9, x10, .bool true, x12, x13, x14, x15, x16, (.pointer (some ⟨p, 0, none⟩)), x18, x19, x20, x21, x22, x23, x24, x25, (by simp only [Act.put, List.setIfInBounds_toArray, List.set_cons_zero, List.set_cons_succ]), (by simp only [Act.put, List.setIfInBounds_toArray, List.set_cons_zero, List.set_cons_succ]), hb, cd0, cd1, cd2, cd3, cd4, (fun _ => rfl), cd6, cd7, cd8, cd9, cd10, (fun _ => rfl), cd12, cd13, cd14, cd15, cd16, cd17, cd18, cd19⟩
        · rintro L a w ⟨b0, b1, b2, b3, b4, b5, b6, b7, b8, b9, b10, b11, b12, b13, b14, b15, b16, b17, b18, b19, x6, x7, x8, x9, x10, x11, x12, x13, x14, x15, x16, x17, x18, x19, x20, x21, x22, x23, x24, x25, rfl, rfl, hb, cd0, cd1, cd2, cd3, cd4, cd5, cd6, cd7, cd8, cd9, cd10, cd11, cd12, cd13, cd14, cd15, cd16, cd17, cd18, cd19⟩ hf hd
          have hf' : b12 = false := hf
          subst hf'
          have d11 : b11 = true := hd ⟨11, .data⟩ (by simp) rfl
          subst d11
          have d5 : b5 = true := hd ⟨5, .guard⟩ (by simp) rfl
          subst d5
          obtain rfl := cd11.out rfl
          obtain rfl := cd5.out rfl
          clear hf hd
          try simp only [List.setIfInBounds_toArray, List.set_cons_zero, List.set_cons_succ]
          intro K hK
          rw [if_pos (by rfl)]
          go_simp
          exact hK.out _ _ ⟨b0, b1, b2, b3, b4, true, b6, b7, b8, b9, b10, true, true, b13, b14, b15, b16, b17, b18, b19, x6, x7, x8, x9, x10, .bool true, x12, x13, x14, x15, x16, .pointer (some ⟨p, 0, none⟩), (.pointer (some ⟨p, 2, none⟩)), x19, x20, x21, x22, x23, x24, x25, (by simp only [Act.put, List.setIfInBounds_toArray, List.set_cons_zero, List.set_cons_succ]), (by simp only [Act.put, List.setIfInBounds_toArray, List.set_cons_zero, List.set_cons_succ]), hb, cd0, cd1, cd2, cd3, cd4, (fun _ => rfl), cd6, cd7, cd8, cd9, cd10, (fun _ => rfl), (fun _ => rfl), cd13, cd14, cd15, cd16, cd17, cd18, cd19⟩
        · rintro L a w ⟨b0, b1, b2, b3, b4, b5, b6, b7, b8, b9, b10, b11, b12, b13, b14, b15, b16, b17, b18, b19, x6, x7, x8, x9, x10, x11, x12, x13, x14, x15, x16, x17, x18, x19, x20, x21, x22, x23, x24, x25, rfl, rfl, hb, cd0, cd1, cd2, cd3, cd4, cd5, cd6, cd7, cd8, cd9, cd10, cd11, cd12, cd13, cd14, cd15, cd16, cd17, cd18, cd19⟩ hf hd
          have hf' : b13 = false := hf
          subst hf'
          have d12 : b12 = true := hd ⟨12, .data⟩ (by simp) rfl
          subst d12
          have d5 : b5 = true := hd ⟨5, .guard⟩ (by simp) rfl
          subst d5
          obtain rfl := cd12.out rfl
          obtain rfl := cd5.out rfl
          clear hf hd
          try simp only [List.setIfInBounds_toArray, List.set_cons_zero, List.set_cons_succ]
          have z0 := (hb.cell hpB).trans t2
          intro K hK
          rw [if_pos (by rfl)]
          go_simp
          exact hK.out _ _ ⟨b0, b1, b2, b3, b4, true, b6, b7, b8, b9, b10, b11, true, true, b14, b15, b16, b17, b18, b19, x6, x7, x8, x9, x10, .bool true, x12, x13, x14, x15, x16, x17, .pointer (some ⟨p, 2, none⟩), (.int .i64 (ky : Nat)), x20, x21, x22, x23, x24, x25, (by simp only [Act.put, List.setIfInBounds_toArray, List.set_cons_zero, List.set_cons_succ]), (by simp only [Act.put, List.setIfInBounds_toArray, List.set_cons_zero, List.set_cons_succ]), hb, cd0, cd1, cd2, cd3, cd4, (fun _ => rfl), cd6, cd7, cd8, cd9, cd10, cd11, (fun _ => rfl), (fun _ => rfl), cd14, cd15, cd16, cd17, cd18, cd19⟩
        · rintro L a w ⟨b0, b1, b2, b3, b4, b5, b6, b7, b8, b9, b10, b11, b12, b13, b14, b15, b16, b17, b18, b19, x6, x7, x8, x9, x10, x11, x12, x13, x14, x15, x16, x17, x18, x19, x20, x21, x22, x23, x24, x25, rfl, rfl, hb, cd0, cd1, cd2, cd3, cd4, cd5, cd6, cd7, cd8, cd9, cd10, cd11, cd12, cd13, cd14, cd15, cd16, cd17, cd18, cd19⟩ hf hd
          have hf' : b14 = false := hf
          subst hf'
          have d10 : b10 = true := hd ⟨10, .data⟩ (by simp) rfl
          subst d10
          have d13 : b13 = true := hd ⟨13, .data⟩ (by simp) rfl
          subst d13
          have d5 : b5 = true := hd ⟨5, .guard⟩ (by simp) rfl
          subst d5
          obtain rfl := cd10.out rfl
          obtain rfl := cd13.out rfl
          obtain rfl := cd5.out rfl
          clear hf hd
          try simp only [List.setIfInBounds_toArray, List.set_cons_zero, List.set_cons_succ]
          intro K hK
          rw [if_pos (by rfl)]
          go_simp
          exact hK.out _ _ ⟨b0, b1, b2, b3, b4, true, b6, b7, b8, b9, true, b11, b12, true, true, b15, b16, b17, b18, b19, x6, x7, x8, x9, x10, .bool true, x12, x13, x14, x15, .slice (some ⟨zb, zo, none⟩) xn xc, x17, x18, .int .i64 (ky : Nat), (.pointer (some ⟨zb, zo + ky * 3, none⟩)), x21, x22, x23, x24, x25, (by simp only [Act.put, List.setIfInBounds_toArray, List.set_cons_zero, List.set_cons_succ]), (by simp only [Act.put, List.setIfInBounds_toArray, List.set_cons_zero, List.set_cons_succ]), hb, cd0, cd1, cd2, cd3, cd4, (fun _ => rfl), cd6, cd7, cd8, cd9, (fun _ => rfl), cd11, cd12, (fun _ => rfl), (fun _ => rfl), cd15, cd16, cd17, cd18, cd19⟩
        · rintro L a w ⟨b0, b1, b2, b3, b4, b5, b6, b7, b8, b9, b10, b11, b12, b13, b14, b15, b16, b17, b18, b19, x6, x7, x8, x9, x10, x11, x12, x13, x14, x15, x16, x17, x18, x19, x20, x21, x22, x23, x24, x25, rfl, rfl, hb, cd0, cd1, cd2, cd3, cd4, cd5, cd6, cd7, cd8, cd9, cd10, cd11, cd12, cd13, cd14, cd15, cd16, cd17, cd18, cd19⟩ hf hd
          have hf' : b15 = false := hf
          subst hf'
          have d14 : b14 = true := hd ⟨14, .data⟩ (by simp) rfl
          subst d14
          have d5 : b5 = true := hd ⟨5, .guard⟩ (by simp) rfl
          subst d5
          obtain rfl := cd14.out rfl
          obtain rfl := cd5.out rfl
          clear hf hd
          try simp only [List.setIfInBounds_toArray, List.set_cons_zero, List.set_cons_succ]
          have z0 := (hb.cell hb2B).trans e0
          have z1 := (hb.cell hb2B).trans e1
          have z2 := (hb.cell hb2B).trans e2
          intro K hK
          rw [if_pos (by rfl)]
          go_simp
          exact hK.out _ _ ⟨b0, b1, b2, b3, b4, true, b6, b7, b8, b9, b10, b11, b12, b13, true, true, b16, b17, b18, b19, x6, x7, x8, x9, x10, .bool true, x12, x13, x14, x15, x16, x17, x18, x19, .pointer (some ⟨zb, zo + ky * 3, none⟩), (.agg #[.int .i64 k1, .int .i64 m1, .string s1]), x22, x23, x24, x25, (by simp only [Act.put, List.setIfInBounds_toArray, List.set_cons_zero, List.set_cons_succ]), (by simp only [Act.put, List.setIfInBounds_toArray, List.set_cons_zero, List.set_cons_succ]), hb, cd0, cd1, cd2, cd3, cd4, (fun _ => rfl), cd6, cd7, cd8, cd9, cd10, cd11, cd12, cd13, (fun _ => rfl), (fun _ => rfl), cd16, cd17, cd18, cd19⟩
        · rintro L a w ⟨b0, b1, b2, b3, b4, b5, b6, b7, b8, b9, b10, b11, b12, b13, b14, b15, b16, b17, b18, b19, x6, x7, x8, x9, x10, x11, x12, x13, x14, x15, x16, x17, x18, x19, x20, x21, x22, x23, x24, x25, rfl, rfl, hb, cd0, cd1, cd2, cd3, cd4, cd5, cd6, cd7, cd8, cd9, cd10, cd11, cd12, cd13, cd14, cd15, cd16, cd17, cd18, cd19⟩ hf hd
          have hf' : b16 = false := hf
          subst hf'
          have d5 : b5 = true := hd ⟨5, .guard⟩ (by simp) rfl
          subst d5
          obtain rfl := cd5.out rfl
          clear hf hd
          try simp only [List.setIfInBounds_toArray, List.set_cons_zero, List.set_cons_succ]
          have z0 := (hb.cell hgB).trans g0
          have z1 := (hb.cell hgB).trans g1
          have z2 := (hb.cell hgB).trans g2
          intro K hK
          rw [if_pos (by rfl)]
          go_simp
          exact hK.out _ _ ⟨b0, b1, b2, b3, b4, true, b6, b7, b8, b9, b10, b11, b12, b13, b14, b15, true, b17, b18, b19, x6, x7, x8, x9, x10, .bool true, x12, x13, x14, x15, x16, x17, x18, x19, x20, x21, (.agg #[.int .i64 k, .int .i64 m, .string s]), x23, x24, x25, (by simp only [Act.put, List.setIfInBounds_toArray, List.set_cons_zero, List.set_cons_succ]), (by simp only [Act.put, List.setIfInBounds_toArray, List.set_cons_zero, List.set_cons_succ]), hb, cd0, cd1, cd2, cd3, cd4, (fun _ => rfl), cd6, cd7, cd8, cd9, cd10, cd11, cd12, cd13, cd14, cd15, (fun _ => rfl), cd17, cd18, cd19⟩
        · rintro L a w ⟨b0, b1, b2, b3, b4, b5, b6, b7, b8, b9, b10, b11, b12, b13, b14, b15, b16, b17, b18, b19, x6, x7, x8, x9, x10, x11, x12, x13, x14, x15, x16, x17, x18, x19, x20, x21, x22, x23, x24, x25, rfl, rfl, hb, cd0, cd1, cd2, cd3, cd4, cd5, cd6, cd7, cd8, cd9, cd10, cd11, cd12, cd13, cd14, cd15, cd16, cd17, cd18, cd19⟩ hf hd
          have hf' : b17 = false := hf
          subst hf'
          have d15 : b15 = true := hd ⟨15, .data⟩ (by simp) rfl
          subst d15
          have d16 : b16 = true := hd ⟨16, .data⟩ (by simp) rfl
          subst d16
          have d5 : b5 = true := hd ⟨5, .chain⟩ (by simp) rfl
          subst d5
          obtain rfl := cd15.out rfl
          obtain rfl := cd16.out rfl
          obtain rfl := cd5.out rfl
          clear hf hd
          try simp only [List.setIfInBounds_toArray, List.set_cons_zero, List.set_cons_succ]
          intro K hK
          rw [if_pos (by rfl)]
          go_simp
          go_at_call 87
          refine (HC _).mono ?_
          rintro e w' ⟨rfl, bx⟩
          exact hK.out _ _ ⟨b0, b1, b2, b3, b4, true, b6, b7, b8, b9, b10, b11, b12, b13, b14, true, true, true, b18, b19, x6, x7, x8, x9, x10, .bool true, x12, x13, x14, x15, x16, x17, x18, x19, x20, .agg #[.int .i64 k1, .int .i64 m1, .string s1], .agg #[.int .i64 k, .int .i64 m, .string s], (.int .i64 C), x24, x25, (by simp only [Act.put, List.setIfInBounds_toArray, List.set_cons_zero, List.set_cons_succ]), (by simp only [Act.put, List.setIfInBounds_toArray, List.set_cons_zero, List.set_cons_succ]), hb.trans (bx.mono (Nat.le_trans hB0 hb.size)), cd0, cd1, cd2, cd3, cd4, (fun _ => rfl), cd6, cd7, cd8, cd9, cd10, cd11, cd12, cd13, cd14, (fun _ => rfl), (fun _ => rfl), (fun _ => rfl), cd18, cd19⟩
        · rintro L a w ⟨b0, b1, b2, b3, b4, b5, b6, b7, b8, b9, b10, b11, b12, b13, b14, b15, b16, b17, b18, b19, x6, x7, x8, x9, x10, x11, x12, x13, x14, x15, x16, x17, x18, x19, x20, x21, x22, x23, x24, x25, rfl, rfl, hb, cd0, cd1, cd2, cd3, cd4, cd5, cd6, cd7, cd8, cd9, cd10, cd11, cd12, cd13, cd14, cd15, cd16, cd17, cd18, cd19⟩ hf hd
          have hf' : b18 = false := hf
          subst hf'
          have d17 : b17 = true := hd ⟨17, .data⟩ (by simp) rfl
          subst d17
          have d5 : b5 = true := hd ⟨5, .guard⟩ (by simp) rfl
          subst d5
          obtain rfl := cd17.out rfl
          obtain rfl := cd5.out rfl
          clear hf hd
          try simp only [List.setIfInBounds_toArray, List.set_cons_zero, List.set_cons_succ]
          intro K hK
          rw [if_pos (by rfl)]
          go_simp
          exact hK.out _ _ ⟨b0, b1, b2, b3, b4, true, b6, b7, b8, b9, b10, b11, b12, b13, b14, b15, b16, true, true, b19, x6, x7, x8, x9, x10, .bool true, x12, x13, x14, x15, x16, x17, x18, x19, x20, x21, x22, .int .i64 C, (.bool (decide (C < 0))), x25, (by simp only [Act.put, List.setIfInBounds_toArray, List.set_cons_zero, List.set_cons_succ]), (by simp only [Act.put, List.setIfInBounds_toArray, List.set_cons_zero, List.set_cons_succ]), hb, cd0, cd1, cd2, cd3, cd4, (fun _ => rfl), cd6, cd7, cd8, cd9, cd10, cd11, cd12, cd13, cd14, cd15, cd16, (fun _ => rfl), (fun _ => rfl), cd19⟩
        · rintro L a w ⟨b0, b1, b2, b3, b4, b5, b6, b7, b8, b9, b10, b11, b12, b13, b14, b15, b16, b17, b18, b19, x6, x7, x8, x9, x10, x11, x12, x13, x14, x15, x16, x17, x18, x19, x20, x21, x22, x23, x24, x25, rfl, rfl, hb, cd0, cd1, cd2, cd3, cd4, cd5, cd6, cd7, cd8, cd9, cd10, cd11, cd12, cd13, cd14, cd15, cd16, cd17, cd18, cd19⟩ hf hd
          have hf' : b19 = false := hf
          subst hf'
          have d5 : b5 = true := hd ⟨5, .data⟩ (by simp) rfl
          subst d5
          have d18 : b18 = true := hd ⟨18, .data⟩ (by simp) rfl
          subst d18
          obtain rfl := cd5.out rfl
          obtain rfl := cd18.out rfl
          clear hf hd
          try simp only [List.setIfInBounds_toArray, List.set_cons_zero, List.set_cons_succ]
          intro K hK
          rw [if_pos (by rfl)]
          go_simp
          exact hK.out _ _ ⟨b0, b1, b2, b3, b4, true, b6, b7, b8, b9, b10, b11, b12, b13, b14, b15, b16, b17, true, true, x6, x7, x8, x9, x10, .bool true, x12, x13, x14, x15, x16, x17, x18, x19, x20, x21, x22, x23, .bool (decide (C < 0)), (.bool (decide (C < 0))), (by simp only [Act.put, List.setIfInBounds_toArray, List.set_cons_zero, List.set_cons_succ]), (by simp only [Act.put, List.setIfInBounds_toArray, List.set_cons_zero, List.set_cons_succ]), hb, cd0, cd1, cd2, cd3, cd4, (fun _ => rfl), cd6, cd7, cd8, cd9, cd10, cd11, cd12, cd13, cd14, cd15, cd16, cd17, (fun _ => rfl), (fun _ => rfl)⟩
      · rintro act V ⟨b0, b1, b2, b3, b4, b5, b6, b7, b8, b9, b10, b11, b12, b13, b14, b15, b16, b17, b18, b19, x6, x7, x8, x9, x10, x11, x12, x13, x14, x15, x16, x17, x18, x19, x20, x21, x22, x23, x24, x25, hL, rfl, hb, cd0, cd1, cd2, cd3, cd4, cd5, cd6, cd7, cd8, cd9, cd10, cd11, cd12, cd13, cd14, cd15, cd16, cd17, cd18, cd19⟩
        have hL' : [true, true, true, true, true, true, true, true, true, true, true, true, true, true, true, true, true, true, true, true] = [b0, b1, b2, b3, b4, b5, b6, b7, b8, b9, b10, b11, b12, b13, b14, b15, b16, b17, b18, b19] := congrArg Array.toList hL
        simp only [List.cons.injEq, and_true] at hL'
        obtain ⟨rfl, rfl, rfl, rfl, rfl, rfl, rfl, rfl, rfl, rfl, rfl, rfl, rfl, rfl, rfl, rfl, rfl, rfl, rfl, rfl⟩ := hL'
        obtain rfl := cd0.out rfl
        obtain rfl := cd1.out rfl
        obtain rfl := cd2.out rfl
        obtain rfl := cd3.out rfl
        obtain rfl := cd4.out rfl
        obtain rfl := cd5.out rfl
        obtain rfl := cd6.out rfl
        obtain rfl := cd7.out rfl
        obtain rfl := cd8.out rfl
        obtain rfl := cd9.out rfl
        obtain rfl := cd10.out rfl
        obtain rfl := cd11.out rfl
        obtain rfl := cd12.out rfl
        obtain rfl := cd13.out rfl
        obtain rfl := cd14.out rfl
        obtain rfl := cd15.out rfl
        obtain rfl := cd16.out rfl
        obtain rfl := cd17.out rfl
        obtain rfl := cd18.out rfl
        obtain rfl := cd19.out rfl
        clear hL cd0 cd1 cd2 cd3 cd4 cd5 cd6 cd7 cd8 cd9 cd10 cd11 cd12 cd13 cd14 cd15 cd16 cd17 cd18 cd19
        simp only [List.setIfInBounds_toArray, List.set_cons_zero, List.set_cons_succ]
        have BV : Below W.heap.size W V := hB.trans (((Below.refl _ _).drew.trans hb).mono hB.size)
        clear hb
        by_cases hC0 : C < 0
        · have HN : Hid (atN ky ⟨k, m, s⟩ rs = (j + 1) + atN ky ⟨k, m, s⟩ (rs.drop (j + 1))) := by
            show _ = _
            rw [HS.out, if_pos hC0]
            omega
          clear HS
          go_wp2_with fail
          go_roundw
          case rel => exact ⟨j + 1, by omega, by go_num, BV, HN⟩
          case measure => simp [intOf]; omega
        · have HN : Hid (atN ky ⟨k, m, s⟩ rs = j) := by
            show _ = _
            rw [HS.out, if_neg hC0]
            rfl
          clear HS
          go_wp2_with fail
          go_ret
          exact ⟨by rw [HN.out]; rfl, B0.trans (BV.mono B0.size)⟩
    · have hlti : ¬ ((j : Int) < (rn : Int)) := by omega
      obtain rfl : j = rn := by omega
      have HN : Hid (atN ky ⟨k, m, s⟩ rs = j) := by
        show _ = _
        rw [hf.out, List.drop_of_length_le (by omega)]
        rfl
      clear hf
      go_upto_region 2 with fail
      go_quiet (fail)
      go_wp2_with fail
      go_ret
      exact ⟨by rw [HN.out]; rfl, B0.trans ((below_drewN hB _).mono B0.size)⟩
/-- What stands while the region's operations come up. -/
inductive RGet2 (B : Nat) (p : Nat) (b : Nat) (off : Nat) (rn : Nat) (rc : Nat) (ky : Nat) (N : Nat) (zb : Nat) (zo : Nat) (xn : Nat) (xc : Nat) (k1 : Int) (m1 : Int) (s1 : ByteArray) (k : Int) (m : Int) (s : ByteArray) (C : Int) (NE : Bool) (a0 : Act) (w0 : World) (L : Array Bool) (a : Act) (w : World) : Prop
  | mk (b0 b1 b2 b3 b4 b5 b6 b7 b8 b9 b10 b11 b12 b13 b14 b15 b16 b17 b18 b19 : Bool) (x10 x11 x12 x13 x14 x15 x16 x17 x18 x19 x20 x21 x22 x23 x24 x25 x26 x27 x28 x29 : Value) (hL : L = #[b0, b1, b2, b3, b4, b5, b6, b7, b8, b9, b10, b11, b12, b13, b14, b15, b16, b17, b18, b19]) (ha : a = ⟨((((((((((((((((((((a0.tmps.setIfInBounds 10 x10).setIfInBounds 11 x11).setIfInBounds 12 x12).setIfInBounds 13 x13).setIfInBounds 14 x14).setIfInBounds 15 x15).setIfInBounds 16 x16).setIfInBounds 17 x17).setIfInBounds 18 x18).setIfInBounds 19 x19).setIfInBounds 20 x20).setIfInBounds 21 x21).setIfInBounds 22 x22).setIfInBounds 23 x23).setIfInBounds 24 x24).setIfInBounds 25 x25).setIfInBounds 26 x26).setIfInBounds 27 x27).setIfInBounds 28 x28).setIfInBounds 29 x29), a0.defers⟩) (hb : Below B w0 w) (cd0 : Hid (b0 = true → x10 = .int .i64 (N : Nat))) (cd1 : Hid (b1 = true → x11 = .pointer (some ⟨p, 4, none⟩))) (cd2 : Hid (b2 = true → x12 = .slice (some ⟨b, off, none⟩) rn rc)) (cd3 : Hid (b3 = true → x13 = .int .i64 (rn : Nat))) (cd4 : Hid (b4 = true → x14 = .bool false)) (cd5 : Hid (b5 = true → x15 = .bool false)) (cd6 : Hid (b6 = true → x16 = .pointer (some ⟨p, 4, none⟩))) (cd7 : Hid (b7 = true → x17 = .slice (some ⟨b, off, none⟩) rn rc)) (cd8 : Hid (b8 = true → x18 = .int .i64 (N : Nat))) (cd9 : Hid (b9 = true → x19 = .pointer (some ⟨b, off + N, none⟩))) (cd10 : Hid (b10 = true → x20 = .slice (some ⟨zb, zo, none⟩) xn xc)) (cd11 : Hid (b11 = true → x21 = .pointer (some ⟨p, 0, none⟩))) (cd12 : Hid (b12 = true → x22 = .pointer (some ⟨p, 2, none⟩))) (cd13 : Hid (b13 = true → x23 = .int .i64 (ky : Nat))) (cd14 : Hid (b14 = true → x24 = .pointer (some ⟨zb, zo + ky * 3, none⟩))) (cd15 : Hid (b15 = true → x25 = .agg #[.int .i64 k1, .int .i64 m1, .string s1])) (cd16 : Hid (b16 = true → x26 = .agg #[.int .i64 k, .int .i64 m, .string s])) (cd17 : Hid (b17 = true → x27 = .int .i64 C)) (cd18 : Hid (b18 = true → x28 = .bool NE)) (cd19 : Hid (b19 = true → x29 = .bool NE)) : RGet2 B p b off rn rc ky N zb zo xn xc k1 m1 s1 k m s C NE a0 w0 L a w
/-- What Get answers. -/
def GetIs (w : World) (N : Nat) (tk : Bool) (rs : List (List V)) (e : Ending) (w' : World) : Prop :=
  (tk = false → e = .returned (.tuple #[.slice none 0 0, .bool false])) ∧ (∀ r, tk = true → rs[N]? = some r → ∃ g c, e = .returned (.tuple #[.slice (some ⟨g, 0, none⟩) r.length c, .bool true]) ∧ OwnR EV w' 55 g r.length c r ∧ w.heap.size ≤ g) ∧ Below w.heap.size w w'
set_option maxRecDepth 100000 in
set_option maxHeartbeats 1000000 in
theorem rget_any (w : World) (l : List UInt8) (co : Option Addr) (cn cc : Nat) (ky : Nat) (only : Bool) (ro : Option Addr) (rn rc : Nat) (B : Nat) (rs : List (List V)) (h : IsRR EV w B ro rn rc rs) (v : V) (hv : Val v.k v.n v.s) (hV : ∀ r ∈ rs, ky < r.length ∧ Val (kOf ky r).k (kOf ky r).n (kOf ky r).s) (hn : rn ≤ 1000) (hrl : ∀ r ∈ rs, r.length ≤ 1000) :
    Calls Try.prog 27 #[tbV l co cn cc (ky : Nat) only ro rn rc, vv v.k v.n v.s] w (GetIs w (atN ky v rs) (hasN ky v rs) rs) := by
  have hln := h.len
  have hNle := at_le ky v rs
  have HA0 := fun (w' : World) (hb : Below w.heap.size w w') => rat_any w' l co cn cc ky only ro rn rc B rs (h.past hb) v hv hV hn
  have hHas : ∀ r, rs[atN ky v rs]? = some r → hasN ky v rs = decide ((kOf ky r).cmp v = 0) := fun r hr => by unfold hasN; rw [hr]
  have hHas2 : rs.length ≤ atN ky v rs → hasN ky v rs = false := fun hl => by unfold hasN; rw [List.getElem?_eq_none hl]
  obtain ⟨N, hN⟩ : ∃ N, atN ky v rs = N := ⟨_, rfl⟩
  obtain ⟨tk, htk⟩ : ∃ tk, hasN ky v rs = tk := ⟨_, rfl⟩
  simp only [hN, htk] at HA0 hNle hHas hHas2 ⊢
  clear hN htk
  obtain ⟨k, m, s⟩ := v
  simp only at hv HA0 hHas ⊢
  have B0 : Below w.heap.size w ((w.alloc (.cells #[.string (bsOf l), .slice co cn cc, .int .i64 (ky : Nat), .bool only, .slice ro rn rc] 48)).alloc (.cells #[.int .i64 k, .int .i64 m, .string s] 55)) := ((Below.refl _ _).alloc (Nat.le_refl _) _).alloc (by simp) _
  have hT : Bk ((w.alloc (.cells #[.string (bsOf l), .slice co cn cc, .int .i64 (ky : Nat), .bool only, .slice ro rn rc] 48)).alloc (.cells #[.int .i64 k, .int .i64 m, .string s] 55)) w.heap.size (tbC l co cn cc (ky : Nat) only ro rn rc) 48 := (Bk.new w _ _).alloc _
  have hVa : VAt ((w.alloc (.cells #[.string (bsOf l), .slice co cn cc, .int .i64 (ky : Nat), .bool only, .slice ro rn rc] 48)).alloc (.cells #[.int .i64 k, .int .i64 m, .string s] 55)) (w.heap.size + 1) k m s := by
    have := VAt.new (w.alloc (.cells #[.string (bsOf l), .slice co cn cc, .int .i64 (ky : Nat), .bool only, .slice ro rn rc] 48)) k m s
    rwa [World.size_alloc] at this
  have HA := HA0 _ B0
  clear HA0
  unfold tbV at HA
  unfold tbV
  go_enter Try.func27, Try.ntmps27
  go_upto_region 1 with fail
  generalize (w.alloc (.cells #[.string (bsOf l), .slice co cn cc, .int .i64 (ky : Nat), .bool only, .slice ro rn rc] 48)).alloc (.cells #[.int .i64 k, .int .i64 m, .string s] 55) = W at B0 hT hVa HA ⊢
  obtain ⟨p, hp⟩ : ∃ p, w.heap.size = p := ⟨_, rfl⟩
  obtain ⟨q, hq⟩ : ∃ q, p + 1 = q := ⟨_, rfl⟩
  simp only [hp, hq] at hT hVa ⊢
  clear hp hq
  obtain ⟨t0, t1, t2, t3, t4⟩ := tb_cells hT
  obtain ⟨g0, g1, g2, -, -, -, hgB⟩ := id hVa
  go_upto_region 2 with (go_at_call 82; refine HA.mono ?_; rintro e w1 ⟨rfl, b1⟩)
  have hT1 := hT.past b1
  have hV1 : VAt w1 q k m s := hVa.past b1
  clear t0 t1 t2 t3 t4 g0 g1 g2 hgB
  obtain ⟨t0, t1, t2, t3, t4⟩ := tb_cells hT1
  obtain ⟨g0, g1, g2, -, -, -, hgB⟩ := hV1
  have hpB := hT1.lt
  by_cases hlt : N < rn
  · have hne : ((N : Int) == (rn : Int)) = false := by simp; omega
    have hne2 : ¬ ((N : Int) = (rn : Int)) := by omega
    have hlti : (N : Int) < (rn : Int) := by omega
    obtain ⟨r, hr⟩ : ∃ r, rs[N]? = some r := ⟨rs[N]'(by omega), List.getElem?_eq_getElem _⟩
    obtain ⟨b, off, x, rfl, hbx, hc, hx⟩ := h.at hr
    obtain ⟨hky, hVr⟩ := hV r (List.mem_of_getElem? hr)
    obtain ⟨kv, hkv⟩ : ∃ v, r[ky]? = some v := ⟨r[ky]'hky, List.getElem?_eq_getElem _⟩
    have hkk := kOf_get hkv
    rw [hkk] at hVr
    obtain ⟨xa, xn, xc⟩ := x
    simp only at hc hx
    obtain ⟨zb, zo, rfl, hb2x, hcc⟩ := hx.open (by have := hx.len; omega) (by decide)
    obtain ⟨e0, e1, e2⟩ := cells_v hcc ky kv hkv
    have hxl := hx.len
    have hxn2 : xn ≤ 1000 := by have := hrl r (List.mem_of_getElem? hr); omega
    have BB := B0.trans (b1.mono B0.size)
    rw [← BB.cell hbx] at hc
    rw [← BB.cell hb2x] at e0 e1 e2
    have hbB := Nat.lt_of_lt_of_le hbx BB.size
    have hb2B := Nat.lt_of_lt_of_le hb2x BB.size
    have hkn : (ky : Int) < (xn : Int) := by omega
    have HC0 := fun w => rcmp4_any kv.k kv.n kv.s k m s w hVr hv
    have htk := hHas r hr
    rw [hkk] at htk
    obtain ⟨C, hC⟩ : ∃ C, kv.cmp ⟨k, m, s⟩ = C := ⟨_, rfl⟩
    rw [hC] at htk
    have HC : ∀ w', Calls Try.prog 87 #[vv kv.k kv.n kv.s, vv k m s] w' fun e w'' => e = .returned (.int .i64 C) ∧ Below w'.heap.size w' w'' := by rw [← hC]; exact HC0
    obtain ⟨NE, hNE⟩ : ∃ NE, (C != 0) = NE := ⟨_, rfl⟩
    have HNE : Hid (NE = !tk) := by
      show _ = _
      rw [htk, ← hNE]
      by_cases q : C = 0 <;> simp [q]
    have HCN := Lib.hid hNE
    obtain ⟨k1, m1, s1⟩ := kv
    simp only at e0 e1 e2 HC
    have hB0 : w1.heap.size ≤ w1.heap.size := Nat.le_refl _
    clear HA HC0 hC hVr hkk hkv hcc htk hNE hHas hHas2
    refine region_inv (RGet2 w1.heap.size p b off rn rc ky N zb zo xn xc k1 m1 s1 k m s C NE) (by kernel_rfl) (by kernel_rfl) ?_ ?_ ?_
    · exact ⟨false, false, false, false, false, false, false, false, false, false, false, false, false, false, false, false, false, false, false, false, undef, undef, undef, undef, undef, undef, undef, undef, undef, undef, undef, undef, undef, undef, undef, undef, undef, undef, undef, undef, rfl, (by simp only [Act.put, List.setIfInBounds_toArray, List.set_cons_zero, List.set_cons_succ]), Below.refl _ _, (fun h => by cases h), (fun h => by cases h), (fun h => by cases h), (fun h => by cases h), (fun h => by cases h), (fun h => by cases h), (fun h => by cases h), (fun h => by cases h), (fun h => by cases h), (fun h => by cases h), (fun h => by cases h), (fun h => by cases h), (fun h => by cases h), (fun h => by cases h), (fun h => by cases h), (fun h => by cases h), (fun h => by cases h), (fun h => by cases h), (fun h => by cases h), (fun h => by cases h)⟩
    · refine ⟨?_, ?_, ?_, ?_, ?_, ?_, ?_, ?_, ?_, ?_, ?_, ?_, ?_, ?_, ?_, ?_, ?_, ?_, ?_, ?_, trivial⟩
      · rintro L a w ⟨b0, b1, b2, b3, b4, b5, b6, b7, b8, b9, b10, b11, b12, b13, b14, b15, b16, b17, b18, b19, x10, x11, x12, x13, x14, x15, x16, x17, x18, x19, x20, x21, x22, x23, x24, x25, x26, x27, x28, x29, rfl, rfl, hb, cd0, cd1, cd2, cd3, cd4, cd5, cd6, cd7, cd8, cd9, cd10, cd11, cd12, cd13, cd14, cd15, cd16, cd17, cd18, cd19⟩ hf hd
        have hf' : b0 = false := hf
        subst hf'
        clear hf hd
        try simp only [List.setIfInBounds_toArray, List.set_cons_zero, List.set_cons_succ]
        intro K hK
        rw [if_pos (by rfl)]
        go_simp
        exact hK.out _ _ ⟨true, b1, b2, b3, b4, b5, b6, b7, b8, b9, b10, b11, b12, b13, b14, b15, b16, b17, b18, b19, (.int .i64 (N : Nat)), x11, x12, x13, x14, x15, x16, x17, x18, x19, x20, x21, x22, x23, x24, x25, x26, x27, x28, x29, (by simp only [Act.put, List.setIfInBounds_toArray, List.set_cons_zero, List.set_cons_succ]), (by simp only [Act.put, List.setIfInBounds_toArray, List.set_cons_zero, List.set_cons_succ]), hb, (fun _ => rfl), cd1, cd2, cd3, cd4, cd5, cd6, cd7, cd8, cd9, cd10, cd11, cd12, cd13, cd14, cd15, cd16, cd17, cd18, cd19⟩
      · rintro L a w ⟨b0, b1, b2, b3, b4, b5, b6, b7, b8, b9, b10, b11, b12, b13, b14, b15, b16, b17, b18, b19, x10, x11, x12, x13, x14, x15, x16, x17, x18, x19, x20, x21, x22, x23, x24, x25, x26, x27, x28, x29, rfl, rfl, hb, cd0, cd1, cd2, cd3, cd4, cd5, cd6, cd7, cd8, cd9, cd10, cd11, cd12, cd13, cd14, cd15, cd16, cd17, cd18, cd19⟩ hf hd
        have hf' : b1 = false := hf
        subst hf'
        clear hf hd
        try simp only [List.setIfInBounds_toArray, List.set_cons_zero, List.set_cons_succ]
        intro K hK
        rw [if_pos (by rfl)]
        go_simp
        exact hK.out _ _ ⟨b0, true, b2, b3, b4, b5, b6, b7, b8, b9, b10, b11, b12, b13, b14, b15, b16, b17, b18, b19, x10, (.pointer (some ⟨p, 4, none⟩)), x12, x13, x14, x15, x16, x17, x18, x19, x20, x21, x22, x23, x24, x25, x26, x27, x28, x29, (by simp only [Act.put, List.setIfInBounds_toArray, List.set_cons_zero, List.set_cons_succ]), (by simp only [Act.put, List.setIfInBounds_toArray, List.set_cons_zero, List.set_cons_succ]), hb, cd0, (fun _ => rfl), cd2, cd3, cd4, cd5, cd6, cd7, cd8, cd9, cd10, cd11, cd12, cd13, cd14, cd15, cd16, cd17, cd18, cd19⟩
      · rintro L a w ⟨b0, b1, b2, b3, b4, b5, b6, b7, b8, b9, b10, b11, b12, b13, b14, b15, b16, b17, b18, b19, x10, x11, x12, x13, x14, x15, x16, x17, x18, x19, x20, x21, x22, x23, x24, x25, x26, x27, x28, x29, rfl, rfl, hb, cd0, cd1, cd2, cd3, cd4, cd5, cd6, cd7, cd8, cd9, cd10, cd11, cd12, cd13, cd14, cd15, cd16, cd17, cd18, cd19⟩ hf hd
        have hf' : b2 = false := hf
        subst hf'
        have d1 : b1 = true := hd ⟨1, .data⟩ (by simp) rfl
        subst d1
        obtain rfl := cd1.out rfl
        clear hf hd
        try simp only [List.setIfInBounds_toArray, List.set_cons_zero, List.set_cons_succ]
        have z0 := (hb.cell hpB).trans t4
        intro K hK
        rw [if_pos (by rfl)]
        go_simp
        exact hK.out _ _ ⟨b0, true, true, b3, b4, b5, b6, b7, b8, b9, b10, b11, b12, b13, b14, b15, b16, b17, b18, b19, x10, .pointer (some ⟨p, 4, none⟩), (.slice (some ⟨b, off, none⟩) rn rc), x13, x14, x15, x16, x17, x18, x19, x20, x21, x22, x23, x24, x25, x26, x27, x28, x29, (by simp only [Act.put, List.setIfInBounds_toArray, List.set_cons_zero, List.set_cons_succ]), (by simp only [Act.put, List.setIfInBounds_toArray, List.set_cons_zero, List.set_cons_succ]), hb, cd0, (fun _ => rfl), (fun _ => rfl), cd3, cd4, cd5, cd6, cd7, cd8, cd9, cd10, cd11, cd12, cd13, cd14, cd15, cd16, cd17, cd18, cd19⟩
      · rintro L a w ⟨b0, b1, b2, b3, b4, b5, b6, b7, b8, b9, b10, b11, b12, b13, b14, b15, b16, b17, b18, b19, x10, x11, x12, x13, x14, x15, x16, x17, x18, x19, x20, x21, x22, x23, x24, x25, x26, x27, x28, x29, rfl, rfl, hb, cd0, cd1, cd2, cd3, cd4, cd5, cd6, cd7, cd8, cd9, cd10, cd11, cd12, cd13, cd14, cd15, cd16, cd17, cd18, cd19⟩ hf hd
        have hf' : b3 = false := hf
        subst hf'
        have d2 : b2 = true := hd ⟨2, .data⟩ (by simp) rfl
        subst d2
        obtain rfl := cd2.out rfl
        clear hf hd
        try simp only [List.setIfInBounds_toArray, List.set_cons_zero, List.set_cons_succ]
        intro K hK
        rw [if_pos (by rfl)]
        go_simp
        exact hK.out _ _ ⟨b0, b1, true, true, b4, b5, b6, b7, b8, b9, b10, b11, b12, b13, b14, b15, b16, b17, b18, b19, x10, x11, .slice (some ⟨b, off, none⟩) rn rc, (.int .i64 (rn : Nat)), x14, x15, x16, x17, x18, x19, x20, x21, x22, x23, x24, x25, x26, x27, x28, x29, (by simp only [Act.put, List.setIfInBounds_toArray, List.set_cons_zero, List.set_cons_succ]), (by simp only [Act.put, List.setIfInBounds_toArray, List.set_cons_zero, List.set_cons_succ]), hb, cd0, cd1, (fun _ => rfl), (fun _ => rfl), cd4, cd5, cd6, cd7, cd8, cd9, cd10, cd11, cd12, cd13, cd14, cd15, cd16, cd17, cd18, cd19⟩
      · rintro L a w ⟨b0, b1, b2, b3, b4, b5, b6, b7, b8, b9, b10, b11, b12, b13, b14, b15, b16, b17, b18, b19, x10, x11, x12, x13, x14, x15, x16, x17, x18, x19, x20, x21, x22, x23, x24, x25, x26, x27, x28, x29, rfl, rfl, hb, cd0, cd1, cd2, cd3, cd4, cd5, cd6, cd7, cd8, cd9, cd10, cd11, cd12, cd13, cd14, cd15, cd16, cd17, cd18, cd19⟩ hf hd
        have hf' : b4 = false := hf
        subst hf'
        have d0 : b0 = true := hd ⟨0, .data⟩ (by simp) rfl
        subst d0
        have d3 : b3 = true := hd ⟨3, .data⟩ (by simp) rfl
        subst d3
        obtain rfl := cd0.out rfl
        obtain rfl := cd3.out rfl
        clear hf hd
        try simp only [List.setIfInBounds_toArray, List.set_cons_zero, List.set_cons_succ]
        intro K hK
        rw [if_pos (by rfl)]
        go_simp
        exact hK.out _ _ ⟨true, b1, b2, true, true, b5, b6, b7, b8, b9, b10, b11, b12, b13, b14, b15, b16, b17, b18, b19, .int .i64 (N : Nat), x11, x12, .int .i64 (rn : Nat), (.bool false), x15, x16, x17, x18, x19, x20, x21, x22, x23, x24, x25, x26, x27, x28, x29, (by simp only [Act.put, List.setIfInBounds_toArray, List.set_cons_zero, List.set_cons_succ]), (by simp only [Act.put, List.setIfInBounds_toArray, List.set_cons_zero, List.set_cons_succ]), hb, (fun _ => rfl), cd1, cd2, (fun _ => rfl), (fun _ => rfl), cd5, cd6, cd7, cd8, cd9, cd10, cd11, cd12, cd13, cd14, cd15, cd16, cd17, cd18, cd19⟩
      · rintro L a w ⟨b0, b1, b2, b3, b4, b5, b6, b7, b8, b9, b10, b11, b12, b13, b14, b15, b16, b17, b18, b19, x10, x11, x12, x13, x14, x15, x16, x17, x18, x19, x20, x21, x22, x23, x24, x25, x26, x27, x28, x29, rfl, rfl, hb, cd0, cd1, cd2, cd3, cd4, cd5, cd6, cd7, cd8, cd9, cd10, cd11, cd12, cd13, cd14, cd15, cd16, cd17, cd18, cd19⟩ hf hd
        have hf' : b5 = false := hf
        subst hf'
        have d4 : b4 = true := hd ⟨4, .data⟩ (by simp) rfl
        subst d4
        obtain rfl := cd4.out rfl
        clear hf hd
        try simp only [List.setIfInBounds_toArray, List.set_cons_zero, List.set_cons_succ]
        intro K hK
        rw [if_pos (by rfl)]
        go_simp
        exact hK.out _ _ ⟨b0, b1, b2, b3, true, true, b6, b7, b8, b9, b10, b11, b12, b13, b14, b15, b16, b17, b18, b19, x10, x11, x12, x13, .bool false, (.bool false), x16, x17, x18, x19, x20, x21, x22, x23, x24, x25, x26, x27, x28, x29, (by simp only [Act.put, List.setIfInBounds_toArray, List.set_cons_zero, List.set_cons_succ]), (by simp only [Act.put, List.setIfInBounds_toArray, List.set_cons_zero, List.set_cons_succ]), hb, cd0, cd1, cd2, cd3, (fun _ => rfl), (fun _ => rfl), cd6, cd7, cd8, cd9, cd10, cd11, cd12, cd13, cd14, cd15, cd16, cd17, cd18, cd19⟩
      · rintro L a w ⟨b0, b1, b2, b3, b4, b5, b6, b7, b8, b9, b10, b11, b12, b13, b14, b15, b16, b17, b18, b19, x10, x11, x12, x13, x14, x15, x16, x17, x18, x19, x20, x21, x22, x23, x24, x25, x26, x27, x28, x29, rfl, rfl, hb, cd0, cd1, cd2, cd3, cd4, cd5, cd6, cd7, cd8, cd9, cd10, cd11, cd12, cd13, cd14, cd15, cd16, cd17, cd18, cd19⟩ hf hd
        have hf' : b6 = false := hf
        subst hf'
        have d5 : b5 = true := hd ⟨5, .guard⟩ (by simp) rfl
        subst d5
        obtain rfl := cd5.out rfl
        clear hf hd
        try simp only [List.setIfInBounds_toArray, List.set_cons_zero, List.set_cons_succ]
        intro K hK
        rw [if_pos (by rfl)]
        go_simp
        exact hK.out _ _ ⟨b0, b1, b2, b3, b4, true, true, b7, b8, b9, b10, b11, b12, b13, b14, b15, b16, b17, b18, b19, x10, x11, x12, x13, x14, .bool false, (.pointer (some ⟨p, 4, none⟩)), x17, x18, x19, x20, x21, x22, x23, x24, x25, x26, x27, x28, x29, (by simp only [Act.put, List.setIfInBounds_toArray, List.set_cons_zero, List.set_cons_succ]), (by simp only [Act.put, List.setIfInBounds_toArray, List.set_cons_zero, List.set_cons_succ]), hb, cd0, cd1, cd2, cd3, cd4, (fun _ => rfl), (fun _ => rfl), cd7, cd8, cd9, cd10, cd11, cd12, cd13, cd14, cd15, cd16, cd17, cd18, cd19⟩
      · rintro L a w ⟨b0, b1, b2, b3, b4, b5, b6, b7, b8, b9, b10, b11, b12, b13, b14, b15, b16, b17, b18, b19, x10, x11, x12, x13, x14, x15, x16, x17, x18, x19, x20, x21, x22, x23, x24, x25, x26, x27, x28, x29, rfl, rfl, hb, cd0, cd1, cd2, cd3, cd4, cd5, cd6, cd7, cd8, cd9, cd10, cd11, cd12, cd13, cd14, cd15, cd16, cd17, cd18, cd19⟩ hf hd
        have hf' : b7 = false := hf
        subst hf'
        have d6 : b6 = true := hd ⟨6, .data⟩ (by simp) rfl
        subst d6
        have d5 : b5 = true := hd ⟨5, .guard⟩ (by simp) rfl
        subst d5
        obtain rfl := cd6.out rfl
        obtain rfl := cd5.out rfl
        clear hf hd
        try simp only [List.setIfInBounds_toArray, List.set_cons_zero, List.set_cons_succ]
        have z0 := (hb.cell hpB).trans t4
        intro K hK
        rw [if_pos (by rfl)]
        go_simp
        exact hK.out _ _ ⟨b0, b1, b2, b3, b4, true, true, true, b8, b9, b10, b11, b12, b13, b14, b15, b16, b17, b18, b19, x10, x11, x12, x13, x14, .bool false, .pointer (some ⟨p, 4, none⟩), (.slice (some ⟨b, off, none⟩) rn rc), x18, x19, x20, x21, x22, x23, x24, x25, x26, x27, x28, x29, (by simp only [Act.put, List.setIfInBounds_toArray, List.set_cons_zero, List.set_cons_succ]), (by simp only [Act.put, List.setIfInBounds_toArray, List.set_cons_zero, List.set_cons_succ]), hb, cd0, cd1, cd2, cd3, cd4, (fun _ => rfl), (fun _ => rfl), (fun _ => rfl), cd8, cd9, cd10, cd11, cd12, cd13, cd14, cd15, cd16, cd17, cd18, cd19⟩
      · rintro L a w ⟨b0, b1, b2, b3, b4, b5, b6, b7, b8, b9, b10, b11, b12, b13, b14, b15, b16, b17, b18, b19, x10, x11, x12, x13, x14, x15, x16, x17, x18, x19, x20, x21, x22, x23, x24, x25, x26, x27, x28, x29, rfl, rfl, hb, cd0, cd1, cd2, cd3, cd4, cd5, cd6, cd7, cd8, cd9, cd10, cd11, cd12, cd13, cd14, cd15, cd16, cd17, cd18, cd19⟩ hf hd
        have hf' : b8 = false := hf
        subst hf'
        have d5 : b5 = true := hd ⟨5, .guard⟩ (by simp) rfl
        subst d5
        obtain rfl := cd5.out rfl
        clear hf hd
        try simp only [List.setIfInBounds_toArray, List.set_cons_zero, List.set_cons_succ]
        intro K hK
        rw [if_pos (by rfl)]
        go_simp
        exact hK.out _ _ ⟨b0, b1, b2, b3, b4, true, b6, b7, true, b9, b10, b11, b12, b13, b14, b15, b16, b17, b18, b19, x10, x11, x12, x13, x14, .bool false, x16, x17, (.int .i64 (N : Nat)), x19, x20, x21, x22, x23, x24, x25, x26, x27, x28, x29, (by simp only [Act.put, List.setIfInBounds_toArray, List.set_cons_zero, List.set_cons_succ]), (by simp only [Act.put, List.setIfInBounds_toArray, List.set_cons_zero, List.set_cons_succ]), hb, cd0, cd1, cd2, cd3, cd4, (fun _ => rfl), cd6, cd7, (fun _ => rfl), cd9, cd10, cd11, cd12, cd13, cd14, cd15, cd16, cd17, cd18, cd19⟩
      · rintro L a w ⟨b0, b1, b2, b3, b4, b5, b6, b7, b8, b9, b10, b11, b12, b13, b14, b15, b16, b17, b18, b19, x10, x11, x12, x13, x14, x15, x16, x17, x18, x19, x20, x21, x22, x23, x24, x25, x26, x27, x28, x29, rfl, rfl, hb, cd0, cd1, cd2, cd3, cd4, cd5, cd6, cd7, cd8, cd9, cd10, cd11, cd12, cd13, cd14, cd15, cd16, cd17, cd18, cd19⟩ hf hd
        have hf' : b9 = false := hf
        subst hf'
        have d7 : b7 = true := hd ⟨7, .data⟩ (by simp) rfl
        subst d7
        have d8 : b8 = true := hd ⟨8, .data⟩ (by simp) rfl
        subst d8
        have d5 : b5 = true := hd ⟨5, .guard⟩ (by simp) rfl
        subst d5
        obtain rfl := cd7.out rfl
        obtain rfl := cd8.out rfl
        obtain rfl := cd5.out rfl
        clear hf hd
        try simp only [List.setIfInBounds_toArray, List.set_cons_zero, List.set_cons_succ]
        intro K hK
        rw [if_pos (by rfl)]
        go_simp
        exact hK.out _ _ ⟨b0, b1, b2, b3, b4, true, b6, true, true, true, b10, b11, b12, b13, b14, b15, b16, b17, b18, b19, x10, x11, x12, x13, x14, .bool false, x16, .slice (some ⟨b, off, none⟩) rn rc, .int .i64 (N : Nat), (.pointer (some ⟨b, off + N, none⟩)), x20, x21, x22, x23, x24, x25, x26, x27, x28, x29, (by simp only [Act.put, List.setIfInBounds_toArray, List.set_cons_zero, List.set_cons_succ]), (by simp only [Act.put, List.setIfInBounds_toArray, List.set_cons_zero, List.set_cons_succ]), hb, cd0, cd1, cd2, cd3, cd4, (fun _ => rfl), cd6, (fun _ => rfl), (fun _ => rfl), (fun _ => rfl), cd10, cd11, cd12, cd13, cd14, cd15, cd16, cd17, cd18, cd19⟩
      · rintro L a w ⟨b0, b1, b2, b3, b4, b5, b6, b7, b8, b9, b10, b11, b12, b13, b14, b15, b16, b17, b18, b19, x10, x11, x12, x13, x14, x15, x16, x17, x18, x19, x20, x21, x22, x23, x24, x25, x26, x27, x28, x29, rfl, rfl, hb, cd0, cd1, cd2, cd3, cd4, cd5, cd6, cd7, cd8, cd9, cd10, cd11, cd12, cd13, cd14, cd15, cd16, cd17, cd18, cd19⟩ hf hd
        have hf' : b10 = false := hf
        subst hf'
        have d9 : b9 = true := hd ⟨9, .data⟩ (by simp) rfl
        subst d9
        have d5 : b5 = true := hd ⟨5, .guard⟩ (by simp) rfl
        subst d5
        obtain rfl := cd9.out rfl
        obtain rfl := cd5.out rfl
        clear hf hd
        try simp only [List.setIfInBounds_toArray, List.set_cons_zero, List.set_cons_succ]
        have z0 := (hb.cell hbB).trans hc
        intro K hK
        rw [if_pos (by rfl)]
        go_simp
        exact hK.out _ _ ⟨b0, b1, b2, b3, b4, true, b6, b7, b8, true, true, b11, b12, b13, b14, b15, b16, b17, b18, b19, x10, x11, x12, x13, x14, .bool false, x16, x17, x18, .pointer (some ⟨b, off + N, none⟩), (.slice (some ⟨zb, zo, none⟩) xn xc), x21, x22, x23, x24, x25, x26, x27, x28, x29, (by simp only [Act.put, List.setIfInBounds_toArray, List.set_cons_zero, List.set_cons_succ]), (by simp only [Act.put, List.setIfInBounds_toArray, List.set_cons_zero, List.set_cons_succ]), hb, cd0, cd1, cd2, cd3, cd4, (fun _ => rfl), cd6, cd7, cd8, (fun _ => rfl), (fun _ => rfl), cd11, cd12, cd13, cd14, cd15, cd16, cd17, cd18, cd19⟩
      · rintro L a w ⟨b0, b1, b2, b3, b4, b5, b6, b7, b8, b9, b10, b11, b12, b13, b14, b15, b16, b17, b18, b19, x10, x11, x12, x13, x14, x15, x16, x17, x18, x19, x20, x21, x22, x23, x24, x25, x26, x27, x28, x29, rfl, rfl, hb, cd0, cd1, cd2, cd3, cd4, cd5, cd6, cd7, cd8, cd9, cd10, cd11, cd12, cd13, cd14, cd15, cd16, cd17, cd18, cd19⟩ hf hd
        have hf' : b11 = false := hf
        subst hf'
        have d5 : b5 = true := hd ⟨5, .guard⟩ (by simp) rfl
        subst d5
        obtain rfl := cd5.out rfl
        clear hf hd
        try simp only [List.setIfInBounds_toArray, List.set_cons_zero, List.set_cons_succ]
        intro K hK
        rw [if_pos (by rfl)]
        go_simp
        exact hK.out _ _ ⟨b0, b1, b2, b3, b4, true, b6, b7, b8, b9, b10, true, b12, b13, b14, b15, b16, b17, b18, b19, x10, x11, x12, x13, x14, .bool false, x16, x17, x18, x19, x20, (.pointer (some ⟨p, 0, none⟩)), x22, x23, x24, x25, x26, x27, x28, x29, (by simp only [Act.put, List.setIfInBounds_toArray, List.set_cons_zero, List.set_cons_succ]), (by simp only [Act.put, List.setIfInBounds_toArray, List.set_cons_zero, List.set_cons_succ]), hb, cd0, cd1, cd2, cd3, cd4, (fun _ => rfl), cd6, cd7, cd8, cd9, cd10, (fun _ => rfl), cd12, cd13, cd14, cd15, cd16, cd17, cd18, cd19⟩
      · rintro L a w ⟨b0, b1, b2, b3, b4, b5, b6, b7, b8, b9, b10, b11, b12, b13, b14, b15, b16, b17, b18, b19, x10, x11, x12, x13, x14, x15, x16, x17, x18, x19, x20, x21, x22, x23, x24, x25, x26, x27, x28, x29, rfl, rfl, hb, cd0, cd1, cd2, cd3, cd4, cd5, cd6, cd7, cd8, cd9, cd10, cd11, cd12, cd13, cd14, cd15, cd16, cd17, cd18, cd19⟩ hf hd
        have hf' : b12 = false := hf
        subst hf'
        have d11 : b11 = true := hd ⟨11, .data⟩ (by simp) rfl
        subst d11
        have d5 : b5 = true := hd ⟨5, .guard⟩ (by simp) rfl
        subst d5
        obtain rfl := cd11.out rfl
        obtain rfl := cd5.out rfl
        clear hf hd
        try simp only [List.setIfInBounds_toArray, List.set_cons_zero, List.set_cons_succ]
        intro K hK
        rw [if_pos (by rfl)]
        go_simp
        exact hK.out _ _ ⟨b0, b1, b2, b3, b4, true, b6, b7, b8, b9, b10, true, true, b13, b14, b15, b16, b17, b18, b19, x10, x11, x12, x13, x14, .bool false, x16, x17, x18, x19, x20, .pointer (some ⟨p, 0, none⟩), (.pointer (some ⟨p, 2, none⟩)), x23, x24, x25, x26, x27, x28, x29, (by simp only [Act.put, List.setIfInBounds_toArray, List.set_cons_zero, List.set_cons_succ]), (by simp only [Act.put, List.setIfInBounds_toArray, List.set_cons_zero, List.set_cons_succ]), hb, cd0, cd1, cd2, cd3, cd4, (fun _ => rfl), cd6, cd7, cd8, cd9, cd10, (fun _ => rfl), (fun _ => rfl), cd13, cd14, cd15, cd16, cd17, cd18, cd19⟩
      · rintro L a w ⟨b0, b1, b2, b3, b4, b5, b6, b7, b8, b9, b10, b11, b12, b13, b14, b15, b16, b17, b18, b19, x10, x11, x12, x13, x14, x15, x16, x17, x18, x19, x20, x21, x22, x23, x24, x25, x26, x27, x28, x29, rfl, rfl, hb, cd0, cd1, cd2, cd3, cd4, cd5, cd6, cd7, cd8, cd9, cd10, cd11, cd12, cd13, cd14, cd15, cd16, cd17, cd18, cd19⟩ hf hd
        have hf' : b13 = false := hf
        subst hf'
        have d12 : b12 = true := hd ⟨12, .data⟩ (by simp) rfl
        subst d12
        have d5 : b5 = true := hd ⟨5, .guard⟩ (by simp) rfl
        subst d5
        obtain rfl := cd12.out rfl
        obtain rfl := cd5.out rfl
        clear hf hd
        try simp only [List.setIfInBounds_toArray, List.set_cons_zero, List.set_cons_succ]
        have z0 := (hb.cell hpB).trans t2
        intro K hK
        rw [if_pos (by rfl)]
        go_simp
        exact hK.out _ _ ⟨b0, b1, b2, b3, b4, true, b6, b7, b8, b9, b10, b11, true, true, b14, b15, b16, b17, b18, b19, x10, x11, x12, x13, x14, .bool false, x16, x17, x18, x19, x20, x21, .pointer (some ⟨p, 2, none⟩), (.int .i64 (ky : Nat)), x24, x25, x26, x27, x28, x29, (by simp only [Act.put, List.setIfInBounds_toArray, List.set_cons_zero, List.set_cons_succ]), (by simp only [Act.put, List.setIfInBounds_toArray, List.set_cons_zero, List.set_cons_succ]), hb, cd0, cd1, cd2, cd3, cd4, (fun _ => rfl), cd6, cd7, cd8, cd9, cd10, cd11, (fun _ => rfl), (fun _ => rfl), cd14, cd15, cd16, cd17, cd18, cd19⟩
      · rintro L a w ⟨b0, b1, b2, b3, b4, b5, b6, b7, b8, b9, b10, b11, b12, b13, b14, b15, b16, b17, b18, b19, x10, x11, x12, x13, x14, x15, x16, x17, x18, x19, x20, x21, x22, x23, x24, x25, x26, x27, x28, x29, rfl, rfl, hb, cd0, cd1, cd2, cd3, cd4, cd5, cd6, cd7, cd8, cd9, cd10, cd11, cd12, cd13, cd14, cd15, cd16, cd17, cd18, cd19⟩ hf hd
        have hf' : b14 = false := hf
        subst hf'
        have d10 : b10 = true := hd ⟨10, .data⟩ (by simp) rfl
        subst d10
        have d13 : b13 = true := hd ⟨13, .data⟩ (by simp) rfl
        subst d13
        have d5 : b5 = true := hd ⟨5, .guard⟩ (by simp) rfl
        subst d5
        obtain rfl := cd10.out rfl
        obtain rfl := cd13.out rfl
        obtain rfl := cd5.out rfl
        clear hf hd
        try simp only [List.setIfInBounds_toArray, List.set_cons_zero, List.set_cons_succ]
        intro K hK
        rw [if_pos (by rfl)]
        go_simp
        exact hK.out _ _ ⟨b0, b1, b2, b3, b4, true, b6, b7, b8, b9, true, b11, b12, true, true, b15, b16, b17, b18, b19, x10, x11, x12, x13, x14, .bool false, x16, x17, x18, x19, .slice (some ⟨zb, zo, none⟩) xn xc, x21, x22, .int .i64 (ky : Nat), (.pointer (some ⟨zb, zo + ky * 3, none⟩)), x25, x26, x27, x28, x29, (by simp only [Act.put, List.setIfInBounds_toArray, List.set_cons_zero, List.set_cons_succ]), (by simp only [Act.put, List.setIfInBounds_toArray, List.set_cons_zero, List.set_cons_succ]), hb, cd0, cd1, cd2, cd3, cd4, (fun _ => rfl), cd6, cd7, cd8, cd9, (fun _ => rfl), cd11, cd12, (fun _ => rfl), (fun _ => rfl), cd15, cd16, cd17, cd18, cd19⟩
      · rintro L a w ⟨b0, b1, b2, b3, b4, b5, b6, b7, b8, b9, b10, b11, b12, b13, b14, b15, b16, b17, b18, b19, x10, x11, x12, x13, x14, x15, x16, x17, x18, x19, x20, x21, x22, x23, x24, x25, x26, x27, x28, x29, rfl, rfl, hb, cd0, cd1, cd2, cd3, cd4, cd5, cd6, cd7, cd8, cd9, cd10, cd11, cd12, cd13, cd14, cd15, cd16, cd17, cd18, cd19⟩ hf hd
        have hf' : b15 = false := hf
        subst hf'
        have d14 : b14 = true := hd ⟨14, .data⟩ (by simp) rfl
        subst d14
        have d5 : b5 = true := hd ⟨5, .guard⟩ (by simp) rfl
        subst d5
        obtain rfl := cd14.out rfl
        obtain rfl := cd5.out rfl
        clear hf hd
        try simp only [List.setIfInBounds_toArray, List.set_cons_zero, List.set_cons_succ]
        have z0 := (hb.cell hb2B).trans e0
        have z1 := (hb.cell hb2B).trans e1
        have z2 := (hb.cell hb2B).trans e2
        intro K hK
        rw [if_pos (by rfl)]
        go_simp
        exact hK.out _ _ ⟨b0, b1, b2, b3, b4, true, b6, b7, b8, b9, b10, b11, b12, b13, true, true, b16, b17, b18, b19, x10, x11, x12, x13, x14, .bool false, x16, x17, x18, x19, x20, x21, x22, x23, .pointer (some ⟨zb, zo + ky * 3, none⟩), (.agg #[.int .i64 k1, .int .i64 m1, .string s1]), x26, x27, x28, x29, (by simp only [Act.put, List.setIfInBounds_toArray, List.set_cons_zero, List.set_cons_succ]), (by simp only [Act.put, List.setIfInBounds_toArray, List.set_cons_zero, List.set_cons_succ]), hb, cd0, cd1, cd2, cd3, cd4, (fun _ => rfl), cd6, cd7, cd8, cd9, cd10, cd11, cd12, cd13, (fun _ => rfl), (fun _ => rfl), cd16, cd17, cd18, cd19⟩
      · rintro L a w ⟨b0, b1, b2, b3, b4, b5, b6, b7, b8, b9, b10, b11, b12, b13, b14, b15, b16, b17, b18, b19, x10, x11, x12, x13, x14, x15, x16, x17, x18, x19, x20, x21, x22, x23, x24, x25, x26, x27, x28, x29, rfl, rfl, hb, cd0, cd1, cd2, cd3, cd4, cd5, cd6, cd7, cd8, cd9, cd10, cd11, cd12, cd13, cd14, cd15, cd16, cd17, cd18, cd19⟩ hf hd
        have hf' : b16 = false := hf
        subst hf'
        have d5 : b5 = true := hd ⟨5, .guard⟩ (by simp) rfl
        subst d5
        obtain rfl := cd5.out rfl
        clear hf hd
        try simp only [List.setIfInBounds_toArray, List.set_cons_zero, List.set_cons_succ]
        have z0 := (hb.cell hgB).trans g0
        have z1 := (hb.cell hgB).trans g1
        have z2 := (hb.cell hgB).trans g2
        intro K hK
        rw [if_pos (by rfl)]
        go_simp
        exact hK.out _ _ ⟨b0, b1, b2, b3, b4, true, b6, b7, b8, b9, b10, b11, b12, b13, b14, b15, true, b17, b18, b19, x10, x11, x12, x13, x14, .bool false, x16, x17, x18, x19, x20, x21, x22, x23, x24, x25, (.agg #[.int .i64 k, .int .i64 m, .string s]), x27, x28, x29, (by simp only [Act.put, List.setIfInBounds_toArray, List.set_cons_zero, List.set_cons_succ]), (by simp only [Act.put, List.setIfInBounds_toArray, List.set_cons_zero, List.set_cons_succ]), hb, cd0, cd1, cd2, cd3, cd4, (fun _ => rfl), cd6, cd7, cd8, cd9, cd10, cd11, cd12, cd13, cd14, cd15, (fun _ => rfl), cd17, cd18, cd19⟩
      · rintro L a w ⟨b0, b1, b2, b3, b4, b5, b6, b7, b8, b9, b10, b11, b12, b13, b14, b15, b16, b17, b18, b19, x10, x11, x12, x13, x14, x15, x16, x17, x18, x19, x20, x21, x22, x23, x24, x25, x26, x27, x28, x29, rfl, rfl, hb, cd0, cd1, cd2, cd3, cd4, cd5, cd6, cd7, cd8, cd9, cd10, cd11, cd12, cd13, cd14, cd15, cd16, cd17, cd18, cd19⟩ hf hd
        have hf' : b17 = false := hf
        subst hf'
        have d15 : b15 = true := hd ⟨15, .data⟩ (by simp) rfl
        subst d15
        have d16 : b16 = true := hd ⟨16, .data⟩ (by simp) rfl
        subst d16
        have d5 : b5 = true := hd ⟨5, .chain⟩ (by simp) rfl
        subst d5
        obtain rfl := cd15.out rfl
        obtain rfl := cd16.out rfl
        obtain rfl := cd5.out rfl
        clear hf hd
        try simp only [List.setIfInBounds_toArray, List.set_cons_zero, List.set_cons_succ]
        intro K hK
        rw [if_pos (by rfl)]
        go_simp
        go_at_call 87
        refine (HC _).mono ?_
        rintro e w' ⟨rfl, bx⟩
        exact hK.out _ _ ⟨b0, b1, b2, b3, b4, true, b6, b7, b8, b9, b10, b11, b12, b13, b14, true, true, true, b18, b19, x10, x11, x12, x13, x14, .bool false, x16, x17, x18, x19, x20, x21, x22, x23, x24, .agg #[.int .i64 k1, .int .i64 m1, .string s1], .agg #[.int .i64 k, .int .i64 m, .string s], (.int .i64 C), x28, x29, (by simp only [Act.put, List.setIfInBounds_toArray, List.set_cons_zero, List.set_cons_succ]), (by simp only [Act.put, List.setIfInBounds_toArray, List.set_cons_zero, List.set_cons_succ]), hb.trans (bx.mono (Nat.le_trans hB0 hb.size)), cd0, cd1, cd2, cd3, cd4, (fun _ => rfl), cd6, cd7, cd8, cd9, cd10, cd11, cd12, cd13, cd14, (fun _ => rfl), (fun _ => rfl), (fun _ => rfl), cd18, cd19⟩
      · rintro L a w ⟨b0, b1, b2, b3, b4, b5, b6, b7, b8, b9, b10, b11, b12, b13, b14, b15, b16, b17, b18, b19, x10, x11, x12, x13, x14, x15, x16, x17, x18, x19, x20, x21, x22, x23, x24, x25, x26, x27, x28, x29, rfl, rfl, hb, cd0, cd1, cd2, cd3, cd4, cd5, cd6, cd7, cd8, cd9, cd10, cd11, cd12, cd13, cd14, cd15, cd16, cd17, cd18, cd19⟩ hf hd
        have hf' : b18 = false := hf
        subst hf'
        have d17 : b17 = true := hd ⟨17, .data⟩ (by simp) rfl
        subst d17
        have d5 : b5 = true := hd ⟨5, .guard⟩ (by simp) rfl
        subst d5
        obtain rfl := cd17.out rfl
        obtain rfl := cd5.out rfl
        clear hf hd
        try simp only [List.setIfInBounds_toArray, List.set_cons_zero, List.set_cons_succ]
        intro K hK
        rw [if_pos (by rfl)]
        go_simp
        rw [HCN.out]
        exact hK.out _ _ ⟨b0, b1, b2, b3, b4, true, b6, b7, b8, b9, b10, b11, b12, b13, b14, b15, b16, true, true, b19, x10, x11, x12, x13, x14, .bool false, x16, x17, x18, x19, x20, x21, x22, x23, x24, x25, x26, .int .i64 C, (.bool NE), x29, (by simp only [Act.put, List.setIfInBounds_toArray, List.set_cons_zero, List.set_cons_succ]), (by simp only [Act.put, List.setIfInBounds_toArray, List.set_cons_zero, List.set_cons_succ]), hb, cd0, cd1, cd2, cd3, cd4, (fun _ => rfl), cd6, cd7, cd8, cd9, cd10, cd11, cd12, cd13, cd14, cd15, cd16, (fun _ => rfl), (fun _ => rfl), cd19⟩
      · rintro L a w ⟨b0, b1, b2, b3, b4, b5, b6, b7, b8, b9, b10, b11, b12, b13, b14, b15, b16, b17, b18, b19, x10, x11, x12, x13, x14, x15, x16, x17, x18, x19, x20, x21, x22, x23, x24, x25, x26, x27, x28, x29, rfl, rfl, hb, cd0, cd1, cd2, cd3, cd4, cd5, cd6, cd7, cd8, cd9, cd10, cd11, cd12, cd13, cd14, cd15, cd16, cd17, cd18, cd19⟩ hf hd
        have hf' : b19 = false := hf
        subst hf'
        have d5 : b5 = true := hd ⟨5, .data⟩ (by simp) rfl
        subst d5
        have d18 : b18 = true := hd ⟨18, .data⟩ (by simp) rfl
        subst d18
        obtain rfl := cd5.out rfl
        obtain rfl := cd18.out rfl
        clear hf hd
        try simp only [List.setIfInBounds_toArray, List.set_cons_zero, List.set_cons_succ]
        intro K hK
        rw [if_pos (by rfl)]
        go_simp
        exact hK.out _ _ ⟨b0, b1, b2, b3, b4, true, b6, b7, b8, b9, b10, b11, b12, b13, b14, b15, b16, b17, true, true, x10, x11, x12, x13, x14, .bool false, x16, x17, x18, x19, x20, x21, x22, x23, x24, x25, x26, x27, .bool NE, (.bool NE), (by simp only [Act.put, List.setIfInBounds_toArray, List.set_cons_zero, List.set_cons_succ]), (by simp only [Act.put, List.setIfInBounds_toArray, List.set_cons_zero, List.set_cons_succ]), hb, cd0, cd1, cd2, cd3, cd4, (fun _ => rfl), cd6, cd7, cd8, cd9, cd10, cd11, cd12, cd13, cd14, cd15, cd16, cd17, (fun _ => rfl), (fun _ => rfl)⟩
    · rintro act V ⟨b0, b1, b2, b3, b4, b5, b6, b7, b8, b9, b10, b11, b12, b13, b14, b15, b16, b17, b18, b19, x10, x11, x12, x13, x14, x15, x16, x17, x18, x19, x20, x21, x22, x23, x24, x25, x26, x27, x28, x29, hL, rfl, hb, cd0, cd1, cd2, cd3, cd4, cd5, cd6, cd7, cd8, cd9, cd10, cd11, cd12, cd13, cd14, cd15, cd16, cd17, cd18, cd19⟩
      have hL' : [true, true, true, true, true, true, true, true, true, true, true, true, true, true, true, true, true, true, true, true] = [b0, b1, b2, b3, b4, b5, b6, b7, b8, b9, b10, b11, b12, b13, b14, b15, b16, b17, b18, b19] := congrArg Array.toList hL
      simp only [List.cons.injEq, and_true] at hL'
      obtain ⟨rfl, rfl, rfl, rfl, rfl, rfl, rfl, rfl, rfl, rfl, rfl, rfl, rfl, rfl, rfl, rfl, rfl, rfl, rfl, rfl⟩ := hL'
      obtain rfl := cd0.out rfl
      obtain rfl := cd1.out rfl
      obtain rfl := cd2.out rfl
      obtain rfl := cd3.out rfl
      obtain rfl := cd4.out rfl
      obtain rfl := cd5.out rfl
      obtain rfl := cd6.out rfl
      obtain rfl := cd7.out rfl
      obtain rfl := cd8.out rfl
      obtain rfl := cd9.out rfl
      obtain rfl := cd10.out rfl
      obtain rfl := cd11.out rfl
      obtain rfl := cd12.out rfl
      obtain rfl := cd13.out rfl
      obtain rfl := cd14.out rfl
      obtain rfl := cd15.out rfl
      obtain rfl := cd16.out rfl
      obtain rfl := cd17.out rfl
      obtain rfl := cd18.out rfl
      obtain rfl := cd19.out rfl
      clear hL cd0 cd1 cd2 cd3 cd4 cd5 cd6 cd7 cd8 cd9 cd10 cd11 cd12 cd13 cd14 cd15 cd16 cd17 cd18 cd19
      simp only [List.setIfInBounds_toArray, List.set_cons_zero, List.set_cons_succ]
      have BV : Below W.heap.size W V := b1.trans (((Below.refl _ _).drew.trans hb).mono b1.size)
      have BV0 := B0.trans (BV.mono B0.size)
      cases tk with
      | false =>
        obtain rfl : NE = true := HNE.out
        go_wp2_with fail
        go_ret2
        exact ⟨fun _ => rfl, (fun r q => by cases q), BV0⟩
      | true =>
        obtain rfl : NE = false := HNE.out
        obtain ⟨t0, t1, t2, t3, t4⟩ := tb_cells (hT1.past ((Below.refl _ _).drew.trans hb))
        have hcV := (hb.cell (show b < w1.drew.heap.size from hbB)).trans hc
        have hxV := hx.past BV0
        have o0 : OwnR EV (V.alloc (.cells #[] 55)) 55 V.heap.size 0 0 [] := own_emptyR V _
        have hsrc := (hxV.alloc (.cells #[] 55)).src Try.underlying49
        have hpV := (hT1.past ((Below.refl _ _).drew.trans hb)).lt
        have hbV : b < V.heap.size := Nat.lt_of_lt_of_le hbx BV0.size
        go_wp2_with (at_builtin; refine wpList_append_or rfl _ _ 49 49 rfl 55 rowTyV V.heap.size 0 0 [] rfl o0 _ rfl xn r hsrc hxl xn (Nat.zero_add xn) r rfl (by omega) ?_; intro g1 c1 w4 o1 p1 q1)
        have b4 := below_puts (Below.refl _ V) p1 (Nat.le_refl _)
        have q1' := ge_new q1
        have HR := Lib.hid hr
        clear hr
        go_ret2
        exact ⟨(fun q => by cases q), fun r' _ hr' => by obtain rfl := Option.some.inj (HR.out.symm.trans hr'); rw [hxl]; exact ⟨g1, c1, rfl, o1, Nat.le_trans BV0.size q1'⟩, BV0.trans (b4.mono BV0.size)⟩
  · have hne : ((N : Int) == (rn : Int)) = true := by simp; omega
    have hne2 : (N : Int) = (rn : Int) := by omega
    obtain rfl : N = rn := by omega
    obtain rfl := hHas2 (by omega)
    clear hHas hHas2
    go_quiet (fail)
    go_wp2_with fail
    go_ret2
    exact ⟨fun _ => rfl, (fun r q => by cases q), below_drewN (B0.trans (b1.mono B0.size)) _⟩
end Go.Proofs.Ytllijeciodmckaa
namespace Go.Proofs.Ytllijeciodmckaa
open Go.RowKit
set_option linter.unusedSimpArgs false
theorem szRT : (Try.prog.info? 48).map (·.size) = some 5 := by kernel_rfl
theorem IsRR.le' {α : Type} {E : Enc α} {w : World} {B : Nat} {ao : Option Addr} {n c : Nat} {ls : List (List α)} (h : IsRR E w B ao n c ls) : n ≤ c := by
  obtain ⟨hs, h1, -⟩ := h
  exact h1.le
/-- What the reference's Put answers, and what then stands. -/
def RPutIs (w : World) (B : Nat) (l : List UInt8) (co : Option Addr) (cn cc ky : Nat) (only : Bool) (E : Int) (rs' : List (List V)) (e : Ending) (w' : World) : Prop :=
  ∃ ro rn rc, e = .returned (.tuple #[tbV l co cn cc (ky : Nat) only ro rn rc, .int .i64 E]) ∧ IsRR EV w' B ro rn rc rs' ∧ Below w.heap.size w w'
/-- What stands while the region's operations come up. -/
inductive RPut4 (B : Nat) (p : Nat) (l : List UInt8) (co : Option Addr) (cn : Nat) (cc : Nat) (ky : Nat) (only : Bool) (ro : Option Addr) (rn : Nat) (rc : Nat) (rb : Nat) (roff : Nat) (n : Nat) (c : Nat) (k : Int) (m : Int) (s : ByteArray) (tk : Bool) (a0 : Act) (w0 : World) (L : Array Bool) (a : Act) (w : World) : Prop
  | mk (b0 b1 b2 b3 b4 b5 b6 b7 b8 b9 b10 b11 b12 : Bool) (x20 x21 x22 x23 x24 x25 x26 x27 x19 x28 x29 x7 x8 : Value) (xa : Option Addr) (xn : Nat) (xc : Nat) (hL : L = #[b0, b1, b2, b3, b4, b5, b6, b7, b8, b9, b10, b11, b12]) (ha : a = ⟨(((((((((((((a0.tmps.setIfInBounds 20 x20).setIfInBounds 21 x21).setIfInBounds 22 x22).setIfInBounds 23 x23).setIfInBounds 24 x24).setIfInBounds 25 x25).setIfInBounds 26 x26).setIfInBounds 27 x27).setIfInBounds 19 x19).setIfInBounds 28 x28).setIfInBounds 29 x29).setIfInBounds 7 x7).setIfInBounds 8 x8), a0.defers⟩) (hb : Below B w0 w) (cd0 : Hid (b0 = true → x20 = .agg #[.string (bsOf l), .slice co cn cc, .int .i64 (ky : Nat), .bool only, .slice ro rn rc])) (cd1 : Hid (b1 = true → x21 = .slice (some ⟨rb, roff, none⟩) n c)) (cd2 : Hid (b2 = true → x22 = .pointer (some ⟨p, 0, none⟩))) (cd3 : Hid (b3 = true → x23 = .pointer (some ⟨p, 2, none⟩))) (cd4 : Hid (b4 = true → x24 = .int .i64 (ky : Nat))) (cd5 : Hid (b5 = true → x25 = .pointer (some ⟨rb, roff + ky * 3, none⟩))) (cd6 : Hid (b6 = true → x26 = .agg #[.int .i64 k, .int .i64 m, .string s])) (cd7 : Hid (b7 = true → x27 = .tuple #[.slice xa xn xc, .bool tk])) (cd8 : Hid (b8 = true → x19 = .tuple #[.slice xa xn xc, .bool tk])) (cd9 : Hid (b9 = true → x28 = .slice xa xn xc)) (cd10 : Hid (b10 = true → x29 = .bool tk)) (cd11 : Hid (b11 = true → x7 = .slice xa xn xc)) (cd12 : Hid (b12 = true → x8 = .bool tk)) (w_8_7 : Hid (b8 = true → b7 = true)) (w_9_7 : Hid (b9 = true → b7 = true)) (w_11_7 : Hid (b11 = true → b7 = true)) : RPut4 B p l co cn cc ky only ro rn rc rb roff n c k m s tk a0 w0 L a w
/-- What stands while the region's operations come up. -/
inductive RPut9 (B : Nat) (p : Nat) (l : List UInt8) (co : Option Addr) (cn : Nat) (cc : Nat) (ky : Nat) (only : Bool) (ro : Option Addr) (rn : Nat) (rc : Nat) (rb : Nat) (roff : Nat) (n : Nat) (c : Nat) (k : Int) (m : Int) (s : ByteArray) (N : Nat) (a0 : Act) (w0 : World) (L : Array Bool) (a : Act) (w : World) : Prop
  | mk (b0 b1 b2 b3 b4 b5 b6 b7 b8 : Bool) (x37 x38 x39 x40 x41 x42 x43 x44 x9 : Value) (hL : L = #[b0, b1, b2, b3, b4, b5, b6, b7, b8]) (ha : a = ⟨(((((((((a0.tmps.setIfInBounds 37 x37).setIfInBounds 38 x38).setIfInBounds 39 x39).setIfInBounds 40 x40).setIfInBounds 41 x41).setIfInBounds 42 x42).setIfInBounds 43 x43).setIfInBounds 44 x44).setIfInBounds 9 x9), a0.defers⟩) (hb : Below B w0 w) (cd0 : Hid (b0 = true → x37 = .agg #[.string (bsOf l), .slice co cn cc, .int .i64 (ky : Nat), .bool only, .slice ro rn rc])) (cd1 : Hid (b1 = true → x38 = .slice (some ⟨rb, roff, none⟩) n c)) (cd2 : Hid (b2 = true → x39 = .pointer (some ⟨p, 0, none⟩))) (cd3 : Hid (b3 = true → x40 = .pointer (some ⟨p, 2, none⟩))) (cd4 : Hid (b4 = true → x41 = .int .i64 (ky : Nat))) (cd5 : Hid (b5 = true → x42 = .pointer (some ⟨rb, roff + ky * 3, none⟩))) (cd6 : Hid (b6 = true → x43 = .agg #[.int .i64 k, .int .i64 m, .string s])) (cd7 : Hid (b7 = true → x44 = .int .i64 (N : Nat))) (cd8 : Hid (b8 = true → x9 = .int .i64 (N : Nat))) : RPut9 B p l co cn cc ky only ro rn rc rb roff n c k m s N a0 w0 L a w
set_option maxRecDepth 100000 in
set_option maxHeartbeats 4000000 in
theorem rput_any (w : World) (l : List UInt8) (co : Option Addr) (cn cc : Nat) (ky : Nat) (only : Bool) (ro : Option Addr) (rn rc : Nat) (B : Nat) (hBw : B ≤ w.heap.size) (cs : List Co) (hc : IsR encCo w co cn cc cs) (rs : List (List V)) (h : IsRR EV w B ro rn rc rs) (ra : Option Addr) (n c : Nat) (rv : List V) (hv : IsR EV w ra n c rv) (hV : ∀ r ∈ rs, ky < r.length ∧ Val (kOf ky r).k (kOf ky r).n (kOf ky r).s) (hVk : fitsE cs rv = 0 → ky < n ∧ Val (kOf ky rv).k (kOf ky rv).n (kOf ky rv).s) (hn : rn ≤ 300) (hrl : ∀ r ∈ rs, r.length ≤ 100) (hnl : n ≤ 100) :
    Calls Try.prog 21 #[tbV l co cn cc (ky : Nat) only ro rn rc, .slice ra n c] w (RPutIs w B l co cn cc ky only (putE cs ky rv rs) (putR cs ky rv rs)) := by
  have hB : Below w.heap.size w ((w.alloc (.cells #[.string (bsOf l), .slice co cn cc, .int .i64 (ky : Nat), .bool only, .slice ro rn rc] 48)).alloc (.cells #[.string ⟨#[]⟩, .slice none 0 0, .int .i64 0, .bool false, .slice none 0 0] 48)) := ((Below.refl _ _).alloc (Nat.le_refl _) _).alloc (by simp) _
  have hT : Bk ((w.alloc (.cells #[.string (bsOf l), .slice co cn cc, .int .i64 (ky : Nat), .bool only, .slice ro rn rc] 48)).alloc (.cells #[.string ⟨#[]⟩, .slice none 0 0, .int .i64 0, .bool false, .slice none 0 0] 48)) w.heap.size (tbC l co cn cc (ky : Nat) only ro rn rc) 48 := (Bk.new w _ _).alloc _
  have hRr : Bk ((w.alloc (.cells #[.string (bsOf l), .slice co cn cc, .int .i64 (ky : Nat), .bool only, .slice ro rn rc] 48)).alloc (.cells #[.string ⟨#[]⟩, .slice none 0 0, .int .i64 0, .bool false, .slice none 0 0] 48)) (w.heap.size + 1) (tbC [] none 0 0 0 false none 0 0) 48 := by
    have := Bk.new (w.alloc (.cells #[.string (bsOf l), .slice co cn cc, .int .i64 (ky : Nat), .bool only, .slice ro rn rc] 48)) #[.string ⟨#[]⟩, .slice none 0 0, .int .i64 0, .bool false, .slice none 0 0] 48
    rwa [World.size_alloc] at this
  have hrln := h.len
  have hvn := hv.len
  obtain ⟨E0, hE0⟩ : ∃ E0, fitsE cs rv = E0 := ⟨_, rfl⟩
  have HFi := fun (w' : World) (hb : Below w.heap.size w w') => rfits_any w' l co cn cc cs (ky : Nat) only (hc.past hb) ra n c rv (hv.past hb)
  simp only [hE0] at HFi hVk
  unfold tbV
  unfold scV at HFi
  have HFIT := Lib.hid HFi
  have HPE : ∀ E, E0 ≠ 0 → E0 = E → putE cs ky rv rs = E ∧ putR cs ky rv rs = rs := fun E h1 h2 => by
    subst h2
    have e1 : putE cs ky rv rs = E0 := by unfold putE; rw [hE0, if_neg h1]
    exact ⟨e1, by unfold putR; rw [e1, if_neg h1]⟩
  have HPEh := Lib.hid HPE
  have HE0 := Lib.hid hE0
  clear HFi hE0 HPE
  go_enter Try.func21, Try.ntmps21
  go_upto_region 1 with fail
  generalize (w.alloc (.cells #[.string (bsOf l), .slice co cn cc, .int .i64 (ky : Nat), .bool only, .slice ro rn rc] 48)).alloc (.cells #[.string ⟨#[]⟩, .slice none 0 0, .int .i64 0, .bool false, .slice none 0 0] 48) = W at hB hT hRr ⊢
  obtain ⟨p, hp⟩ : ∃ p, w.heap.size = p := ⟨_, rfl⟩
  obtain ⟨r, hr⟩ : ∃ r, p + 1 = r := ⟨_, rfl⟩
  have hwp := Lib.hid hp
  simp only [hp, hr] at hT hRr ⊢
  have hwr : w.heap.size ≤ r := by omega
  have hrp : p ≠ r := by omega
  have hpr2 : p < r := by omega
  clear hp hr
  obtain ⟨t0, t1, t2, t3, t4⟩ := tb_cells hT
  have HF := HFIT.out W hB
  go_upto_region 2 with (go_at_call 81; refine HF.mono ?_; rintro e w1 ⟨rfl, b1⟩)
  have B1 := hB.trans (b1.mono hB.size)
  have hT1 := hT.past b1
  have hR1 := hRr.past b1
  have hR1h := Lib.hid (show w1.heap[r]? = some (.cells (tbC [] none 0 0 0 false none 0 0) 48 (0, 0)) from hR1)
  clear t0 t1 t2 t3 t4 HF
  obtain ⟨t0, t1, t2, t3, t4⟩ := tb_cells hT1
  by_cases e0 : E0 = 0
  · obtain ⟨hky, hVv⟩ := hVk e0
    subst e0
    obtain ⟨kv, hkv⟩ : ∃ v, rv[ky]? = some v := ⟨rv[ky]'(by omega), List.getElem?_eq_getElem _⟩
    have hkk := kOf_get hkv
    obtain ⟨rb, roff, rfl, hrb0, hcc⟩ := hv.open (by omega) (by decide)
    obtain ⟨y0, y1, y2⟩ := cells_v hcc ky kv hkv
    have hki : (ky : Int) < (n : Int) := by omega
    have v0 := (B1.cell hrb0).trans y0
    have v1 := (B1.cell hrb0).trans y1
    have v2 := (B1.cell hrb0).trans y2
    have hrbB := Nat.lt_of_lt_of_le hrb0 B1.size
    have hpB := hT1.lt
    rw [hkk] at hVv
    have hNr := at_le ky kv rs
    rw [hrln] at hNr
    have HGt0 := fun (w' : World) (hb : Below w.heap.size w w') => rget_any w' l co cn cc ky only ro rn rc B rs (h.past hb) kv hVv hV (by omega) (fun r hr => by have := hrl r hr; omega)
    have HAt1 := fun (w' : World) (hb : Below w.heap.size w w') => rat_any w' l co cn cc ky only ro rn rc B rs (h.past hb) kv hVv hV (by omega)
    have HPut0 : putE cs ky rv rs = (if hasN ky kv rs = true then 7 else if 200 ≤ rn then 4 else 0) ∧ putN ky rv rs = rs.take (atN ky kv rs) ++ rv :: rs.drop (atN ky kv rs) := by
      refine ⟨?_, ?_⟩
      · unfold putE
        rw [if_pos HE0.out, hkk, hrln]
      · unfold putN
        rw [hkk]
    have hget := fun (hh : hasN ky kv rs = true) => hasN_at hh
    obtain ⟨N, hN⟩ : ∃ N, atN ky kv rs = N := ⟨_, rfl⟩
    obtain ⟨tk, htk⟩ : ∃ tk, hasN ky kv rs = tk := ⟨_, rfl⟩
    simp only [hN, htk] at HGt0 HAt1 HPut0 hNr hget
    clear hN htk
    obtain ⟨k, m, s⟩ := kv
    simp only at HGt0 HAt1 v0 v1 v2 y0 y1 y2
    unfold tbV at HGt0 HAt1
    have HPut := Lib.hid HPut0
    have HAt0 := Lib.hid HAt1
    have HGt : ∀ (w' : World), Below w1.heap.size w1.drew w' → Calls Try.prog 27 #[.agg #[.string (bsOf l), .slice co cn cc, .int .i64 (ky : Nat), .bool only, .slice ro rn rc], vv k m s] w' fun e w'' => ∃ xa xn xc, e = .returned (.tuple #[.slice xa xn xc, .bool tk]) ∧ Below w'.heap.size w' w'' := fun w' hb => (HGt0 w' (B1.trans (((Below.refl _ _).drew.trans hb).mono B1.size))).mono fun e w'' ⟨h1, h2, h3⟩ => by
      cases tk with
      | false => exact ⟨none, 0, 0, h1 rfl, h3⟩
      | true =>
        obtain ⟨r, hr⟩ := hget rfl
        obtain ⟨g, c, he, -, -⟩ := h2 r rfl hr
        exact ⟨_, _, _, he, h3⟩
    have hB0 : w1.heap.size ≤ w1.heap.size := Nat.le_refl _
    clear HGt0 HAt1 HPut0 hget hkk hkv hcc
    go_upto_region 4 with fail
    refine region_inv (RPut4 w1.heap.size p l co cn cc ky only ro rn rc rb roff n c k m s tk) (by kernel_rfl) (by kernel_rfl) ?_ ?_ ?_
    · exact ⟨false, false, false, false, false, false, false, false, false, false, false, false, false, undef, undef, undef, undef, undef, undef, undef, undef, undef, undef, undef, undef, undef, none, 0, 0, rfl, (by simp only [Act.put, List.setIfInBounds_toArray, List.set_cons_zero, List.set_cons_succ]), Below.refl _ _, (fun h => by cases h), (fun h => by cases h), (fun h => by cases h), (fun h => by cases h), (fun h => by cases h), (fun h => by cases h), (fun h => by cases h), (fun h => by cases h), (fun h => by cases h), (fun h => by cases h), (fun h => by cases h), (fun h => by cases h), (fun h => by cases h), (fun h => by cases h), (fun h => by cases h), (fun h => by cases h)⟩
    · refine ⟨?_, ?_, ?_, ?_, ?_, ?_, ?_, ?_, ?_, ?_, ?_, ?_, ?_, trivial⟩
      · rintro L a w ⟨b0, b1, b2, b3, b4, b5, b6, b7, b8, b9, b10, b11, b12, x20, x21, x22, x23, x24, x25, x26, x27, x19, x28, x29, x7, x8, xa, xn, xc, rfl, rfl, hb, cd0, cd1, cd2, cd3, cd4, cd5, cd6, cd7, cd8, cd9, cd10, cd11, cd12, w_8_7, w_9_7, w_11_7⟩ hf hd
        have hf' : b0 = false := hf
        subst hf'
        clear hf hd
        try simp only [List.setIfInBounds_toArray, List.set_cons_zero, List.set_cons_succ]
        have z0 := (hb.cell hpB).trans t0
        have z1 := (hb.cell hpB).trans t1
        have z2 := (hb.cell hpB).trans t2
        have z3 := (hb.cell hpB).trans t3
        have z4 := (hb.cell hpB).trans t4
        intro K hK
        rw [if_pos (by rfl)]
        go_simp
        exact hK.out _ _ ⟨true, b1, b2, b3, b4, b5, b6, b7, b8, b9, b10, b11, b12, (.agg #[.string (bsOf l), .slice co cn cc, .int .i64 (ky : Nat), .bool only, .slice ro rn rc]), x21, x22, x23, x24, x25, x26, x27, x19, x28, x29, x7, x8, xa, xn, xc, (by simp only [Act.put, List.setIfInBounds_toArray, List.set_cons_zero, List.set_cons_succ]), (by simp only [Act.put, List.setIfInBounds_toArray, List.set_cons_zero, List.set_cons_succ]), hb, (fun _ => rfl), cd1, cd2, cd3, cd4, cd5, cd6, cd7, cd8, cd9, cd10, cd11, cd12, w_8_7, w_9_7, w_11_7⟩
      · rintro L a w ⟨b0, b1, b2, b3, b4, b5, b6, b7, b8, b9, b10, b11, b12, x20, x21, x22, x23, x24, x25, x26, x27, x19, x28, x29, x7, x8, xa, xn, xc, rfl, rfl, hb, cd0, cd1, cd2, cd3, cd4, cd5, cd6, cd7, cd8, cd9, cd10, cd11, cd12, w_8_7, w_9_7, w_11_7⟩ hf hd
        have hf' : b1 = false := hf
        subst hf'
        clear hf hd
        try simp only [List.setIfInBounds_toArray, List.set_cons_zero, List.set_cons_succ]
        intro K hK
        rw [if_pos (by rfl)]
        go_simp
        exact hK.out _ _ ⟨b0, true, b2, b3, b4, b5, b6, b7, b8, b9, b10, b11, b12, x20, (.slice (some ⟨rb, roff, none⟩) n c), x22, x23, x24, x25, x26, x27, x19, x28, x29, x7, x8, xa, xn, xc, (by simp only [Act.put, List.setIfInBounds_toArray, List.set_cons_zero, List.set_cons_succ]), (by simp only [Act.put, List.setIfInBounds_toArray, List.set_cons_zero, List.set_cons_succ]), hb, cd0, (fun _ => rfl), cd2, cd3, cd4, cd5, cd6, cd7, cd8, cd9, cd10, cd11, cd12, w_8_7, w_9_7, w_11_7⟩
      · rintro L a w ⟨b0, b1, b2, b3, b4, b5, b6, b7, b8, b9, b10, b11, b12, x20, x21, x22, x23, x24, x25, x26, x27, x19, x28, x29, x7, x8, xa, xn, xc, rfl, rfl, hb, cd0, cd1, cd2, cd3, cd4, cd5, cd6, cd7, cd8, cd9, cd10, cd11, cd12, w_8_7, w_9_7, w_11_7⟩ hf hd
        have hf' : b2 = false := hf
        subst hf'
        clear hf hd
        try simp only [List.setIfInBounds_toArray, List.set_cons_zero, List.set_cons_succ]
        intro K hK
        rw [if_pos (by rfl)]
        go_simp
        exact hK.out _ _ ⟨b0, b1, true, b3, b4, b5, b6, b7, b8, b9, b10, b11, b12, x20, x21, (.pointer (some ⟨p, 0, none⟩)), x23, x24, x25, x26, x27, x19, x28, x29, x7, x8, xa, xn, xc, (by simp only [Act.put, List.setIfInBounds_toArray, List.set_cons_zero, List.set_cons_succ]), (by simp only [Act.put, List.setIfInBounds_toArray, List.set_cons_zero, List.set_cons_succ]), hb, cd0, cd1, (fun _ => rfl), cd3, cd4, cd5, cd6, cd7, cd8, cd9, cd10, cd11, cd12, w_8_7, w_9_7, w_11_7⟩
      · rintro L a w ⟨b0, b1, b2, b3, b4, b5, b6, b7, b8, b9, b10, b11, b12, x20, x21, x22, x23, x24, x25, x26, x27, x19, x28, x29, x7, x8, xa, xn, xc, rfl, rfl, hb, cd0, cd1, cd2, cd3, cd4, cd5, cd6, cd7, cd8, cd9, cd10, cd11, cd12, w_8_7, w_9_7, w_11_7⟩ hf hd
        have hf' : b3 = false := hf
        subst hf'
        have d2 : b2 = true := hd ⟨2, .data⟩ (by simp) rfl
        subst d2
        obtain rfl := cd2.out rfl
        clear hf hd
        try simp only [List.setIfInBounds_toArray, List.set_cons_zero, List.set_cons_succ]
        intro K hK
        rw [if_pos (by rfl)]
        go_simp
        exact hK.out _ _ ⟨b0, b1, true, true, b4, b5, b6, b7, b8, b9, b10, b11, b12, x20, x21, .pointer (some ⟨p, 0, none⟩), (.pointer (some ⟨p, 2, none⟩)), x24, x25, x26, x27, x19, x28, x29, x7, x8, xa, xn, xc, (by simp only [Act.put, List.setIfInBounds_toArray, List.set_cons_zero, List.set_cons_succ]), (by simp only [Act.put, List.setIfInBounds_toArray, List.set_cons_zero, List.set_cons_succ]), hb, cd0, cd1, (fun _ => rfl), (fun _ => rfl), cd4, cd5, cd6, cd7, cd8, cd9, cd10, cd11, cd12, w_8_7, w_9_7, w_11_7⟩
      · rintro L a w ⟨b0, b1, b2, b3, b4, b5, b6, b7, b8, b9, b10, b11, b12, x20, x21, x22, x23, x24, x25, x26, x27, x19, x28, x29, x7, x8, xa, xn, xc, rfl, rfl, hb, cd0, cd1, cd2, cd3, cd4, cd5, cd6, cd7, cd8, cd9, cd10, cd11, cd12, w_8_7, w_9_7, w_11_7⟩ hf hd
        have hf' : b4 = false := hf
        subst hf'
        have d3 : b3 = true := hd ⟨3, .data⟩ (by simp) rfl
        subst d3
        obtain rfl := cd3.out rfl
        clear hf hd
        try simp only [List.setIfInBounds_toArray, List.set_cons_zero, List.set_cons_succ]
        have z0 := (hb.cell hpB).trans t2
        intro K hK
        rw [if_pos (by rfl)]
        go_simp
        exact hK.out _ _ ⟨b0, b1, b2, true, true, b5, b6, b7, b8, b9, b10, b11, b12, x20, x21, x22, .pointer (some ⟨p, 2, none⟩), (.int .i64 (ky : Nat)), x25, x26, x27, x19, x28, x29, x7, x8, xa, xn, xc, (by simp only [Act.put, List.setIfInBounds_toArray, List.set_cons_zero, List.set_cons_succ]), (by simp only [Act.put, List.setIfInBounds_toArray, List.set_cons_zero, List.set_cons_succ]), hb, cd0, cd1, cd2, (fun _ => rfl), (fun _ => rfl), cd5, cd6, cd7, cd8, cd9, cd10, cd11, cd12, w_8_7, w_9_7, w_11_7⟩
      · rintro L a w ⟨b0, b1, b2, b3, b4, b5, b6, b7, b8, b9, b10, b11, b12, x20, x21, x22, x23, x24, x25, x26, x27, x19, x28, x29, x7, x8, xa, xn, xc, rfl, rfl, hb, cd0, cd1, cd2, cd3, cd4, cd5, cd6, cd7, cd8, cd9, cd10, cd11, cd12, w_8_7, w_9_7, w_11_7⟩ hf hd
        have hf' : b5 = false := hf
        subst hf'
        have d1 : b1 = true := hd ⟨1, .data⟩ (by simp) rfl
        subst d1
        have d4 : b4 = true := hd ⟨4, .data⟩ (by simp) rfl
        subst d4
        obtain rfl := cd1.out rfl
        obtain rfl := cd4.out rfl
        clear hf hd
        try simp only [List.setIfInBounds_toArray, List.set_cons_zero, List.set_cons_succ]
        intro K hK
        rw [if_pos (by rfl)]
        go_simp
        exact hK.out _ _ ⟨b0, true, b2, b3, true, true, b6, b7, b8, b9, b10, b11, b12, x20, .slice (some ⟨rb, roff, none⟩) n c, x22, x23, .int .i64 (ky : Nat), (.pointer (some ⟨rb, roff + ky * 3, none⟩)), x26, x27, x19, x28, x29, x7, x8, xa, xn, xc, (by simp only [Act.put, List.setIfInBounds_toArray, List.set_cons_zero, List.set_cons_succ]), (by simp only [Act.put, List.setIfInBounds_toArray, List.set_cons_zero, List.set_cons_succ]), hb, cd0, (fun _ => rfl), cd2, cd3, (fun _ => rfl), (fun _ => rfl), cd6, cd7, cd8, cd9, cd10, cd11, cd12, w_8_7, w_9_7, w_11_7⟩
      · rintro L a w ⟨b0, b1, b2, b3, b4, b5, b6, b7, b8, b9, b10, b11, b12, x20, x21, x22, x23, x24, x25, x26, x27, x19, x28, x29, x7, x8, xa, xn, xc, rfl, rfl, hb, cd0, cd1, cd2, cd3, cd4, cd5, cd6, cd7, cd8, cd9, cd10, cd11, cd12, w_8_7, w_9_7, w_11_7⟩ hf hd
        have hf' : b6 = false := hf
        subst hf'
        have d5 : b5 = true := hd ⟨5, .data⟩ (by simp) rfl
        subst d5
        obtain rfl := cd5.out rfl
        clear hf hd
        try simp only [List.setIfInBounds_toArray, List.set_cons_zero, List.set_cons_succ]
        have z0 := (hb.cell hrbB).trans v0
        have z1 := (hb.cell hrbB).trans v1
        have z2 := (hb.cell hrbB).trans v2
        intro K hK
        rw [if_pos (by rfl)]
        go_simp
        exact hK.out _ _ ⟨b0, b1, b2, b3, b4, true, true, b7, b8, b9, b10, b11, b12, x20, x21, x22, x23, x24, .pointer (some ⟨rb, roff + ky * 3, none⟩), (.agg #[.int .i64 k, .int .i64 m, .string s]), x27, x19, x28, x29, x7, x8, xa, xn, xc, (by simp only [Act.put, List.setIfInBounds_toArray, List.set_cons_zero, List.set_cons_succ]), (by simp only [Act.put, List.setIfInBounds_toArray, List.set_cons_zero, List.set_cons_succ]), hb, cd0, cd1, cd2, cd3, cd4, (fun _ => rfl), (fun _ => rfl), cd7, cd8, cd9, cd10, cd11, cd12, w_8_7, w_9_7, w_11_7⟩
      · rintro L a w ⟨b0, b1, b2, b3, b4, b5, b6, b7, b8, b9, b10, b11, b12, x20, x21, x22, x23, x24, x25, x26, x27, x19, x28, x29, x7, x8, xa, xn, xc, rfl, rfl, hb, cd0, cd1, cd2, cd3, cd4, cd5, cd6, cd7, cd8, cd9, cd10, cd11, cd12, w_8_7, w_9_7, w_11_7⟩ hf hd
        have hf' : b7 = false := hf
        subst hf'
        have d0 : b0 = true := hd ⟨0, .data⟩ (by simp) rfl
        subst d0
        have d6 : b6 = true := hd ⟨6, .data⟩ (by simp) rfl
        subst d6
        obtain rfl := cd0.out rfl
        obtain rfl := cd6.out rfl
        clear hf hd
        try simp only [List.setIfInBounds_toArray, List.set_cons_zero, List.set_cons_succ]
        intro K hK
        rw [if_pos (by rfl)]
        go_simp
        go_at_call 27
        refine (HGt _ hb).mono ?_
        rintro e w' ⟨xa2, xn2, xc2, rfl, bx⟩
        have e_8 : b8 = false := by cases hq : b8 with | false => rfl | true => exact absurd (w_8_7.out hq) (by simp)
        subst e_8
        have e_9 : b9 = false := by cases hq : b9 with | false => rfl | true => exact absurd (w_9_7.out hq) (by simp)
        subst e_9
        have e_11 : b11 = false := by cases hq : b11 with | false => rfl | true => exact absurd (w_11_7.out hq) (by simp)
        subst e_11
        exact hK.out _ _ ⟨true, b1, b2, b3, b4, b5, true, true, false, false, b10, false, b12, .agg #[.string (bsOf l), .slice co cn cc, .int .i64 (ky : Nat), .bool only, .slice ro rn rc], x21, x22, x23, x24, x25, .agg #[.int .i64 k, .int .i64 m, .string s], (.tuple #[.slice xa2 xn2 xc2, .bool tk]), x19, x28, x29, x7, x8, xa2, xn2, xc2, (by simp only [Act.put, List.setIfInBounds_toArray, List.set_cons_zero, List.set_cons_succ]), (by simp only [Act.put, List.setIfInBounds_toArray, List.set_cons_zero, List.set_cons_succ]), hb.trans (bx.mono (Nat.le_trans hB0 hb.size)), (fun _ => rfl), cd1, cd2, cd3, cd4, cd5, (fun _ => rfl), (fun _ => rfl), (fun h => by cases h), (fun h => by cases h), cd10, (fun h => by cases h), cd12, (fun _ => rfl), (fun _ => rfl), (fun _ => rfl)⟩
      · rintro L a w ⟨b0, b1, b2, b3, b4, b5, b6, b7, b8, b9, b10, b11, b12, x20, x21, x22, x23, x24, x25, x26, x27, x19, x28, x29, x7, x8, xa, xn, xc, rfl, rfl, hb, cd0, cd1, cd2, cd3, cd4, cd5, cd6, cd7, cd8, cd9, cd10, cd11, cd12, w_8_7, w_9_7, w_11_7⟩ hf hd
        have hf' : b8 = false := hf
        subst hf'
        have d7 : b7 = true := hd ⟨7, .data⟩ (by simp) rfl
        subst d7
        obtain rfl := cd7.out rfl
        clear hf hd
        try simp only [List.setIfInBounds_toArray, List.set_cons_zero, List.set_cons_succ]
        intro K hK
        rw [if_pos (by rfl)]
        go_simp
        exact hK.out _ _ ⟨b0, b1, b2, b3, b4, b5, b6, true, true, b9, b10, b11, b12, x20, x21, x22, x23, x24, x25, x26, .tuple #[.slice xa xn xc, .bool tk], (.tuple #[.slice xa xn xc, .bool tk]), x28, x29, x7, x8, xa, xn, xc, (by simp only [Act.put, List.setIfInBounds_toArray, List.set_cons_zero, List.set_cons_succ]), (by simp only [Act.put, List.setIfInBounds_toArray, List.set_cons_zero, List.set_cons_succ]), hb, cd0, cd1, cd2, cd3, cd4, cd5, cd6, (fun _ => rfl), (fun _ => rfl), cd9, cd10, cd11, cd12, (fun _ => rfl), (fun _ => rfl), (fun _ => rfl)⟩
      · rintro L a w ⟨b0, b1, b2, b3, b4, b5, b6, b7, b8, b9, b10, b11, b12, x20, x21, x22, x23, x24, x25, x26, x27, x19, x28, x29, x7, x8, xa, xn, xc, rfl, rfl, hb, cd0, cd1, cd2, cd3, cd4, cd5, cd6, cd7, cd8, cd9, cd10, cd11, cd12, w_8_7, w_9_7, w_11_7⟩ hf hd
        have hf' : b9 = false := hf
        subst hf'
        have d8 : b8 = true := hd ⟨8, .data⟩ (by simp) rfl
        subst d8
        obtain rfl := cd8.out rfl
        clear hf hd
        try simp only [List.setIfInBounds_toArray, List.set_cons_zero, List.set_cons_succ]
        intro K hK
        rw [if_pos (by rfl)]
        go_simp
        exact hK.out _ _ ⟨b0, b1, b2, b3, b4, b5, b6, b7, true, true, b10, b11, b12, x20, x21, x22, x23, x24, x25, x26, x27, .tuple #[.slice xa xn xc, .bool tk], (.slice xa xn xc), x29, x7, x8, xa, xn, xc, (by simp only [Act.put, List.setIfInBounds_toArray, List.set_cons_zero, List.set_cons_succ]), (by simp only [Act.put, List.setIfInBounds_toArray, List.set_cons_zero, List.set_cons_succ]), hb, cd0, cd1, cd2, cd3, cd4, cd5, cd6, cd7, (fun _ => rfl), (fun _ => rfl), cd10, cd11, cd12, w_8_7, (fun _ => w_8_7.out rfl), w_11_7⟩
      · rintro L a w ⟨b0, b1, b2, b3, b4, b5, b6, b7, b8, b9, b10, b11, b12, x20, x21, x22, x23, x24, x25, x26, x27, x19, x28, x29, x7, x8, xa, xn, xc, rfl, rfl, hb, cd0, cd1, cd2, cd3, cd4, cd5, cd6, cd7, cd8, cd9, cd10, cd11, cd12, w_8_7, w_9_7, w_11_7⟩ hf hd
        have hf' : b10 = false := hf
        subst hf'
        have d8 : b8 = true := hd ⟨8, .data⟩ (by simp) rfl
        subst d8
        obtain rfl := cd8.out rfl
        clear hf hd
        try simp only [List.setIfInBounds_toArray, List.set_cons_zero, List.set_cons_succ]
        intro K hK
        rw [if_pos (by rfl)]
        go_simp
        exact hK.out _ _ ⟨b0, b1, b2, b3, b4, b5, b6, b7, true, b9, true, b11, b12, x20, x21, x22, x23, x24, x25, x26, x27, .tuple #[.slice xa xn xc, .bool tk], x28, (.bool tk), x7, x8, xa, xn, xc, (by simp only [Act.put, List.setIfInBounds_toArray, List.set_cons_zero, List.set_cons_succ]), (by simp only [Act.put, List.setIfInBounds_toArray, List.set_cons_zero, List.set_cons_succ]), hb, cd0, cd1, cd2, cd3, cd4, cd5, cd6, cd7, (fun _ => rfl), cd9, (fun _ => rfl), cd11, cd12, w_8_7, w_9_7, w_11_7⟩
      · rintro L a w ⟨b0, b1, b2, b3, b4, b5, b6, b7, b8, b9, b10, b11, b12, x20, x21, x22, x23, x24, x25, x26, x27, x19, x28, x29, x7, x8, xa, xn, xc, rfl, rfl, hb, cd0, cd1, cd2, cd3, cd4, cd5, cd6, cd7, cd8, cd9, cd10, cd11, cd12, w_8_7, w_9_7, w_11_7⟩ hf hd
        have hf' : b11 = false := hf
        subst hf'
        have d9 : b9 = true := hd ⟨9, .data⟩ (by simp) rfl
        subst d9
        have d7 : b7 = true := hd ⟨7, .chain⟩ (by simp) rfl
        subst d7
        have d0 : b0 = true := hd ⟨0, .phase⟩ (by simp) rfl
        subst d0
        have d1 : b1 = true := hd ⟨1, .phase⟩ (by simp) rfl
        subst d1
        have d2 : b2 = true := hd ⟨2, .phase⟩ (by simp) rfl
        subst d2
        have d3 : b3 = true := hd ⟨3, .phase⟩ (by simp) rfl
        subst d3
        have d4 : b4 = true := hd ⟨4, .phase⟩ (by simp) rfl
        subst d4
        have d5 : b5 = true := hd ⟨5, .phase⟩ (by simp) rfl
        subst d5
        have d6 : b6 = true := hd ⟨6, .phase⟩ (by simp) rfl
        subst d6
        have d8 : b8 = true := hd ⟨8, .phase⟩ (by simp) rfl
        subst d8
        obtain rfl := cd9.out rfl
        obtain rfl := cd7.out rfl
        obtain rfl := cd0.out rfl
        obtain rfl := cd1.out rfl
        obtain rfl := cd2.out rfl
        obtain rfl := cd3.out rfl
        obtain rfl := cd4.out rfl
        obtain rfl := cd5.out rfl
        obtain rfl := cd6.out rfl
        obtain rfl := cd8.out rfl
        clear hf hd
        try simp only [List.setIfInBounds_toArray, List.set_cons_zero, List.set_cons_succ]
        intro K hK
        rw [if_pos (by rfl)]
        go_simp
        exact hK.out _ _ ⟨true, true, true, true, true, true, true, true, true, true, b10, true, b12, .agg #[.string (bsOf l), .slice co cn cc, .int .i64 (ky : Nat), .bool only, .slice ro rn rc], .slice (some ⟨rb, roff, none⟩) n c, .pointer (some ⟨p, 0, none⟩), .pointer (some ⟨p, 2, none⟩), .int .i64 (ky : Nat), .pointer (some ⟨rb, roff + ky * 3, none⟩), .agg #[.int .i64 k, .int .i64 m, .string s], .tuple #[.slice xa xn xc, .bool tk], .tuple #[.slice xa xn xc, .bool tk], .slice xa xn xc, x29, (.slice xa xn xc), x8, xa, xn, xc, (by simp only [Act.put, List.setIfInBounds_toArray, List.set_cons_zero, List.set_cons_succ]), (by simp only [Act.put, List.setIfInBounds_toArray, List.set_cons_zero, List.set_cons_succ]), hb, (fun _ => rfl), (fun _ => rfl), (fun _ => rfl), (fun _ => rfl), (fun _ => rfl), (fun _ => rfl), (fun _ => rfl), (fun _ => rfl), (fun _ => rfl), (fun _ => rfl), cd10, (fun _ => rfl), cd12, (fun _ => rfl), (fun _ => rfl), (fun _ => rfl)⟩
      · rintro L a w ⟨b0, b1, b2, b3, b4, b5, b6, b7, b8, b9, b10, b11, b12, x20, x21, x22, x23, x24, x25, x26, x27, x19, x28, x29, x7, x8, xa, xn, xc, rfl, rfl, hb, cd0, cd1, cd2, cd3, cd4, cd5, cd6, cd7, cd8, cd9, cd10, cd11, cd12, w_8_7, w_9_7, w_11_7⟩ hf hd
        have hf' : b12 = false := hf
        subst hf'
        have d10 : b10 = true := hd ⟨10, .data⟩ (by simp) rfl
        subst d10
        have d11 : b11 = true := hd ⟨11, .chain⟩ (by simp) rfl
        subst d11
        have d0 : b0 = true := hd ⟨0, .phase⟩ (by simp) rfl
        subst d0
        have d1 : b1 = true := hd ⟨1, .phase⟩ (by simp) rfl
        subst d1
        have d2 : b2 = true := hd ⟨2, .phase⟩ (by simp) rfl
        subst d2
        have d3 : b3 = true := hd ⟨3, .phase⟩ (by simp) rfl
        subst d3
        have d4 : b4 = true := hd ⟨4, .phase⟩ (by simp) rfl
        subst d4
        have d5 : b5 = true := hd ⟨5, .phase⟩ (by simp) rfl
        subst d5
        have d6 : b6 = true := hd ⟨6, .phase⟩ (by simp) rfl
        subst d6
        have d7 : b7 = true := hd ⟨7, .phase⟩ (by simp) rfl
        subst d7
        have d8 : b8 = true := hd ⟨8, .phase⟩ (by simp) rfl
        subst d8
        have d9 : b9 = true := hd ⟨9, .phase⟩ (by simp) rfl
        subst d9
        obtain rfl := cd10.out rfl
        obtain rfl := cd11.out rfl
        obtain rfl := cd0.out rfl
        obtain rfl := cd1.out rfl
        obtain rfl := cd2.out rfl
        obtain rfl := cd3.out rfl
        obtain rfl := cd4.out rfl
        obtain rfl := cd5.out rfl
        obtain rfl := cd6.out rfl
        obtain rfl := cd7.out rfl
        obtain rfl := cd8.out rfl
        obtain rfl := cd9.out rfl
        clear hf hd
        try simp only [List.setIfInBounds_toArray, List.set_cons_zero, List.set_cons_succ]
        intro K hK
        rw [if_pos (by rfl)]
        go_simp
        exact hK.out _ _ ⟨true, true, true, true, true, true, true, true, true, true, true, true, true, .agg #[.string (bsOf l), .slice co cn cc, .int .i64 (ky : Nat), .bool only, .slice ro rn rc], .slice (some ⟨rb, roff, none⟩) n c, .pointer (some ⟨p, 0, none⟩), .pointer (some ⟨p, 2, none⟩), .int .i64 (ky : Nat), .pointer (some ⟨rb, roff + ky * 3, none⟩), .agg #[.int .i64 k, .int .i64 m, .string s], .tuple #[.slice xa xn xc, .bool tk], .tuple #[.slice xa xn xc, .bool tk], .slice xa xn xc, .bool tk, .slice xa xn xc, (.bool tk), xa, xn, xc, (by simp only [Act.put, List.setIfInBounds_toArray, List.set_cons_zero, List.set_cons_succ]), (by simp only [Act.put, List.setIfInBounds_toArray, List.set_cons_zero, List.set_cons_succ]), hb, (fun _ => rfl), (fun _ => rfl), (fun _ => rfl), (fun _ => rfl), (fun _ => rfl), (fun _ => rfl), (fun _ => rfl), (fun _ => rfl), (fun _ => rfl), (fun _ => rfl), (fun _ => rfl), (fun _ => rfl), (fun _ => rfl), (fun _ => rfl), (fun _ => rfl), (fun _ => rfl)⟩
    · rintro act V ⟨b0, b1, b2, b3, b4, b5, b6, b7, b8, b9, b10, b11, b12, x20, x21, x22, x23, x24, x25, x26, x27, x19, x28, x29, x7, x8, xa, xn, xc, hL, rfl, hb, cd0, cd1, cd2, cd3, cd4, cd5, cd6, cd7, cd8, cd9, cd10, cd11, cd12, w_8_7, w_9_7, w_11_7⟩
      have hL' : [true, true, true, true, true, true, true, true, true, true, true, true, true] = [b0, b1, b2, b3, b4, b5, b6, b7, b8, b9, b10, b11, b12] := congrArg Array.toList hL
      simp only [List.cons.injEq, and_true] at hL'
      obtain ⟨rfl, rfl, rfl, rfl, rfl, rfl, rfl, rfl, rfl, rfl, rfl, rfl, rfl⟩ := hL'
      obtain rfl := cd0.out rfl
      obtain rfl := cd1.out rfl
      obtain rfl := cd2.out rfl
      obtain rfl := cd3.out rfl
      obtain rfl := cd4.out rfl
      obtain rfl := cd5.out rfl
      obtain rfl := cd6.out rfl
      obtain rfl := cd7.out rfl
      obtain rfl := cd8.out rfl
      obtain rfl := cd9.out rfl
      obtain rfl := cd10.out rfl
      obtain rfl := cd11.out rfl
      obtain rfl := cd12.out rfl
      clear hL cd0 cd1 cd2 cd3 cd4 cd5 cd6 cd7 cd8 cd9 cd10 cd11 cd12 w_8_7 w_9_7 w_11_7
      simp only [List.setIfInBounds_toArray, List.set_cons_zero, List.set_cons_succ]
      have BV1 : Below w1.heap.size w1 V := (Below.refl _ _).drew.trans hb
      have BV := B1.trans (BV1.mono B1.size)
      have hTV := hT1.past BV1
      have hRV := hR1.past BV1
      have hRVh := Lib.hid (show V.heap[r]? = some (.cells (tbC [] none 0 0 0 false none 0 0) 48 (0, 0)) from hRV)
      clear hb t0 t1 t2 t3 t4 v0 v1 v2 HGt
      obtain ⟨t0, t1, t2, t3, t4⟩ := tb_cells hTV
      cases tk with
      | true =>
        have HE : Hid (putE cs ky rv rs = 7) := HPut.out.1
        have HRs : Hid (putR cs ky rv rs = rs) := by
          show _ = _
          unfold putR
          rw [HE.out]
          rfl
        go_wp2_with ((with_reducible refine wpList_store_blk (o := ⟨none, _, _, _, _, _⟩) rfl 48 (.tmp 4) (.tmp 31) rfl r _ (tbC l co cn cc (ky : Nat) only ro rn rc) ?_ ?_ _ hRVh 5 szRT (tbC_size ..) (tbC_size ..) (tbC_all ..) ?_); (rfl); (rfl); (intro w6 h6 g6))
        have hR6 : Bk w6 r (tbC l co cn cc (ky : Nat) only ro rn rc) 48 := h6.out
        obtain ⟨r0, r1, r2, r3, r4⟩ := tb_cells hR6
        refine bodyPost_ret (v := .tuple #[tbV l co cn cc (ky : Nat) only ro rn rc, .int .i64 7]) (by simp [results, Try.results21, go_sem, tbV, r0, r1, r2, r3, r4]) rfl ?_
        rw [HE.out, HRs.out]
        have BE : Below w.heap.size w V := BV
        have BF : Below w.heap.size w w6 := BE.grown g6 BE.size (fun z hz => by cases hz; exact hwr)
        exact ⟨ro, rn, rc, rfl, h.past BF, BF⟩
      | false =>
        by_cases h200 : 200 ≤ rn
        · have h2i : (200 : Int) ≤ (rn : Int) := by omega
          have HE : Hid (putE cs ky rv rs = 4) := by
            have := HPut.out.1
            rw [if_pos h200] at this
            exact this
          have HRs : Hid (putR cs ky rv rs = rs) := by
            show _ = _
            unfold putR
            rw [HE.out]
            rfl
          go_wp2_with ((with_reducible refine wpList_store_blk (o := ⟨none, _, _, _, _, _⟩) rfl 48 (.tmp 4) (.tmp 36) rfl r _ (tbC l co cn cc (ky : Nat) only ro rn rc) ?_ ?_ _ hRVh 5 szRT (tbC_size ..) (tbC_size ..) (tbC_all ..) ?_); (rfl); (rfl); (intro w6 h6 g6))
          have hR6 : Bk w6 r (tbC l co cn cc (ky : Nat) only ro rn rc) 48 := h6.out
          obtain ⟨r0, r1, r2, r3, r4⟩ := tb_cells hR6
          refine bodyPost_ret (v := .tuple #[tbV l co cn cc (ky : Nat) only ro rn rc, .int .i64 4]) (by simp [results, Try.results21, go_sem, tbV, r0, r1, r2, r3, r4]) rfl ?_
          rw [HE.out, HRs.out]
          have BE : Below w.heap.size w V := BV
          have BF : Below w.heap.size w w6 := BE.grown g6 BE.size (fun z hz => by cases hz; exact hwr)
          exact ⟨ro, rn, rc, rfl, h.past BF, BF⟩
        · have h2i : ¬ ((200 : Int) ≤ (rn : Int)) := by omega
          have HE : Hid (putE cs ky rv rs = 0) := by
            have := HPut.out.1
            rw [if_neg h200] at this
            exact this
          have HRs : Hid (putR cs ky rv rs = rs.take N ++ rv :: rs.drop N) := by
            show _ = _
            unfold putR
            rw [HE.out]
            exact HPut.out.2
          have HAt := fun (w' : World) (hb : Below V.heap.size V.drew w') => HAt0.out w' (BV.trans (((Below.refl _ _).drew.trans hb).mono BV.size))
          have hrbB := Nat.lt_of_lt_of_le hrb0 BV.size
          have v0 := (BV.cell hrb0).trans y0
          have v1 := (BV.cell hrb0).trans y1
          have v2 := (BV.cell hrb0).trans y2
          have hpB := hTV.lt
          have hB0 : V.heap.size ≤ V.heap.size := Nat.le_refl _
          go_upto_region 9 with fail
          refine region_inv (RPut9 V.heap.size p l co cn cc ky only ro rn rc rb roff n c k m s N) (by kernel_rfl) (by kernel_rfl) ?_ ?_ ?_
          · exact ⟨false, false, false, false, false, false, false, false, false, undef, undef, undef, undef, undef, undef, undef, undef, undef, rfl, (by simp only [Act.put, List.setIfInBounds_toArray, List.set_cons_zero, List.set_cons_succ]), Below.refl _ _, (fun h => by cases h), (fun h => by cases h), (fun h => by cases h), (fun h => by cases h), (fun h => by cases h), (fun h => by cases h), (fun h => by cases h), (fun h => by cases h), (fun h => by cases h)⟩
          · refine ⟨?_, ?_, ?_, ?_, ?_, ?_, ?_, ?_, ?_, trivial⟩
            · rintro L a w ⟨b0, b1, b2, b3, b4, b5, b6, b7, b8, x37, x38, x39, x40, x41, x42, x43, x44, x9, rfl, rfl, hb, cd0, cd1, cd2, cd3, cd4, cd5, cd6, cd7, cd8⟩ hf hd
              have hf' : b0 = false := hf
              subst hf'
              clear hf hd
              try simp only [List.setIfInBounds_toArray, List.set_cons_zero, List.set_cons_succ]
              have z0 := (hb.cell hpB).trans t0
              have z1 := (hb.cell hpB).trans t1
              have z2 := (hb.cell hpB).trans t2
              have z3 := (hb.cell hpB).trans t3
              have z4 := (hb.cell hpB).trans t4
              intro K hK
              rw [if_pos (by rfl)]
              go_simp
              exact hK.out _ _ ⟨true, b1, b2, b3, b4, b5, b6, b7, b8, (.agg #[.string (bsOf l), .slice co cn cc, .int .i64 (ky : Nat), .bool only, .slice ro rn rc]), x38, x39, x40, x41, x42, x43, x44, x9, (by simp only [Act.put, List.setIfInBounds_toArray, List.set_cons_zero, List.set_cons_succ]), (by simp only [Act.put, List.setIfInBounds_toArray, List.set_cons_zero, List.set_cons_succ]), hb, (fun _ => rfl), cd1, cd2, cd3, cd4, cd5, cd6, cd7, cd8⟩
            · rintro L a w ⟨b0, b1, b2, b3, b4, b5, b6, b7, b8, x37, x38, x39, x40, x41, x42, x43, x44, x9, rfl, rfl, hb, cd0, cd1, cd2, cd3, cd4, cd5, cd6, cd7, cd8⟩ hf hd
              have hf' : b1 = false := hf
              subst hf'
              clear hf hd
              try simp only [List.setIfInBounds_toArray, List.set_cons_zero, List.set_cons_succ]
              intro K hK
              rw [if_pos (by rfl)]
              go_simp
              exact hK.out _ _ ⟨b0, true, b2, b3, b4, b5, b6, b7, b8, x37, (.slice (some ⟨rb, roff, none⟩) n c), x39, x40, x41, x42, x43, x44, x9, (by simp only [Act.put, List.setIfInBounds_toArray, List.set_cons_zero, List.set_cons_succ]), (by simp only [Act.put, List.setIfInBounds_toArray, List.set_cons_zero, List.set_cons_succ]), hb, cd0, (fun _ => rfl), cd2, cd3, cd4, cd5, cd6, cd7, cd8⟩
            · rintro L a w ⟨b0, b1, b2, b3, b4, b5, b6, b7, b8, x37, x38, x39, x40, x41, x42, x43, x44, x9, rfl, rfl, hb, cd0, cd1, cd2, cd3, cd4, cd5, cd6, cd7, cd8⟩ hf hd
              have hf' : b2 = false := hf
              subst hf'
              clear hf hd
              try simp only [List.setIfInBounds_toArray, List.set_cons_zero, List.set_cons_succ]
              intro K hK
              rw [if_pos (by rfl)]
              go_simp
              exact hK.out _ _ ⟨b0, b1, true, b3, b4, b5, b6, b7, b8, x37, x38, (.pointer (some ⟨p, 0, none⟩)), x40, x41, x42, x43, x44, x9, (by simp only [Act.put, List.setIfInBounds_toArray, List.set_cons_zero, List.set_cons_succ]), (by simp only [Act.put, List.setIfInBounds_toArray, List.set_cons_zero, List.set_cons_succ]), hb, cd0, cd1, (fun _ => rfl), cd3, cd4, cd5, cd6, cd7, cd8⟩
            · rintro L a w ⟨b0, b1, b2, b3, b4, b5, b6, b7, b8, x37, x38, x39, x40, x41, x42, x43, x44, x9, rfl, rfl, hb, cd0, cd1, cd2, cd3, cd4, cd5, cd6, cd7, cd8⟩ hf hd
              have hf' : b3 = false := hf
              subst hf'
              have d2 : b2 = true := hd ⟨2, .data⟩ (by simp) rfl
              subst d2
              obtain rfl := cd2.out rfl
              clear hf hd
              try simp only [List.setIfInBounds_toArray, List.set_cons_zero, List.set_cons_succ]
              intro K hK
              rw [if_pos (by rfl)]
              go_simp
              exact hK.out _ _ ⟨b0, b1, true, true, b4, b5, b6, b7, b8, x37, x38, .pointer (some ⟨p, 0, none⟩), (.pointer (some ⟨p, 2, none⟩)), x41, x42, x43, x44, x9, (by simp only [Act.put, List.setIfInBounds_toArray, List.set_cons_zero, List.set_cons_succ]), (by simp only [Act.put, List.setIfInBounds_toArray, List.set_cons_zero, List.set_cons_succ]), hb, cd0, cd1, (fun _ => rfl), (fun _ => rfl), cd4, cd5, cd6, cd7, cd8⟩
            · rintro L a w ⟨b0, b1, b2, b3, b4, b5, b6, b7, b8, x37, x38, x39, x40, x41, x42, x43, x44, x9, rfl, rfl, hb, cd0, cd1, cd2, cd3, cd4, cd5, cd6, cd7, cd8⟩ hf hd
              have hf' : b4 = false := hf
              subst hf'
              have d3 : b3 = true := hd ⟨3, .data⟩ (by simp) rfl
              subst d3
              obtain rfl := cd3.out rfl
              clear hf hd
              try simp only [List.setIfInBounds_toArray, List.set_cons_zero, List.set_cons_succ]
              have z0 := (hb.cell hpB).trans t2
              intro K hK
              rw [if_pos (by rfl)]
              go_simp
              exact hK.out _ _ ⟨b0, b1, b2, true, true, b5, b6, b7, b8, x37, x38, x39, .pointer (some ⟨p, 2, none⟩), (.int .i64 (ky : Nat)), x42, x43, x44, x9, (by simp only [Act.put, List.setIfInBounds_toArray, List.set_cons_zero, List.set_cons_succ]), (by simp only [Act.put, List.setIfInBounds_toArray, List.set_cons_zero, List.set_cons_succ]), hb, cd0, cd1, cd2, (fun _ => rfl), (fun _ => rfl), cd5, cd6, cd7, cd8⟩
            · rintro L a w ⟨b0, b1, b2, b3, b4, b5, b6, b7, b8, x37, x38, x39, x40, x41, x42, x43, x44, x9, rfl, rfl, hb, cd0, cd1, cd2, cd3, cd4, cd5, cd6, cd7, cd8⟩ hf hd
              have hf' : b5 = false := hf
              subst hf'
              have d1 : b1 = true := hd ⟨1, .data⟩ (by simp) rfl
              subst d1
              have d4 : b4 = true := hd ⟨4, .data⟩ (by simp) rfl
              subst d4
              obtain rfl := cd1.out rfl
              obtain rfl := cd4.out rfl
              clear hf hd
              try simp only [List.setIfInBounds_toArray, List.set_cons_zero, List.set_cons_succ]
              intro K hK
              rw [if_pos (by rfl)]
              go_simp
              exact hK.out _ _ ⟨b0, true, b2, b3, true, true, b6, b7, b8, x37, .slice (some ⟨rb, roff, none⟩) n c, x39, x40, .int .i64 (ky : Nat), (.pointer (some ⟨rb, roff + ky * 3, none⟩)), x43, x44, x9, (by simp only [Act.put, List.setIfInBounds_toArray, List.set_cons_zero, List.set_cons_succ]), (by simp only [Act.put, List.setIfInBounds_toArray, List.set_cons_zero, List.set_cons_succ]), hb, cd0, (fun _ => rfl), cd2, cd3, (fun _ => rfl), (fun _ => rfl), cd6, cd7, cd8⟩
            · rintro L a w ⟨b0, b1, b2, b3, b4, b5, b6, b7, b8, x37, x38, x39, x40, x41, x42, x43, x44, x9, rfl, rfl, hb, cd0, cd1, cd2, cd3, cd4, cd5, cd6, cd7, cd8⟩ hf hd
              have hf' : b6 = false := hf
              subst hf'
              have d5 : b5 = true := hd ⟨5, .data⟩ (by simp) rfl
              subst d5
              obtain rfl := cd5.out rfl
              clear hf hd
              try simp only [List.setIfInBounds_toArray, List.set_cons_zero, List.set_cons_succ]
              have z0 := (hb.cell hrbB).trans v0
              have z1 := (hb.cell hrbB).trans v1
              have z2 := (hb.cell hrbB).trans v2
              intro K hK
              rw [if_pos (by rfl)]
              go_simp
              exact hK.out _ _ ⟨b0, b1, b2, b3, b4, true, true, b7, b8, x37, x38, x39, x40, x41, .pointer (some ⟨rb, roff + ky * 3, none⟩), (.agg #[.int .i64 k, .int .i64 m, .string s]), x44, x9, (by simp only [Act.put, List.setIfInBounds_toArray, List.set_cons_zero, List.set_cons_succ]), (by simp only [Act.put, List.setIfInBounds_toArray, List.set_cons_zero, List.set_cons_succ]), hb, cd0, cd1, cd2, cd3, cd4, (fun _ => rfl), (fun _ => rfl), cd7, cd8⟩
            · rintro L a w ⟨b0, b1, b2, b3, b4, b5, b6, b7, b8, x37, x38, x39, x40, x41, x42, x43, x44, x9, rfl, rfl, hb, cd0, cd1, cd2, cd3, cd4, cd5, cd6, cd7, cd8⟩ hf hd
              have hf' : b7 = false := hf
              subst hf'
              have d0 : b0 = true := hd ⟨0, .data⟩ (by simp) rfl
              subst d0
              have d6 : b6 = true := hd ⟨6, .data⟩ (by simp) rfl
              subst d6
              obtain rfl := cd0.out rfl
              obtain rfl := cd6.out rfl
              clear hf hd
              try simp only [List.setIfInBounds_toArray, List.set_cons_zero, List.set_cons_succ]
              intro K hK
              rw [if_pos (by rfl)]
              go_simp
              go_at_call 82
              refine (HAt _ hb).mono ?_
              rintro e w' ⟨rfl, bx⟩
              exact hK.out _ _ ⟨true, b1, b2, b3, b4, b5, true, true, b8, .agg #[.string (bsOf l), .slice co cn cc, .int .i64 (ky : Nat), .bool only, .slice ro rn rc], x38, x39, x40, x41, x42, .agg #[.int .i64 k, .int .i64 m, .string s], (.int .i64 (N : Nat)), x9, (by simp only [Act.put, List.setIfInBounds_toArray, List.set_cons_zero, List.set_cons_succ]), (by simp only [Act.put, List.setIfInBounds_toArray, List.set_cons_zero, List.set_cons_succ]), hb.trans (bx.mono (Nat.le_trans hB0 hb.size)), (fun _ => rfl), cd1, cd2, cd3, cd4, cd5, (fun _ => rfl), (fun _ => rfl), cd8⟩
            · rintro L a w ⟨b0, b1, b2, b3, b4, b5, b6, b7, b8, x37, x38, x39, x40, x41, x42, x43, x44, x9, rfl, rfl, hb, cd0, cd1, cd2, cd3, cd4, cd5, cd6, cd7, cd8⟩ hf hd
              have hf' : b8 = false := hf
              subst hf'
              have d7 : b7 = true := hd ⟨7, .data⟩ (by simp) rfl
              subst d7
              have d0 : b0 = true := hd ⟨0, .phase⟩ (by simp) rfl
              subst d0
              have d1 : b1 = true := hd ⟨1, .phase⟩ (by simp) rfl
              subst d1
              have d2 : b2 = true := hd ⟨2, .phase⟩ (by simp) rfl
              subst d2
              have d3 : b3 = true := hd ⟨3, .phase⟩ (by simp) rfl
              subst d3
              have d4 : b4 = true := hd ⟨4, .phase⟩ (by simp) rfl
              subst d4
              have d5 : b5 = true := hd ⟨5, .phase⟩ (by simp) rfl
              subst d5
              have d6 : b6 = true := hd ⟨6, .phase⟩ (by simp) rfl
              subst d6
              obtain rfl := cd7.out rfl
              obtain rfl := cd0.out rfl
              obtain rfl := cd1.out rfl
              obtain rfl := cd2.out rfl
              obtain rfl := cd3.out rfl
              obtain rfl := cd4.out rfl
              obtain rfl := cd5.out rfl
              obtain rfl := cd6.out rfl
              clear hf hd
              try simp only [List.setIfInBounds_toArray, List.set_cons_zero, List.set_cons_succ]
              intro K hK
              rw [if_pos (by rfl)]
              go_simp
              exact hK.out _ _ ⟨true, true, true, true, true, true, true, true, true, .agg #[.string (bsOf l), .slice co cn cc, .int .i64 (ky : Nat), .bool only, .slice ro rn rc], .slice (some ⟨rb, roff, none⟩) n c, .pointer (some ⟨p, 0, none⟩), .pointer (some ⟨p, 2, none⟩), .int .i64 (ky : Nat), .pointer (some ⟨rb, roff + ky * 3, none⟩), .agg #[.int .i64 k, .int .i64 m, .string s], .int .i64 (N : Nat), (.int .i64 (N : Nat)), (by simp only [Act.put, List.setIfInBounds_toArray, List.set_cons_zero, List.set_cons_succ]), (by simp only [Act.put, List.setIfInBounds_toArray, List.set_cons_zero, List.set_cons_succ]), hb, (fun _ => rfl), (fun _ => rfl), (fun _ => rfl), (fun _ => rfl), (fun _ => rfl), (fun _ => rfl), (fun _ => rfl), (fun _ => rfl), (fun _ => rfl)⟩
          · rintro act X ⟨b0, b1, b2, b3, b4, b5, b6, b7, b8, x37, x38, x39, x40, x41, x42, x43, x44, x9, hL, rfl, hb, cd0, cd1, cd2, cd3, cd4, cd5, cd6, cd7, cd8⟩
            have hL' : [true, true, true, true, true, true, true, true, true] = [b0, b1, b2, b3, b4, b5, b6, b7, b8] := congrArg Array.toList hL
            simp only [List.cons.injEq, and_true] at hL'
            obtain ⟨rfl, rfl, rfl, rfl, rfl, rfl, rfl, rfl, rfl⟩ := hL'
            obtain rfl := cd0.out rfl
            obtain rfl := cd1.out rfl
            obtain rfl := cd2.out rfl
            obtain rfl := cd3.out rfl
            obtain rfl := cd4.out rfl
            obtain rfl := cd5.out rfl
            obtain rfl := cd6.out rfl
            obtain rfl := cd7.out rfl
            obtain rfl := cd8.out rfl
            clear hL cd0 cd1 cd2 cd3 cd4 cd5 cd6 cd7 cd8
            simp only [List.setIfInBounds_toArray, List.set_cons_zero, List.set_cons_succ]
            have BV9 : Below V.heap.size V X := (Below.refl _ _).drew.trans hb
            have BX := BV.trans (BV9.mono BV.size)
            have hTX := hTV.past BV9
            have hRX := hRV.past BV9
            clear hb t0 t1 t2 t3 t4 v0 v1 v2 HAt
            obtain ⟨t0, t1, t2, t3, t4⟩ := tb_cells hTX
            have f4 : X.frozen? ⟨p, 4, none⟩ = false := free_blk hTX
            have hpX := hTX.lt
            obtain ⟨hs, hhs, hRd, hfr, hfrH⟩ := id h
            have hhX := hhs.past BX
            have hvX := hv.past BX
            have hle := h.le'
            have hNi : (N : Int) ≤ (rc : Int) := by omega
            have hNi2 : (N : Int) ≤ (rn : Int) := by omega
            have hri : (rn : Int) ≤ (rc : Int) := by omega
            have o0 : OwnR EH (X.alloc (.cells #[] 49)) 49 X.heap.size 0 0 [] := own_emptyR X _
            have hs1 := ((isR_front hhX N hNr).alloc (.cells #[] 49)).src Try.underlying45
            have hl1 : (hs.take N).length = N := by rw [List.length_take]; have := hhs.len; omega
            go_upto_region 11 with (at_builtin; refine wpList_append_or rfl _ _ 45 45 rfl 49 rowTyH X.heap.size 0 0 [] rfl o0 _ rfl N (hs.take N) hs1 hl1 N (Nat.zero_add N) (hs.take N) rfl (by omega) ?_; intro g1 c1 w4 o1 p1 q1)
            have b4 := below_puts (Below.refl _ X) p1 (Nat.le_refl _)
            have q1' := ge_new q1
            have hv4 := hvX.past b4
            have o02 : OwnR EV (w4.alloc (.cells #[] 55)) 55 w4.heap.size 0 0 [] := own_emptyR w4 _
            have hs2 := (hv4.alloc (.cells #[] 55)).src Try.underlying49
            clear t0 t1 t2 t3 t4 o0 hs1
            go_upto_region 12 with (first
              | (at_builtin; refine wpList_append_or rfl _ _ 49 49 rfl 55 rowTyV w4.heap.size 0 0 [] rfl o02 _ rfl n rv hs2 hvn n (Nat.zero_add n) rv rfl (by omega) ?_; intro g2 c2 w5 o2 p2 q2; have b5 := below_puts (Below.refl _ w4) p2 (Nat.le_refl _); have q2' := ge_new q2; have hLit := lit_one w5 49 ⟨some ⟨g2, 0, none⟩, n, c2⟩)
              | (at_builtin; refine wpList_append_or rfl _ _ 45 45 rfl 49 rowTyH g1 N c1 (hs.take N) rfl ((o1.past b5).alloc _) _ rfl 1 [⟨some ⟨g2, 0, none⟩, n, c2⟩] (hLit.src Try.underlying45) rfl (N + 1) rfl (hs.take N ++ [⟨some ⟨g2, 0, none⟩, n, c2⟩]) rfl (by omega) ?_; intro g3 c3 w6 o3 p3 q3))
            have b6 : Below X.heap.size w5 w6 := ((Below.refl _ _).alloc (Nat.le_trans b4.size b5.size) _).trans (p3.below q1' (by rw [World.size_alloc]; have := b4.size; have := b5.size; omega))
            have b56 : Below w5.heap.size w5 w6 → True := fun _ => trivial
            clear b56
            have q3' : X.heap.size ≤ g3 := by
              rcases q3 with q | q
              · rw [q]; exact q1'
              · rw [World.size_alloc] at q; have := b4.size; have := b5.size; omega
            have o26 : OwnR EV w6 55 g2 n c2 rv := (o2.alloc _).puts p3 (by intro e; have := o1.lt; omega)
            have bX6 : Below X.heap.size X w6 := (b4.trans (b5.mono b4.size)).trans b6
            have hT6 := hTX.past bX6
            have hR6 := hRX.past bX6
            have hh6 : IsR EH w6 (if rc = N then ro else Option.map (fun x => x.add N) ro) (rn - N) (rc - N) (hs.drop N) := by
              have := (hhX.past bX6).part N rn rc hNr (Nat.le_refl _) hle (Nat.le_refl _)
              rw [List.take_of_length_le (by rw [List.length_drop]; have := hhs.len; omega)] at this
              simpa [EH] using this
            have hl6 : (hs.drop N).length = rn - N := by rw [List.length_drop]; have := hhs.len; omega
            have hs6 := hh6.src (P := Try.prog) (t := 45) Try.underlying45
            obtain ⟨t0, t1, t2, t3, t4⟩ := tb_cells hT6
            have f4 : w6.frozen? ⟨p, 4, none⟩ = false := free_blk hT6
            have hN1 : N + 1 + (rn - N) = rn + 1 := by omega
            obtain ⟨R2, hR2⟩ : ∃ R2, rn + 1 = R2 := ⟨_, rfl⟩
            rw [hR2] at hN1
            have hpW6 := hT6.lt
            go_upto_region 13 with (at_builtin; refine wpList_append_or rfl _ _ 45 45 rfl 49 rowTyH g3 (N + 1) c3 _ rfl o3 _ rfl (rn - N) (hs.drop N) hs6 hl6 R2 hN1 _ rfl (by omega) ?_; intro g4 c4 w7 o4 p4 q4; have b7 : Below X.heap.size w6 w7 := p4.below q3' bX6.size; have hT7 := hTX.past (bX6.trans b7); have hpp : p < X.heap.size := hTX.lt; obtain ⟨t0, t1, t2, t3, t4⟩ := tb_cells hT7; have f4 : w7.frozen? ⟨p, 4, none⟩ = false := free_blk hT7; have q4' : X.heap.size ≤ g4 := (by rcases q4 with q | q; rw [q]; exact q3'; have := bX6.size; omega))
            all_goals
              have bX7 := bX6.trans b7
              have o27 : OwnR EV w7 55 g2 n c2 rv := o26.puts p4 (by intro e; rcases q3 with q | q; (rw [q] at e; have := o1.lt; omega); (rw [World.size_alloc] at q; have := o2.lt; omega))
              have hT8 : Bk (w7.setCell ⟨p, 4, none⟩ (.slice (some ⟨g4, 0, none⟩) R2 c4)) p (tbC l co cn cc (ky : Nat) only (some ⟨g4, 0, none⟩) R2 c4) 48 := heap_setCell_same (i := 4) hT7
              have hR8 : Bk (w7.setCell ⟨p, 4, none⟩ (.slice (some ⟨g4, 0, none⟩) R2 c4)) r (tbC [] none 0 0 0 false none 0 0) 48 := (heap_setCell_other _ _ r _ (fun e => hrp e.symm)).trans (hRX.past bX7)
              have B8 : Below p w (w7.setCell ⟨p, 4, none⟩ (.slice (some ⟨g4, 0, none⟩) R2 c4)) := by
                have := (BX.trans (bX7.mono BX.size))
                rw [hwp.out] at this
                exact this.setCell (p := ⟨p, 4, none⟩) (Nat.le_refl _) _
              have o48 : OwnR EH (w7.setCell ⟨p, 4, none⟩ (.slice (some ⟨g4, 0, none⟩) R2 c4)) 49 g4 R2 c4 (hs.take N ++ [⟨some ⟨g2, 0, none⟩, n, c2⟩] ++ hs.drop N) := o4.kept (heap_setCell_other _ _ g4 _ (fun e => by simp only at e; omega))
              have o28 : OwnR EV (w7.setCell ⟨p, 4, none⟩ (.slice (some ⟨g4, 0, none⟩) R2 c4)) 55 g2 n c2 rv := o27.kept (heap_setCell_other _ _ g2 _ (fun e => by simp only at e; have := b4.size; omega))
              generalize w7.setCell ⟨p, 4, none⟩ (.slice (some ⟨g4, 0, none⟩) R2 c4) = w8 at hT8 hR8 B8 o48 o28 ⊢
              clear t0 t1 t2 t3 t4
              obtain ⟨t0, t1, t2, t3, t4⟩ := tb_cells hT8
              have hR8h := Lib.hid (show w8.heap[r]? = some (.cells (tbC [] none 0 0 0 false none 0 0) 48 (0, 0)) from hR8)
              go_wp2_with ((with_reducible refine wpList_store_blk (o := ⟨none, _, _, _, _, _⟩) rfl 48 (.tmp 4) (.tmp 64) rfl r _ (tbC l co cn cc (ky : Nat) only (some ⟨g4, 0, none⟩) R2 c4) ?_ ?_ _ hR8h 5 szRT (tbC_size ..) (tbC_size ..) (tbC_all ..) ?_); (rfl); (rfl); (intro w9 h9 g9))
              all_goals
                have hR9 : Bk w9 r (tbC l co cn cc (ky : Nat) only (some ⟨g4, 0, none⟩) R2 c4) 48 := h9.out
                obtain ⟨r0, r1, r2, r3, r4⟩ := tb_cells hR9
                refine bodyPost_ret (v := .tuple #[tbV l co cn cc (ky : Nat) only (some ⟨g4, 0, none⟩) R2 c4, .int .i64 0]) (by simp [results, Try.results21, go_sem, tbV, r0, r1, r2, r3, r4]) rfl ?_
                rw [HE.out, HRs.out]
                have hrX : r < X.heap.size := hRX.lt
                have hpw8 : p ≤ w8.heap.size := Nat.le_of_lt hT8.lt
                have BE : Below w.heap.size w w9 := by rw [hwp.out]; exact B8.grown g9 hpw8 (fun z hz => by cases hz; exact Nat.le_of_lt (hpr2))
                have o29 := o28.grown g9 (fun e => by have := Option.some.inj e; have := b4.size; omega)
                have hRd9 := hRd.past BE
                refine ⟨some ⟨g4, 0, none⟩, R2, c4, rfl, ⟨_, (o48.grown g9 (fun e => by have := Option.some.inj e; omega)).isR, ?_, (fun a ha => ?_ : Frm B _), (fun y hy a ha => ?_ : FrmH B _)⟩, BE⟩
                · have h1 := ((hRd9.take N).append (Rd.one (x := ⟨some ⟨g2, 0, none⟩, n, c2⟩) o29.isR)).append (hRd9.drop N)
                  simpa using h1
                · cases ha
                  show B ≤ g4
                  have := BX.size
                  omega
                · rcases List.mem_append.1 hy with hy | hy
                  · rcases List.mem_append.1 hy with hy | hy
                    · exact hfrH y (List.mem_of_mem_take hy) a ha
                    · obtain rfl := List.mem_singleton.1 hy
                      cases ha
                      show B ≤ g2
                      have := BX.size
                      have := b4.size
                      omega
                  · exact hfrH y (List.mem_of_mem_drop hy) a ha
  · have en : (E0 != 0) = true := by simp [e0]
    have eb : (E0 == 0) = false := by simp [e0]
    obtain ⟨HE1, HRs1⟩ := HPEh.out E0 e0 rfl
    have HE := Lib.hid HE1
    have HRs := Lib.hid HRs1
    clear HE1 HRs1
    go_wp2_with ((with_reducible refine wpList_store_blk (o := ⟨none, _, _, _, _, _⟩) rfl 48 (.tmp 4) (.tmp 17) rfl r _ (tbC l co cn cc (ky : Nat) only ro rn rc) ?_ ?_ _ hR1h 5 szRT (tbC_size ..) (tbC_size ..) (tbC_all ..) ?_); (rfl); (rfl); (intro w6 h6 g6))
    have hR6 : Bk w6 r (tbC l co cn cc (ky : Nat) only ro rn rc) 48 := h6.out
    obtain ⟨r0, r1, r2, r3, r4⟩ := tb_cells hR6
    refine bodyPost_ret (v := .tuple #[tbV l co cn cc (ky : Nat) only ro rn rc, .int .i64 E0]) (by simp [results, Try.results21, go_sem, tbV, r0, r1, r2, r3, r4]) rfl ?_
    rw [HE.out, HRs.out]
    have BE : Below w.heap.size w w1 := B1
    have BF : Below w.heap.size w w6 := BE.grown g6 BE.size (fun z hz => by cases hz; exact hwr)
    exact ⟨ro, rn, rc, rfl, h.past BF, BF⟩
end Go.Proofs.Ytllijeciodmckaa
