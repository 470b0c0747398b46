/-
  row.Fits.
-/
import Derived.Test.YtllijeciodmckaaV
import Derived.Test.YtllijeciodmckaaCo
import Derived.Test.YtllijeciodmckaaVAt
import Derived.Deep.CutRange
import Derived.Test.YtllijeciodmckaaInv
namespace Go.Proofs.Ytllijeciodmckaa
open Go.RowKit
set_option linter.unusedSimpArgs false

/-- What is wrong with a value in a column; with a row in columns. -/
def fitE (c : Co) (v : V) : Int := if chkV v.k v.n v.s = 0 then (if v.k = 0 then (if c.null = true then 0 else 13) else if v.k = c.kind then 0 else 3) else chkV v.k v.n v.s
def fitsL : List Co → List V → Int
  | c :: cs, v :: r => if fitE c v = 0 then fitsL cs r else fitE c v
  | _, _ => 0
def fitsE (cs : List Co) (r : List V) : Int := if r.length = cs.length then fitsL cs r else 1
theorem fitsL_drop (cs : List Co) (r : List V) (j : Nat) (c : Co) (v : V) (hc : cs[j]? = some c) (hv : r[j]? = some v) : fitsL (cs.drop j) (r.drop j) = if fitE c v = 0 then fitsL (cs.drop (j + 1)) (r.drop (j + 1)) else fitE c v := by
  obtain ⟨h1, rfl⟩ := List.getElem?_eq_some_iff.1 hc
  obtain ⟨h2, rfl⟩ := List.getElem?_eq_some_iff.1 hv
  rw [List.drop_eq_getElem_cons h1, List.drop_eq_getElem_cons h2, fitsL]
theorem CoB.new (w : World) (c : Co) : CoB (w.alloc (.cells #[.string (bsOf c.name), .int .i64 c.kind, .bool c.null] 156)) w.heap.size c := heap_alloc_new w _
set_option maxRecDepth 100000 in
set_option maxHeartbeats 1000000 in
theorem fitsCol_any (nm : List UInt8) (kd : Int) (nl : Bool) (k n : Int) (s : ByteArray) (w : World) :
    Calls Try.prog 131 #[.agg #[.string (bsOf nm), .int .i64 kd, .bool nl], vv k n s] w fun e w' => e = .returned (.int .i64 (fitE ⟨nm, kd, nl⟩ ⟨k, n, s⟩)) ∧ Below w.heap.size w w' := by
  have hX : CoB ((w.alloc (.cells #[.string (bsOf nm), .int .i64 kd, .bool nl] 156)).alloc (.cells #[.int .i64 k, .int .i64 n, .string s] 55)) w.heap.size ⟨nm, kd, nl⟩ := (Below.heap_alloc _ _ w.heap.size (by simp)).trans (CoB.new w ⟨nm, kd, nl⟩)
  have hV := VAt.new (w.alloc (.cells #[.string (bsOf nm), .int .i64 kd, .bool nl] 156)) k n s
  have hB : Below w.heap.size w ((w.alloc (.cells #[.string (bsOf nm), .int .i64 kd, .bool nl] 156)).alloc (.cells #[.int .i64 k, .int .i64 n, .string s] 55)) := ((Below.refl _ _).alloc (Nat.le_refl _) _).alloc (by simp) _
  obtain ⟨E, hE⟩ : ∃ E, chkV k n s = E := ⟨_, rfl⟩
  have HC := check_any k n s
  rw [hE] at HC
  have hF : Hid (fitE ⟨nm, kd, nl⟩ ⟨k, n, s⟩ = if E = 0 then (if k = 0 then (if nl = true then 0 else 13) else if k = kd then 0 else 3) else E) := by
    show _ = _
    unfold fitE
    rw [hE]
  clear hE
  rw [World.size_alloc] at hV
  have hQ : ∀ w1, Below ((w.alloc (.cells #[.string (bsOf nm), .int .i64 kd, .bool nl] 156)).alloc (.cells #[.int .i64 k, .int .i64 n, .string s] 55)).heap.size ((w.alloc (.cells #[.string (bsOf nm), .int .i64 kd, .bool nl] 156)).alloc (.cells #[.int .i64 k, .int .i64 n, .string s] 55)) w1 → w1.cell? ⟨w.heap.size, 1, none⟩ = some (.int .i64 kd) ∧ w1.cell? ⟨w.heap.size, 2, none⟩ = some (.bool nl) := fun w1 b1 => by
    have hY : CoB w1 w.heap.size ⟨nm, kd, nl⟩ := hX.past b1
    exact ⟨cell_blk hY rfl, cell_blk hY rfl⟩
  have HQ := Lib.hid hQ
  have HV := Lib.hid hV
  have HB := Lib.hid hB
  clear hX hV hB hQ
  by_cases e0 : E = 0
  · subst e0
    by_cases k0 : k = 0
    · subst k0
      cases nl
      all_goals
        go_enter Try.func131, Try.ntmps131
        go_wp2_with (go_at_call 177; refine (HC _).mono ?_; rintro e w1 ⟨rfl, b1⟩; obtain ⟨z0, z1, z2, -, -, -, -⟩ := HV.out.past b1; obtain ⟨x1, x2⟩ := HQ.out _ b1)
        go_ret
        exact ⟨by rw [hF.out]; rfl, HB.out.trans (b1.mono HB.out.size)⟩
    · by_cases k1 : k = kd
      · subst k1
        have kb : (k == 0) = false := by simp [k0]
        have hF2 : Hid (fitE ⟨nm, k, nl⟩ ⟨k, n, s⟩ = 0) := by
          show _ = _
          rw [hF.out, if_pos rfl, if_neg k0, if_pos rfl]
        clear hF
        go_enter Try.func131, Try.ntmps131
        go_wp2_with (go_at_call 177; refine (HC _).mono ?_; rintro e w1 ⟨rfl, b1⟩; obtain ⟨z0, z1, z2, -, -, -, -⟩ := HV.out.past b1; obtain ⟨x1, x2⟩ := HQ.out _ b1)
        go_ret
        exact ⟨by rw [hF2.out]; rfl, HB.out.trans (b1.mono HB.out.size)⟩
      · have kb : (k == 0) = false := by simp [k0]
        have kd' : (k == kd) = false := by simp [k1]
        have kn : (k != kd) = true := by simp [k1]
        have hF2 : Hid (fitE ⟨nm, kd, nl⟩ ⟨k, n, s⟩ = 3) := by
          show _ = _
          rw [hF.out, if_pos rfl, if_neg k0, if_neg k1]
        clear hF
        go_enter Try.func131, Try.ntmps131
        go_wp2_with (go_at_call 177; refine (HC _).mono ?_; rintro e w1 ⟨rfl, b1⟩; obtain ⟨z0, z1, z2, -, -, -, -⟩ := HV.out.past b1; obtain ⟨x1, x2⟩ := HQ.out _ b1)
        go_ret
        exact ⟨by rw [hF2.out]; rfl, HB.out.trans (b1.mono HB.out.size)⟩
  · have eb : (E == 0) = false := by simp [e0]
    have en : (E != 0) = true := by simp [e0]
    have hF2 : Hid (fitE ⟨nm, kd, nl⟩ ⟨k, n, s⟩ = E) := by
      show _ = _
      rw [hF.out, if_neg e0]
    clear hF
    go_enter Try.func131, Try.ntmps131
    go_wp2_with (go_at_call 177; refine (HC _).mono ?_; rintro e w1 ⟨rfl, b1⟩)
    go_ret
    exact ⟨by rw [hF2.out]; rfl, HB.out.trans (b1.mono HB.out.size)⟩
/-- What stands while the region's operations come up. -/
inductive Fits6 (B : Nat) (p : Nat) (bb : Nat) (of2 : Nat) (n : Nat) (cc : Nat) (j : Nat) (xn : List UInt8) (xk : Int) (xb : Bool) (gv : Nat) (k : Int) (m : Int) (s : ByteArray) (E : Int) (a0 : Act) (w0 : World) (L : Array Bool) (a : Act) (w : World) : Prop
  | mk (b0 b1 b2 b3 b4 b5 b6 b7 : Bool) (x21 x22 x23 x24 x25 x26 x27 x7 : Value) (hL : L = #[b0, b1, b2, b3, b4, b5, b6, b7]) (ha : a = ⟨((((((((a0.tmps.setIfInBounds 21 x21).setIfInBounds 22 x22).setIfInBounds 23 x23).setIfInBounds 24 x24).setIfInBounds 25 x25).setIfInBounds 26 x26).setIfInBounds 27 x27).setIfInBounds 7 x7), a0.defers⟩) (hb : Below B w0 w) (cd0 : Hid (b0 = true → x21 = .pointer (some ⟨p, 1, none⟩))) (cd1 : Hid (b1 = true → x22 = .slice (some ⟨bb, of2, none⟩) n cc)) (cd2 : Hid (b2 = true → x23 = .int .i64 (j : Nat))) (cd3 : Hid (b3 = true → x24 = .pointer (some ⟨bb, of2 + j * 3, none⟩))) (cd4 : Hid (b4 = true → x25 = .agg #[.string (bsOf xn), .int .i64 xk, .bool xb])) (cd5 : Hid (b5 = true → x26 = .agg #[.int .i64 k, .int .i64 m, .string s])) (cd6 : Hid (b6 = true → x27 = .int .i64 E)) (cd7 : Hid (b7 = true → x7 = .int .i64 E)) : Fits6 B p bb of2 n cc j xn xk xb gv k m s E a0 w0 L a w
set_option maxRecDepth 100000 in
set_option maxHeartbeats 1000000 in
theorem fits_any (w : World) (l : List UInt8) (co : Option Addr) (cn cc : Nat) (cs : List Co) (key : Int) (only : Bool) (hc : IsR encCo w co cn cc cs) (ao : Option Addr) (n c : Nat) (r : List V) (h : IsR EV w ao n c r) :
    Calls Try.prog 74 #[scV l co cn cc key only, .slice ao n c] w fun e w' => e = .returned (.int .i64 (fitsE cs r)) ∧ Below w.heap.size w w' := by
  have hln := h.len
  have hcl := hc.len
  have hmx := h.max
  have hle := h.le
  unfold maxLen at hmx
  unfold scV
  have X := ScB.new w l co cn cc key only
  have B := (Below.refl w.heap.size w).alloc (Nat.le_refl _) (.cells #[.string (bsOf l), .slice co cn cc, .int .i64 key, .bool only] 40)
  by_cases hne : n = cn
  · subst hne
    have hF : Hid (fitsE cs r = fitsL cs r) := by
      show _ = _
      unfold fitsE
      rw [if_pos (by omega)]
    go_enter Try.func74, Try.ntmps74
    go_upto_region 1 with fail
    generalize w.alloc (.cells #[.string (bsOf l), .slice co n cc, .int .i64 key, .bool only] 40) = w1 at X B ⊢
    obtain ⟨p, hp⟩ : ∃ p, w.heap.size = p := ⟨_, rfl⟩
    rw [hp] at X
    simp only [hp]
    have HP := Lib.hid hp
    clear hp
    have y1 : w1.cell? ⟨p, 1, none⟩ = some (.slice co n cc) := cell_blk X rfl
    go_wp2_with fail
    go_loopw [16] (fun i wr => ∃ j : Nat, j ≤ n ∧ i = .int .i64 (j : Nat) ∧ Below w1.heap.size w1 wr ∧ Hid (fitsL cs r = fitsL (cs.drop j) (r.drop j))) (fun i _ => n - (intOf i).toNat)
    case atStart => exact ⟨0, by omega, rfl, Below.refl _ _, rfl⟩
    case round =>
      obtain ⟨j, hj, rfl, hB, hf⟩ := hrel
      have y2 : wr.cell? ⟨p, 1, none⟩ = some (.slice co n cc) := cell_blk (X.past hB) rfl
      have hpw : p < wr.heap.size := (X.past hB).lt
      by_cases hlt : j < n
      · have hlti : (j : Int) < (n : Int) := by omega
        obtain ⟨v, hv⟩ : ∃ v, r[j]? = some v := ⟨r[j]'(by omega), List.getElem?_eq_getElem _⟩
        obtain ⟨x, hx⟩ : ∃ v, cs[j]? = some v := ⟨cs[j]'(by omega), List.getElem?_eq_getElem _⟩
        obtain ⟨b, off, rfl, hb, hcc⟩ := h.open (by omega) (by decide)
        obtain ⟨bb, of2, rfl, hb2, hcc2⟩ := hc.open (by omega) (by decide)
        obtain ⟨c0, c1, c2⟩ := cells_v hcc j v hv
        obtain ⟨d0, d1, d2⟩ := cells_co hcc2 j x hx
        have BB := B.trans (hB.mono B.size)
        rw [← BB.cell hb] at c0 c1 c2
        rw [← BB.cell hb2] at d0 d1 d2
        have HF := fitsCol_any x.name x.kind x.null v.k v.n v.s
        have hstep := Lib.hid (hf.out.trans (fitsL_drop cs r j x v hx hv))
        obtain ⟨E, hE⟩ : ∃ E, fitE x v = E := ⟨_, rfl⟩
        have HE := Lib.hid hE
        rw [show fitE ⟨x.name, x.kind, x.null⟩ ⟨v.k, v.n, v.s⟩ = E from hE] at HF
        obtain ⟨k, m, s⟩ := v
        obtain ⟨xn, xk, xb⟩ := x
        simp only at c0 c1 c2 d0 d1 d2 HF
        clear hcc hcc2 hv hx hE
        have HVn := Lib.hid (VAt.new wr k m s)
        have BVn : Hid (Below wr.heap.size wr (wr.alloc (.cells #[.int .i64 k, .int .i64 m, .string s] 55))) := (Below.refl _ _).alloc (Nat.le_refl _) _
        go_upto_region 6 with fail
        generalize wr.alloc (.cells #[.int .i64 k, .int .i64 m, .string s] 55) = W at HVn BVn ⊢
        have hsz := BVn.out.size
        obtain ⟨g0, g1, g2, -, -, -, hgv⟩ := HVn.out
        have hbW : bb < W.heap.size := by have := hB.size; have := B.size; omega
        have hpW : p < W.heap.size := by omega
        have y3 : W.cell? ⟨p, 1, none⟩ = some (.slice (some ⟨bb, of2, none⟩) n cc) := (BVn.out.cell hpw).trans y2
        have hb2w : bb < wr.heap.size := by have := hB.size; have := B.size; omega
        rw [← BVn.out.cell hb2w] at d0 d1 d2
        have hBW : Below w1.heap.size w1 W := hB.trans (BVn.out.mono (by have := hB.size; omega))
        obtain ⟨gv, hgv2⟩ : ∃ gv, wr.heap.size = gv := ⟨_, rfl⟩
        simp only [hgv2] at g0 g1 g2 hgv ⊢
        have hB0 : W.heap.size ≤ W.heap.size := Nat.le_refl _
        clear c0 c1 c2 HVn BVn hgv2
        refine region_inv (Fits6 W.heap.size p bb of2 n cc j xn xk xb gv k m s E) (by kernel_rfl) (by kernel_rfl) ?_ ?_ ?_
        · exact ⟨false, false, false, false, false, false, false, false, u21, u22, u23, u24, u25, u26, u27, u7, rfl, (by simp only [Act.put, List.setIfInBounds_toArray, List.set_cons_zero, List.set_cons_succ]), Below.refl _ _, (fun h => by cases h), (fun h => by cases h), (fun h => by cases h), (fun h => by cases h), (fun h => by cases h), (fun h => by cases h), (fun h => by cases h), (fun h => by cases h)⟩
        · refine ⟨?_, ?_, ?_, ?_, ?_, ?_, ?_, ?_, trivial⟩
          · rintro L a w ⟨b0, b1, b2, b3, b4, b5, b6, b7, x21, x22, x23, x24, x25, x26, x27, x7, rfl, rfl, hb, cd0, cd1, cd2, cd3, cd4, cd5, cd6, cd7⟩ hf hd
            have hf' : b0 = false := hf
            subst hf'
            clear hf hd
            try simp only [List.setIfInBounds_toArray, List.set_cons_zero, List.set_cons_succ]
            intro K hK
            rw [if_pos (by rfl)]
            go_simp
            exact hK.out _ _ ⟨true, b1, b2, b3, b4, b5, b6, b7, (.pointer (some ⟨p, 1, none⟩)), x22, x23, x24, x25, x26, x27, x7, (by simp only [Act.put, List.setIfInBounds_toArray, List.set_cons_zero, List.set_cons_succ]), (by simp only [Act.put, List.setIfInBounds_toArray, List.set_cons_zero, List.set_cons_succ]), hb, (fun _ => rfl), cd1, cd2, cd3, cd4, cd5, cd6, cd7⟩
          · rintro L a w ⟨b0, b1, b2, b3, b4, b5, b6, b7, x21, x22, x23, x24, x25, x26, x27, x7, rfl, rfl, hb, cd0, cd1, cd2, cd3, cd4, cd5, cd6, cd7⟩ hf hd
            have hf' : b1 = false := hf
            subst hf'
            have d0 : b0 = true := hd ⟨0, .data⟩ (by simp) rfl
            subst d0
            obtain rfl := cd0.out rfl
            clear hf hd
            try simp only [List.setIfInBounds_toArray, List.set_cons_zero, List.set_cons_succ]
            have z0 := (hb.cell hpW).trans y3
            intro K hK
            rw [if_pos (by rfl)]
            go_simp
            exact hK.out _ _ ⟨true, true, b2, b3, b4, b5, b6, b7, .pointer (some ⟨p, 1, none⟩), (.slice (some ⟨bb, of2, none⟩) n cc), x23, x24, x25, x26, x27, x7, (by simp only [Act.put, List.setIfInBounds_toArray, List.set_cons_zero, List.set_cons_succ]), (by simp only [Act.put, List.setIfInBounds_toArray, List.set_cons_zero, List.set_cons_succ]), hb, (fun _ => rfl), (fun _ => rfl), cd2, cd3, cd4, cd5, cd6, cd7⟩
          · rintro L a w ⟨b0, b1, b2, b3, b4, b5, b6, b7, x21, x22, x23, x24, x25, x26, x27, x7, rfl, rfl, hb, cd0, cd1, cd2, cd3, cd4, cd5, cd6, cd7⟩ hf hd
            have hf' : b2 = false := hf
            subst hf'
            clear hf hd
            try simp only [List.setIfInBounds_toArray, List.set_cons_zero, List.set_cons_succ]
            intro K hK
            rw [if_pos (by rfl)]
            go_simp
            exact hK.out _ _ ⟨b0, b1, true, b3, b4, b5, b6, b7, x21, x22, (.int .i64 (j : Nat)), x24, x25, x26, x27, x7, (by simp only [Act.put, List.setIfInBounds_toArray, List.set_cons_zero, List.set_cons_succ]), (by simp only [Act.put, List.setIfInBounds_toArray, List.set_cons_zero, List.set_cons_succ]), hb, cd0, cd1, (fun _ => rfl), cd3, cd4, cd5, cd6, cd7⟩
          · rintro L a w ⟨b0, b1, b2, b3, b4, b5, b6, b7, x21, x22, x23, x24, x25, x26, x27, x7, rfl, rfl, hb, cd0, cd1, cd2, cd3, cd4, cd5, cd6, cd7⟩ hf hd
            have hf' : b3 = false := hf
            subst hf'
            have d1 : b1 = true := hd ⟨1, .data⟩ (by simp) rfl
            subst d1
            have d2 : b2 = true := hd ⟨2, .data⟩ (by simp) rfl
            subst d2
            obtain rfl := cd1.out rfl
            obtain rfl := cd2.out rfl
            clear hf hd
            try simp only [List.setIfInBounds_toArray, List.set_cons_zero, List.set_cons_succ]
            intro K hK
            rw [if_pos (by rfl)]
            go_simp
            exact hK.out _ _ ⟨b0, true, true, true, b4, b5, b6, b7, x21, .slice (some ⟨bb, of2, none⟩) n cc, .int .i64 (j : Nat), (.pointer (some ⟨bb, of2 + j * 3, none⟩)), x25, x26, x27, x7, (by simp only [Act.put, List.setIfInBounds_toArray, List.set_cons_zero, List.set_cons_succ]), (by simp only [Act.put, List.setIfInBounds_toArray, List.set_cons_zero, List.set_cons_succ]), hb, cd0, (fun _ => rfl), (fun _ => rfl), (fun _ => rfl), cd4, cd5, cd6, cd7⟩
          · rintro L a w ⟨b0, b1, b2, b3, b4, b5, b6, b7, x21, x22, x23, x24, x25, x26, x27, x7, rfl, rfl, hb, cd0, cd1, cd2, cd3, cd4, cd5, cd6, cd7⟩ hf hd
            have hf' : b4 = false := hf
            subst hf'
            have d3 : b3 = true := hd ⟨3, .data⟩ (by simp) rfl
            subst d3
            obtain rfl := cd3.out rfl
            clear hf hd
            try simp only [List.setIfInBounds_toArray, List.set_cons_zero, List.set_cons_succ]
            have z0 := (hb.cell hbW).trans d0
            have z1 := (hb.cell hbW).trans d1
            have z2 := (hb.cell hbW).trans d2
            intro K hK
            rw [if_pos (by rfl)]
            go_simp
            exact hK.out _ _ ⟨b0, b1, b2, true, true, b5, b6, b7, x21, x22, x23, .pointer (some ⟨bb, of2 + j * 3, none⟩), (.agg #[.string (bsOf xn), .int .i64 xk, .bool xb]), x26, x27, x7, (by simp only [Act.put, List.setIfInBounds_toArray, List.set_cons_zero, List.set_cons_succ]), (by simp only [Act.put, List.setIfInBounds_toArray, List.set_cons_zero, List.set_cons_succ]), hb, cd0, cd1, cd2, (fun _ => rfl), (fun _ => rfl), cd5, cd6, cd7⟩
          · rintro L a w ⟨b0, b1, b2, b3, b4, b5, b6, b7, x21, x22, x23, x24, x25, x26, x27, x7, rfl, rfl, hb, cd0, cd1, cd2, cd3, cd4, cd5, cd6, cd7⟩ hf hd
            have hf' : b5 = false := hf
            subst hf'
            clear hf hd
            try simp only [List.setIfInBounds_toArray, List.set_cons_zero, List.set_cons_succ]
            have z0 := (hb.cell hgv).trans g0
            have z1 := (hb.cell hgv).trans g1
            have z2 := (hb.cell hgv).trans g2
            intro K hK
            rw [if_pos (by rfl)]
            go_simp
            exact hK.out _ _ ⟨b0, b1, b2, b3, b4, true, b6, b7, x21, x22, x23, x24, x25, (.agg #[.int .i64 k, .int .i64 m, .string s]), x27, x7, (by simp only [Act.put, List.setIfInBounds_toArray, List.set_cons_zero, List.set_cons_succ]), (by simp only [Act.put, List.setIfInBounds_toArray, List.set_cons_zero, List.set_cons_succ]), hb, cd0, cd1, cd2, cd3, cd4, (fun _ => rfl), cd6, cd7⟩
          · rintro L a w ⟨b0, b1, b2, b3, b4, b5, b6, b7, x21, x22, x23, x24, x25, x26, x27, x7, rfl, rfl, hb, cd0, cd1, cd2, cd3, cd4, cd5, cd6, cd7⟩ hf hd
            have hf' : b6 = false := hf
            subst hf'
            have d4 : b4 = true := hd ⟨4, .data⟩ (by simp) rfl
            subst d4
            have d5 : b5 = true := hd ⟨5, .data⟩ (by simp) rfl
            subst d5
            obtain rfl := cd4.out rfl
            obtain rfl := cd5.out rfl
            clear hf hd
            try simp only [List.setIfInBounds_toArray, List.set_cons_zero, List.set_cons_succ]
            intro K hK
            rw [if_pos (by rfl)]
            go_simp
            go_at_call 131
            refine (HF _).mono ?_
            rintro e w' ⟨rfl, bx⟩
            exact hK.out _ _ ⟨b0, b1, b2, b3, true, true, true, b7, x21, x22, x23, x24, .agg #[.string (bsOf xn), .int .i64 xk, .bool xb], .agg #[.int .i64 k, .int .i64 m, .string s], (.int .i64 E), x7, (by simp only [Act.put, List.setIfInBounds_toArray, List.set_cons_zero, List.set_cons_succ]), (by simp only [Act.put, List.setIfInBounds_toArray, List.set_cons_zero, List.set_cons_succ]), hb.trans (bx.mono (Nat.le_trans hB0 hb.size)), cd0, cd1, cd2, cd3, (fun _ => rfl), (fun _ => rfl), (fun _ => rfl), cd7⟩
          · rintro L a w ⟨b0, b1, b2, b3, b4, b5, b6, b7, x21, x22, x23, x24, x25, x26, x27, x7, rfl, rfl, hb, cd0, cd1, cd2, cd3, cd4, cd5, cd6, cd7⟩ hf hd
            have hf' : b7 = false := hf
            subst hf'
            have d6 : b6 = true := hd ⟨6, .data⟩ (by simp) rfl
            subst d6
            have d0 : b0 = true := hd ⟨0, .phase⟩ (by simp) rfl
            subst d0
            have d1 : b1 = true := hd ⟨1, .phase⟩ (by simp) rfl
            subst d1
            have d2 : b2 = true := hd ⟨2, .phase⟩ (by simp) rfl
            subst d2
            have d3 : b3 = true := hd ⟨3, .phase⟩ (by simp) rfl
            subst d3
            have d4 : b4 = true := hd ⟨4, .phase⟩ (by simp) rfl
            subst d4
            have d5 : b5 = true := hd ⟨5, .phase⟩ (by simp) rfl
            subst d5
            obtain rfl := cd6.out rfl
            obtain rfl := cd0.out rfl
            obtain rfl := cd1.out rfl
            obtain rfl := cd2.out rfl
            obtain rfl := cd3.out rfl
            obtain rfl := cd4.out rfl
            obtain rfl := cd5.out rfl
            clear hf hd
            try simp only [List.setIfInBounds_toArray, List.set_cons_zero, List.set_cons_succ]
            intro K hK
            rw [if_pos (by rfl)]
            go_simp
            exact hK.out _ _ ⟨true, true, true, true, true, true, true, true, .pointer (some ⟨p, 1, none⟩), .slice (some ⟨bb, of2, none⟩) n cc, .int .i64 (j : Nat), .pointer (some ⟨bb, of2 + j * 3, none⟩), .agg #[.string (bsOf xn), .int .i64 xk, .bool xb], .agg #[.int .i64 k, .int .i64 m, .string s], .int .i64 E, (.int .i64 E), (by simp only [Act.put, List.setIfInBounds_toArray, List.set_cons_zero, List.set_cons_succ]), (by simp only [Act.put, List.setIfInBounds_toArray, List.set_cons_zero, List.set_cons_succ]), hb, (fun _ => rfl), (fun _ => rfl), (fun _ => rfl), (fun _ => rfl), (fun _ => rfl), (fun _ => rfl), (fun _ => rfl), (fun _ => rfl)⟩
        · rintro act V ⟨b0, b1, b2, b3, b4, b5, b6, b7, x21, x22, x23, x24, x25, x26, x27, x7, hL, rfl, hb, cd0, cd1, cd2, cd3, cd4, cd5, cd6, cd7⟩
          have hL' : [true, true, true, true, true, true, true, true] = [b0, b1, b2, b3, b4, b5, b6, b7] := congrArg Array.toList hL
          simp only [List.cons.injEq, and_true] at hL'
          obtain ⟨rfl, rfl, rfl, rfl, rfl, rfl, rfl, rfl⟩ := hL'
          obtain rfl := cd0.out rfl
          obtain rfl := cd1.out rfl
          obtain rfl := cd2.out rfl
          obtain rfl := cd3.out rfl
          obtain rfl := cd4.out rfl
          obtain rfl := cd5.out rfl
          obtain rfl := cd6.out rfl
          obtain rfl := cd7.out rfl
          clear hL cd0 cd1 cd2 cd3 cd4 cd5 cd6 cd7
          simp only [List.setIfInBounds_toArray, List.set_cons_zero, List.set_cons_succ]
          have BV : Below w1.heap.size w1 V := hBW.trans (((Below.refl _ _).drew.trans hb).mono hBW.size)
          clear hb
          by_cases e0 : E = 0
          · subst e0
            have HN : Hid (fitsL cs r = fitsL (cs.drop (j + 1)) (r.drop (j + 1))) := by
              show _ = _
              rw [hstep.out, if_pos HE.out]
            clear hstep
            go_wp2_with fail
            go_roundw
            case rel => exact ⟨j + 1, by omega, by go_num, BV, HN.out⟩
            case measure => simp [intOf]; omega
          · have eb : (E == 0) = false := by simp [e0]
            have en : (E != 0) = true := by simp [e0]
            have HN : Hid (fitsL cs r = E) := by
              show _ = _
              rw [hstep.out, if_neg (by rw [HE.out]; exact e0), HE.out]
            clear hstep
            go_wp2_with fail
            go_ret
            exact ⟨by rw [hF.out, HN.out]; rfl, (HP.out ▸ B : Below w.heap.size w w1).trans (BV.mono (by rw [HP.out]; exact Nat.le_of_lt X.lt))⟩
      · have hlti : ¬ ((j : Int) < (n : Int)) := by omega
        obtain rfl : j = n := by omega
        have HN : Hid (fitsL cs r = 0) := by
          show _ = _
          rw [hf.out, List.drop_of_length_le (by omega)]
          rfl
        go_wp2_with fail
        go_ret
        have BB := B.trans (hB.mono B.size)
        exact ⟨by rw [hF.out, HN.out]; rfl, by rw [HP.out]; rw [HP.out] at BB; exact BB⟩
  · have hF : Hid (fitsE cs r = 1) := by
      show _ = _
      unfold fitsE
      rw [if_neg (by omega)]
    have hb : ((n : Int) != (cn : Int)) = true := by simp; omega
    have hb2 : ((n : Int) == (cn : Int)) = false := by simp; omega
    go_enter Try.func74, Try.ntmps74
    go_wp2_with fail
    go_ret
    exact ⟨by rw [hF.out]; rfl, B⟩
end Go.Proofs.Ytllijeciodmckaa
