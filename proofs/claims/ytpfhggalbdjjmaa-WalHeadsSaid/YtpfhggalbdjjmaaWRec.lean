/-
  The record's pages are written.
-/
import Derived.Test.YtpfhggalbdjjmaaWRecP
namespace Go.Proofs.Ytpfhggalbdjjmaa
open Go.RowKit Go.Shelf
attribute [local go_sem] Oper.semAt_some

section
variable {w : World} {a d n : Nat} {z k : Int} {bo : Option Addr} {bn bc : Nat} {S : Nat → Prop} {s : Dk}
set_option maxRecDepth 100000 in
set_option maxHeartbeats 2000000 in
theorem writeRecord_any (zz : Nat) (lb : List UInt8) (h : AddAt w a d zz bo bn bc k) (hB : IsB w bo bn bc lb) (hb0 : 8 ≤ bn) (hb : bn ≤ 70000) (hD : IsD w d n S s) (hn2 : 2 ≤ n) (hz : 64 + zz + bn ≤ 64 * n) (ha : ¬ S a) (hg : s.gone = false) (hlf : -500000 ≤ s.left ∧ s.left ≤ 500000) (hpd : s.pend.length ≤ 50000) :
    Calls Try.prog 33 #[.pointer (some ⟨a, 0, none⟩)] w (RecIs w d n S s (zz / 64 + 1) ((s.pg (zz / 64 + 1)).take (zz % 64) ++ lb)) := by
  obtain ⟨q, hq⟩ : ∃ q, zz / 64 = q := ⟨_, rfl⟩
  obtain ⟨r, hr⟩ : ∃ r, zz % 64 = r := ⟨_, rfl⟩
  rw [hq, hr]
  have hzq : Hid (zz = 64 * q + r ∧ r < 64) := by unfold Hid; omega
  have htd : (zz : Int).tdiv 64 = (q : Int) := by rw [Int.tdiv_eq_ediv_of_nonneg (by omega)]; omega
  have htm : (zz : Int).tmod 64 = (r : Int) := by rw [Int.tmod_eq_emod_of_nonneg (by omega)]; omega
  have hq1 : q + 1 < n := by have := hzq.out; omega
  clear hq hr
  have hs := hD.small
  obtain ⟨p, hp⟩ : ∃ p, q + 1 = p := ⟨_, rfl⟩
  rw [hp]
  have HPQ := Lib.hid hp
  clear hp
  refine (callsIn_wide (n := 6)).1 ?_
  refine callsIn_of_wp_marks Try.func33 rfl trivial ?_ rfl
  simp only [Try.ntmps33, List.size_toArray, List.length_cons, List.length_nil, Nat.reduceAdd, Nat.reduceSub, Array.replicate_succ, Array.replicate_zero, List.push_toArray, List.append_toArray, List.nil_append, List.cons_append]
  refine wpIn_wide.2 ?_
  go_upto_region 1 with fail
  have O1 := One.new w (.pointer (some ⟨a, 0, none⟩)) 128
  have O2 := One.new (w.alloc (.cells #[.pointer (some ⟨a, 0, none⟩)] 128)) (.int .i64 0) 25
  have B1 := (Below.refl w.heap.size w).alloc (Nat.le_refl _) (.cells #[.pointer (some ⟨a, 0, none⟩)] 128)
  have B2 := (Below.refl _ (w.alloc (.cells #[.pointer (some ⟨a, 0, none⟩)] 128))).alloc (Nat.le_refl _) (.cells #[.int .i64 0] 25)
  replace O1 := O1.past B2
  replace B2 := B1.trans (B2.mono B1.size)
  rw [World.size_alloc] at O2
  generalize hb2 : w.heap.size + 1 = b2 at O2 ⊢
  generalize hb1 : w.heap.size = b1 at O1 hb2 ⊢
  have HB1 := Lib.hid hb1
  have HB2 := Lib.hid hb2
  clear hb1 hb2
  generalize ((w.alloc (.cells #[.pointer (some ⟨a, 0, none⟩)] 128)).alloc (.cells #[.int .i64 0] 25)) = w2 at O1 O2 B2 ⊢
  clear B1
  have A2 := h.past B2
  have c1 := A2.c1
  have o1 := O1.c
  have hpw : wrap64 (1 + (q : Int)) = ((q + 1 : Nat) : Int) := by rw [IntWalk.wrap64_in _ (by omega)]; omega
  go_upto_region 2 with fail
  have hp := HPQ.out
  have e1 : 1 + (q : Int) = (p : Int) := by omega
  rw [e1]
  have O3 := One.new w2 (.int .i64 (p : Nat)) 3
  have B3 := (Below.refl w2.heap.size w2).alloc (Nat.le_refl _) (.cells #[.int .i64 (p : Nat)] 3)
  have hs2 := B2.size
  generalize hb3 : w2.heap.size = b3 at O3 B3 hs2 ⊢
  have O1' := O1.past (by rw [hb3]; exact B3)
  have O2' := O2.past (by rw [hb3]; exact B3)
  have A3 := A2.past (by rw [hb3]; exact B3)
  have hb12 : b1 < b3 ∧ b2 < b3 := ⟨by rw [← hb3]; exact O1.lt, by rw [← hb3]; exact O2.lt⟩
  rw [HB1.out] at hs2
  replace B3 : Below b1 w (w2.alloc (.cells #[.int .i64 (p : Nat)] 3)) := by rw [← HB1.out]; exact B2.trans (B3.mono (by rw [HB1.out]; exact hs2))
  have HP := Lib.hid hp
  clear hb3 hpw e1 O1 O2 A2 c1 o1 B2 htd hp
  generalize (w2.alloc (.cells #[.int .i64 (p : Nat)] 3)) = w3 at O1' O2' O3 A3 B3 ⊢
  have D3 : IsD w3.drew d n S s := (hD.past (by rw [HB1.out]; exact B3)).drew
  have o1 := O1'.c
  have o3 := O3.c
  have a0 := A3.c0
  have hpn : p < n := by rw [← HP.out]; exact hq1
  have hb1a : b1 ≠ a ∧ b2 ≠ a ∧ b3 ≠ a := by have := h.lt; rw [HB1.out] at this; have := HB2.out; omega
  have P1 := O1'.past (Below.refl _ _).drew
  have P2 := O2'.past (Below.refl _ _).drew
  have P3 := O3.past (Below.refl _ _).drew
  have PA := A3.past (Below.refl _ _).drew
  have PB := B3.drew
  have p1 := P1.c
  have p3 := P3.c
  have pa := PA.c0
  have hs4 : b1 ≤ w3.drew.heap.size := by have := PB.size; rw [HB1.out] at this; exact this
  clear o1 o3 a0
  go_cut [4, 5] from 9 (fun v4 v5 w5 => Mid2 w w5 b1 b2 b3 a d p zz bo bn bc k n S s v4 v5)
  case first =>
    go_region_held3 (fun w' => w'.cell? ⟨b1, 0, none⟩ = some (.pointer (some ⟨a, 0, none⟩)) ∧ w'.cell? ⟨a, 0, none⟩ = some (.pointer (some ⟨d, 0, none⟩)) ∧ w'.cell? ⟨b3, 0, none⟩ = some (.int .i64 p))
      (first | exact ⟨p1, pa, p3⟩ | exact ⟨r1, ra, r3⟩)
      (first
        | (go_at_call 47; refine (read_is D3 hg p hpn).mono ?_; rintro en w5 ⟨g5, rfl, o5, q5, b5⟩; have r1 := (P1.past b5).c; have r3 := (P3.past b5).c; have ra := (PA.past b5).c0))
    all_goals
      go_wp2_with fail
      go_meet
      exact ⟨rfl, g5, rfl, o5, P1.past b5, P2.past b5, P3.past b5, PA.past b5, D3.past b5, by rw [HB1.out]; exact PB.trans (b5.mono hs4)⟩
  case rest =>
    clear P1 P2 P3 PA PB p1 p3 pa O1' O2' O3 A3 B3 D3 hs4
    obtain ⟨rfl, g5, rfl, o5, O1, O2, O3, A5, D5, B5⟩ := hcut
    have o1 := O1.c
    have a1 := A5.c1
    have a2 := A5.c2
    have hr64 : (r : Int) ≤ 64 := by have := hzq.out; omega
    have hrn : r ≤ 64 := by omega
    have i5 : IsB wc (some ⟨g5, 0, none⟩) r 64 ((s.pg p).take r) := IsB_take o5.isB hrn
    have iB : IsB wc bo bn bc lb := hB.past B5
    have hT : Two (wc.alloc (.cells #[.slice (some ⟨g5, 0, none⟩) r 64, .slice bo bn bc] 31)) wc.heap.size (some ⟨g5, 0, none⟩) r 64 bo bn bc :=
      ⟨cell_blk (heap_alloc_new wc _) rfl, cell_blk (heap_alloc_new wc _) rfl⟩
    have B6 := (Below.refl wc.heap.size wc).alloc (Nat.le_refl _) (.cells #[.slice (some ⟨g5, 0, none⟩) r 64, .slice bo bn bc] 31)
    have HC := Lib.hid (concat_any _ _ _ r 64 _ bo bn bc lb hT (i5.past B6) (iB.past B6) (by omega) (by omega) (by omega))
    clear hT
    go_wp2_with (first
      | (go_at_call 58; refine HC.out.mono ?_; rintro en w7 ⟨gx, cx, rfl, ox, bx, qx⟩)
      | (go_at_call 57; refine (chunk_any _ _ _ _).mono ?_; rintro en w8 ⟨x1, x2, rfl, ox1, ox2, b8, qx1, qx2⟩))
    have l7 := ox.lt
    have B7 : Below wc.heap.size wc w7 := B6.trans (bx.mono B6.size)
    have B8 : Below wc.heap.size wc w8 := B7.trans (b8.mono B7.size)
    have hX : OwnB w8 5 gx (r + bn) cx ((s.pg p).take r ++ lb) := ox.below b8 l7
    generalize hXX : (s.pg p).take r ++ lb = X at hX
    have O1' := O1.past B8
    have O2' := O2.past B8
    have O3' := O3.past B8
    have A8 := A5.past B8
    have D8 := D5.past B8
    have h82 := O2'.lt
    have h83 := O3'.lt
    have B9 : Below w.heap.size w w8 := B5.trans (B8.mono B5.size)
    have hXn : ¬ S gx := fun q => by have := D5.lt _ q; have := B6.size; omega
    have hx1 : ¬ S x1 := fun q => by have := D5.lt _ q; have := B7.size; omega
    have hx2 : ¬ S x2 := fun q => by have := D5.lt _ q; have := B7.size; omega
    have hb3S : ¬ S b3 := fun q => by have := hD.lt _ q; have := HB1.out; omega
    have hb2S : ¬ S b2 := fun q => by have := hD.lt _ q; have := HB1.out; have := HB2.out; omega
    have hb1S : ¬ S b1 := fun q => by have := hD.lt _ q; have := HB1.out; omega
    have hgxb : b1 < wc.heap.size ∧ b2 < wc.heap.size ∧ b3 < wc.heap.size := ⟨O1.lt, O2.lt, O3.lt⟩
    have hord : wc.heap.size ≤ gx ∧ wc.heap.size ≤ x1 ∧ wc.heap.size ≤ x2 := by have := B6.size; have := B7.size; omega
    clear HC o1 a1 a2 i5 iB B6 O1 O2 O3 A5 D5 B5 o5 ox b8 bx B7
    have hmx : r + bn ≤ 1000000 := by omega
    have hmc := hX.le
    refine (wpIn_wide (n := 6)).1 ?_
    refine wpIn_rangeFunc_ownF (n := 6) rfl (by omega) (gf := 72) (lb := #[.pointer (some ⟨x1, 0, none⟩), .pointer (some ⟨x2, 0, none⟩)]) rfl trivial (enters_of Try.func72 (by kernel_rfl) rfl)
      (chunk_stops 5 (by omega) x1 x2 gx (r + bn) cx hmx hmc w8 ox1.c ox2.c) (kpB_t x1 x2) (kpB_b ox1.lt ox2.lt) (Below.refl _ _) (fun _ => rfl)
      (IRec w8 d n S b2 b3 s p X) (IxRec w8 d n S b2 b3 s p X) (irec_own _ _ _ _ _ _ _ _ _) (ixrec_own _ _ _ _ _ _ _ _ _)
      ⟨S, D8, fun q hq => .inl hq, Kp.refl _ _, O3', O2', by simp; omega⟩ ?a1 ?assign ?body ?done ?stop
    case assign =>
      intro l x W K hK
      gi_wp2
      exact hK
    case body =>
      rintro l pre x W ⟨S', DW, eW, kW, w3c, w2c, hlv⟩ hlen
      have hnT : ∀ q, ¬ S q → q ≠ b2 → q ≠ b3 → ¬ TRec S b2 b3 q := fun q h1 h2 h3 => by rintro (h | h | h); exact h1 h; exact h2 h; exact h3 h
      have w1c := O1'.kp kW (hnT b1 hb1S (by have := HB2.out; omega) (by omega))
      have wA := A8.kp kW (hnT a ha (by omega) (by omega))
      have wX := hX.kp kW (hnT gx hXn (by omega) (by omega))
      obtain ⟨hlf2, hgn⟩ := wrF_left s X p pre hlv
      have hpg := wrF_page s X p pre
      have hpn2 := wrF_pend s X p pre
      have hIS := (chk_is wX x).drew
      have hpb : p + pre.length < n := by
        unfold chN at hlen
        have := hzq.out
        have := HPQ.out
        omega
      have HW := Lib.hid (write_is DW.drew (hgn.trans hg) (room_of (by omega) (by omega)) (by unfold chN at hlen; omega) (p + pre.length) hpb _ _ _ _ hIS (by omega))
      have c1 := (w1c.past (Below.refl _ _).drew).c
      have c3 := (w3c.past (Below.refl _ _).drew).c
      have ca := (wA.past (Below.refl _ _).drew).c0
      have hmx : Try.prog.follows .mixedOrders = true := by kernel_rfl
      dsimp only [chV]
      gi_upto_region 8 with fail
      gi_cut [8] from 43 (fun v W3 => RStep W W3 d n S' (wrF s p X pre).1 (p + pre.length) (chk X x) v)
      case first =>
        gi_region_with_o (refine ⟨trivial, ?_⟩; gi_at_call 10; refine (CallsIn.inRound l (callsIn_wide.2 HW.out)).mono ?_; rintro e W3 ⟨S3, rfl, D3, k3, e3⟩)
        all_goals
          gi_wp2_with fail
          gi_meet
          case rel => exact ⟨rfl, S3, D3, k3, e3⟩
      case rest =>
        obtain ⟨rfl, S3, D3, k3, e3⟩ := hcut
        obtain ⟨KO, K3, ewc, kwc, v3c, v2c⟩ := rec_step DW eW kW w3c w2c k3 e3 h82 h83 hb2S hb3S
        clear HW c1 c3 ca
        have e33 := v3c.c
        have f33 := v3c.free
        have e22 := v2c.c
        have f22 := v2c.free
        have D4 : IsD wc d n S3 (wrF s p X (pre ++ [x])).1 := by rw [wrF_snoc, wrStep, hpg]; exact D3
        have hle : (pre ++ [x]).length = pre.length + 1 := by simp
        have hn3 : ∀ b, b < w8.heap.size → ¬ S b → ¬ S3 b := fun b hb hn q => by rcases ewc b q with h | h; exact hn h; omega
        by_cases hl1 : (wrF s p X pre).1.left = 1
        · rw [code_last hl1]
          have hlx : 1 ≤ s.left ∧ s.left = (pre ++ [x]).length := by rw [hle]; omega
          clear D3 DW hgn hpg hpn2 hlf2 hl1 hle hIS
          gi_wp2
          refine ⟨KO.trans (KeepsOthers.setCell _ _ _), rfl, S3, ?_, ewc, ?_, v2c.set _, hlx⟩
          · exact D4.kp (Kp.set (S := fun q => q = b2) _ b2 0 _ rfl) (fun q hq e => hn3 b2 h82 hb2S (by rw [← e]; exact hq))
          · exact kwc.trans (Kp.set (S := fun q => q = b2) _ b2 0 _ rfl) (fun q _ e => .inr (.inl e))
        · rw [code_more hl1]
          have hlx : ¬ (1 ≤ s.left ∧ s.left ≤ (pre ++ [x]).length) := by rw [hle]; omega
          have hwp : wrap64 ((p : Int) + (pre.length : Int) + 1) = ((p + (pre ++ [x]).length : Nat) : Int) := by rw [hle, IntWalk.wrap64_in _ (by omega)]; omega
          clear D3 hgn hpg hpn2 hlf2 hl1 hle hIS
          gi_wp2
          refine ⟨KO.trans (KeepsOthers.setCell _ _ _), fun q hq => ?_, S3, ?_, ewc, ?_, ?_, ?_, hlx⟩
          · have hq8 : q < w8.heap.size := by rcases hq with rfl | rfl; exact ox1.lt; exact ox2.lt
            have hqS : ¬ S q := by rcases hq with rfl | rfl; exact hx1; exact hx2
            have hqb : q ≠ b3 := by rcases hq with rfl | rfl <;> omega
            rw [heap_setCell_other _ _ _ _ hqb]
            exact K3.block q (Nat.lt_of_lt_of_le hq8 kW.size) (fun h => by rcases eW q h with h | h; exact hqS h; omega)
          · exact D4.kp (Kp.set (S := fun q => q = b3) _ b3 0 _ rfl) (fun q hq e => hn3 b3 h83 hb3S (by rw [← e]; exact hq))
          · exact kwc.trans (Kp.set (S := fun q => q = b3) _ b3 0 _ rfl) (fun q _ e => .inr (.inr e))
          · have e : ((p + (pre ++ [x]).length : Nat) : Int) = (p : Int) + ((pre.length : Int) + 1) := by
              rw [List.length_append, List.length_cons, List.length_nil]
              omega
            rw [e]
            exact v3c.set _
          · exact v2c.kp (Kp.set (S := fun q => q = b3) _ b3 0 _ rfl) (fun e => by omega)
    case done =>
      rintro D ys W hD' rfl ⟨S', DW, eW, kW, w3c, w2c, hlv⟩ hK
      have f2 := w2c.free
      have c2 := w2c.c
      gi_wp2
      go_wp2_with fail
      have hK' := (KeepsOthers.setCell W ⟨b2, 0, none⟩ (.int .i64 0)).same D _ hK rfl
      have hb2S' : ∀ q, S' q → ¬ (q = b2) := fun q h e => by subst e; rcases eW q h with h | h; exact hb2S h; omega
      obtain ⟨r1, r2, r3, r4⟩ := rec_end B9 (DW.kp (Kp.set (S := fun q => q = b2) W b2 0 (.int .i64 0) rfl) hb2S') eW (kW.trans (Kp.set (S := fun q => q = b2) W b2 0 (.int .i64 0) rfl) (fun q _ e => .inr (.inl e))) (w2c.set (.int .i64 0)) hD' hK' (by have := HB1.out; have := HB2.out; omega) (by have := HB1.out; omega)
      refine ⟨by simp, .inl ⟨_, _, rfl, run_takeDeferred hK', ?_⟩⟩
      refine ⟨.int .i64 0, ?_, ?_⟩
      · simp [results, Try.results33, go_sem, r4]
      · rw [List.length_range] at hlv
        rw [hXX]
        exact ⟨chN (r + bn), 0, by rw [hX.len]; exact Nat.le_refl _, ⟨S', rfl, r1, r2, r3⟩, .inl ⟨rfl, by rw [hX.len], hlv⟩⟩
    case stop =>
      rintro D c pre W hD' ⟨kk, hk1, rfl⟩ ⟨rfl, S', DW, eW, kW, w2c, hlv⟩ hK
      gi_wp2
      obtain ⟨r1, r2, r3, r4⟩ := rec_end B9 DW eW kW w2c hD' hK (by have := HB1.out; have := HB2.out; omega) (by have := HB1.out; omega)
      refine ⟨by simp, .inl ⟨_, _, rfl, run_takeDeferred hK, ?_⟩⟩
      refine ⟨.int .i64 15, ?_, ?_⟩
      · simp [results, Try.results33, go_sem, r4]
      · rw [List.length_range] at hlv
        exact ⟨kk, 15, by rw [hX.len]; exact hk1, ⟨S', rfl, r1, r2, r3⟩, .inr ⟨rfl, hlv.1, hlv.2⟩⟩
end
end Go.Proofs.Ytpfhggalbdjjmaa
