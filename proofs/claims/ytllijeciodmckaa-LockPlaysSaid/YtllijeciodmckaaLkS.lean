/-
  lock's spread (by gen_lks.py).
-/
import Derived.Test.YtllijeciodmckaaLkP
namespace Go.Proofs.Ytllijeciodmckaa
open Go.RowKit Go.Maps
set_option linter.unusedSimpArgs false
set_option maxRecDepth 100000 in
set_option maxHeartbeats 4000000 in
theorem spread_any (w : World) (mb n : Nat) (S : Nat → Prop) (cur : Int → Nat) (hM : Mk w mb n S cur) (hn : n ≤ 20000) (m : Nat) (hm : m = 1 ∨ m = 2) (s : Int) (hs : (Lit.int .i64 s).wf = true)
    (mo : Option Addr) (mn mc : Nat) (M : List Hd) (h1 : IsR EHd w mo mn mc M) (tv : Option Addr) (tn tc : Nat) (T : List Hd) (h2 : IsR EHd w tv tn tc T) (hmn : mn ≤ 10000) (htn : tn ≤ 10000)
    (wM : ∀ y ∈ M, (Lit.int .i64 y.s).wf = true) (wT : ∀ y ∈ T, (Lit.int .i64 y.s).wf = true) (hF : 0 < tn → Far S tv) (hz : ∀ x, cur x &&& m = 0) :
    Calls Try.prog 108 #[.map (some mb), .int .u32 (m : Nat), .int .i64 s, .slice mo mn mc, .slice tv tn tc] w fun e w' => e = .returned (.tuple #[]) ∧ SpPost mb n S cur m s M T w w' := by
  have hc3 : ∀ x, cur x ≤ 3 := by obtain ⟨f, h⟩ := hM; exact h.val
  have hlM := h1.len
  have hlT := h2.len
  have HB := bySession_any w mo mn mc M h1 (by omega) wM
  obtain ⟨ob, hob⟩ : ∃ ob, w.heap.size = ob := ⟨_, rfl⟩
  have HO := Lib.hid hob
  rw [hob] at HB
  clear hob h1
  go_enter Try.func108, Try.ntmps108
  go_upto_region 1 with (go_at_call 158; refine HB.mono ?_; rintro e w1 ⟨rfl, ⟨f, G⟩, b1⟩)
  clear HB
  have X1 : OwnR EI (w1.alloc (.cells #[.int .i64 s] 3)) 3 w1.heap.size 1 1 [s] := OwnR.ofBlk (heap_alloc_new w1 _) rfl rfl (by omega)
  have BX : Below w1.heap.size w1 (w1.alloc (.cells #[.int .i64 s] 3)) := (Below.refl _ _).alloc (Nat.le_refl _) _
  have hob1 := G.map.lt
  go_upto_region 2 with fail
  generalize w1.alloc (.cells #[.int .i64 s] 3) = W1 at X1 BX ⊢
  have hltM := hM.lt
  have I0 : Hid (SpI w W1 mb n S cur m ob mn M f (s :: []) (some ⟨w1.heap.size, 0, none⟩) 1 1 [] n S) := by
    have b1' : Below w.heap.size w w1 := by rw [HO.out]; exact b1
    have hsz : w.heap.size ≤ w1.heap.size := b1'.size
    have bW : Below w.heap.size w W1 := b1'.trans (BX.mono hsz)
    have hoo := HO.out
    refine Lib.hid ⟨X1.rowO (by omega), (hM.past bW).congr fun x => by simp [curL], by simp, Kp.ofBelow bW S, Ext.refl _ _, G.past BX, fun e => ?_, fun x g k c hx e => ?_, fun z hz => ?_, by omega, by omega⟩
    · have := hltM ob e; omega
    · have := hltM g e; have := (G.row x g k c hx).2.1; omega
    · cases hz
      refine ⟨fun e => ?_, ?_, fun x g k c hx => ?_⟩
      · have e' : S w1.heap.size := e
        have := hltM _ e'; omega
      · show w1.heap.size ≠ ob; omega
      · have := (G.row x g k c hx).1.lt; show w1.heap.size ≠ g; omega
  obtain ⟨gI, hgI⟩ : ∃ gI, w1.heap.size = gI := ⟨_, rfl⟩
  rw [hgI] at I0
  simp only [hgI]
  clear hgI X1 BX G hob1 b1 hM
  go_wp2_with fail
  go_loopw [11, 12] (fun zo zi wr => ∃ (oa : Option Addr) (N c i : Nat) (L : List Int) (n' : Nat) (S' : Nat → Prop), zo = .slice oa N c ∧ zi = .int .i64 (i : Nat) ∧ Hid (N = L.length + 1) ∧ Hid (SpI w wr mb n S cur m ob mn M f (s :: L) oa N c L n' S') ∧ Hid (Bf M T s L i) ∧ i ≤ N) (fun zo zi _ => tn + 1 - (intOf zi).toNat)
  case atStart => exact ⟨_, 1, 1, 0, [], n, S, rfl, rfl, Lib.hid rfl, I0, Lib.hid (Bf.start M T s), by omega⟩
  case round =>
    obtain ⟨oa, N, c, i, L, n', S', rfl, rfl, hN, I, hBf, hiN⟩ := hrel
    clear I0
    have hLs := hBf.out.small
    by_cases hlt : i < N
    · have hlti : (i : Int) < (N : Int) := by omega
      obtain ⟨a0, ha0⟩ : ∃ a, (s :: L)[i]? = some a := ⟨(s :: L)[i]'(by have := hN.out; simp; omega), List.getElem?_eq_getElem _⟩
      have ha0h := Lib.hid ha0
      have wa0 : (Lit.int .i64 a0).wf = true := by
        rcases at_head ha0 with rfl | hq
        · exact hs
        · obtain ⟨t, ht, rfl⟩ := List.mem_map.1 (hBf.out.inT a0 hq)
          exact wT t ht
      obtain ⟨b, off, rfl, hb, hc⟩ := I.out.opn.isR.open (by omega) (by decide)
      have ca : wr.cell? ⟨b, off + i, none⟩ = some (.int .i64 a0) := hc i _ (by have := EI.all_get (s :: L) i 0 a0 ha0 (by decide); simpa [EI] using this)
      obtain ⟨ra, rk, rc, HS, HR, HT⟩ := I.out.gp.txt a0
      have G := I.out.gp.map
      have hrk : rk = (own M a0).length := (HT wr mn I.out.gp).len.symm
      have hrkM : (own M a0).length ≤ M.length := List.length_filter_le _ _
      clear hc ha0
      have hiL : Hid (i ≤ L.length) := Lib.hid (by have := hN.out; omega)
      go_upto_region 6 with (at_lookup; refine wpList_look_v rfl _ _ 266 rfl 3 94 keyI' Try.underlying3 Try.underlying266 (zeroS _) ob mn f rfl G a0 rfl wa0 (.slice ra rk rc) HS ?_)
      clear ca G HS
      go_loopw [11, 34] (fun zo zp wr => ∃ (oa : Option Addr) (N c p : Nat) (L : List Int) (n' : Nat) (S' : Nat → Prop), zo = .slice oa N c ∧ zp = .int .i64 (p : Nat) ∧ p ≤ rk ∧ Hid (N = L.length + 1) ∧ Hid (SpI w wr mb n S cur m ob mn M f (s :: L) oa N c L n' S') ∧ Hid (Bf M T s L i) ∧ Hid (i ≤ L.length) ∧ Hid ((s :: L)[i]? = some a0) ∧
        Hid (∀ q ∈ (own M a0).take p, ∀ t ∈ T, clash q t = true → t.s ∈ L)) (fun zo zp _ => rk - (intOf zp).toNat)
      case atStart => exact ⟨_, N, c, 0, L, n', S', rfl, rfl, by omega, hN, I, hBf, hiL, ha0h, Lib.hid (by simp)⟩
      case round =>
        clear I hN hBf hiL ha0h hiN hLs hlt hlti
        obtain ⟨oa, N, c, p, L, n', S', rfl, rfl, hp, hN, I, hBf, hiL, ha0h, hD⟩ := hrel
        have hLs := hBf.out.small
        by_cases hlt : p < rk
        · have hlti : (p : Int) < (rk : Int) := by omega
          obtain ⟨y, hy⟩ : ∃ y, (own M a0)[p]? = some y := ⟨(own M a0)[p]'(by omega), List.getElem?_eq_getElem _⟩
          obtain ⟨b, off, rfl, hb, hc⟩ := (HT wr mn I.out.gp).isR.open (by omega) (by decide)
          obtain ⟨p0, p1, p2⟩ := cells_hd hc p y hy
          have hyM := Lib.hid (mem_own.1 (List.mem_of_getElem? hy))
          have hyp := Lib.hid hy
          have X1 := HdB.new wr y 101
          have BX : Below wr.heap.size wr (wr.alloc (.cells #[.int .i64 y.s, .string (bsOf y.t), .bool y.x] 101)) := (Below.refl _ _).alloc (Nat.le_refl _) _
          have hva : Hid (¬ S' wr.heap.size) := Lib.hid fun e => by have := I.out.mks.lt _ e; omega
          have I1 := Lib.hid (I.out.past BX)
          clear hc hy I
          obtain ⟨ys, yt, yx⟩ := y
          simp only at p0 p1 p2 X1 BX I1
          go_upto_region 8 with fail
          generalize wr.alloc (.cells #[.int .i64 ys, .string (bsOf yt), .bool yx] 101) = W2 at X1 I1 ⊢
          obtain ⟨va, hv⟩ : ∃ va, wr.heap.size = va := ⟨_, rfl⟩
          rw [hv] at X1 hva
          simp only [hv]
          clear hv p0 p1 p2 BX
          go_wp2_with fail
          go_loopw [11, 40] (fun zo zq wr => ∃ (oa : Option Addr) (N c q : Nat) (L : List Int) (n' : Nat) (S' : Nat → Prop), zo = .slice oa N c ∧ zq = .int .i64 (q : Nat) ∧ q ≤ tn ∧ Hid (N = L.length + 1) ∧ Hid (SpI w wr mb n S cur m ob mn M f (s :: L) oa N c L n' S') ∧ Hid (Bf M T s L i) ∧ Hid (i ≤ L.length) ∧ Hid ((s :: L)[i]? = some a0) ∧
            Hid (∀ q ∈ (own M a0).take p, ∀ t ∈ T, clash q t = true → t.s ∈ L) ∧ HdB wr va ⟨ys, yt, yx⟩ 101 ∧ Hid (¬ S' va) ∧ Hid (∀ t ∈ T.take q, clash ⟨ys, yt, yx⟩ t = true → t.s ∈ L)) (fun zo zq _ => tn - (intOf zq).toNat)
          case atStart => exact ⟨oa, N, c, 0, L, n', S', rfl, rfl, by omega, hN, I1, hBf, hiL, ha0h, hD, X1, hva, Lib.hid (by simp)⟩
          case round =>
            clear I1 hN hBf hiL ha0h hD X1 hva hLs
            obtain ⟨oa, N, c, q, L, n', S', rfl, rfl, hq, hN, I, hBf, hiL, ha0h, hD, X1, hva, hE⟩ := hrel
            have hLs := hBf.out.small
            by_cases hlq : q < tn
            · have hlqi : (q : Int) < (tn : Int) := by omega
              obtain ⟨z, hzq⟩ : ∃ z, T[q]? = some z := ⟨T[q]'(by omega), List.getElem?_eq_getElem _⟩
              have h2w := h2.kp I.out.kp (hF (by omega))
              obtain ⟨b2, off2, rfl, hb2, hc2⟩ := h2w.open (by omega) (by decide)
              obtain ⟨p0, p1, p2⟩ := cells_hd hc2 q z hzq
              have wz := wT z (List.mem_of_getElem? hzq)
              have hzT := Lib.hid (List.mem_of_getElem? hzq)
              have hzh := Lib.hid hzq
              have Z1 := HdB.new wr z 101
              have BZ : Below wr.heap.size wr (wr.alloc (.cells #[.int .i64 z.s, .string (bsOf z.t), .bool z.x] 101)) := (Below.refl _ _).alloc (Nat.le_refl _) _
              have hvb : Hid (¬ S' wr.heap.size) := Lib.hid fun e => by have := I.out.mks.lt _ e; omega
              have I2 := Lib.hid (I.out.past BZ)
              have X2 := X1.past BZ
              clear hc2 hzq I X1
              obtain ⟨zs, zt, zx⟩ := z
              simp only at p0 p1 p2 Z1 BZ I2 X2 wz
              go_upto_region 11 with fail
              generalize wr.alloc (.cells #[.int .i64 zs, .string (bsOf zt), .bool zx] 101) = W3 at Z1 I2 X2 ⊢
              obtain ⟨vb, hv⟩ : ∃ vb, wr.heap.size = vb := ⟨_, rfl⟩
              rw [hv] at Z1 hvb
              simp only [hv]
              clear hv p0 p1 p2 BZ h2w
              have HC := fun w' => conflicts_any w' ⟨ys, yt, yx⟩ ⟨zs, zt, zx⟩
              obtain ⟨cl, hcl⟩ : ∃ cl, clash ⟨ys, yt, yx⟩ ⟨zs, zt, zx⟩ = cl := ⟨_, rfl⟩
              simp only [hcl] at HC
              have hclh := Lib.hid hcl
              clear hcl
              unfold Hd.val at HC
              simp only at HC
              obtain ⟨a0_, a1_, a2_⟩ := X2.c
              obtain ⟨c0_, c1_, c2_⟩ := Z1.c
              simp only at a0_ a1_ a2_ c0_ c1_ c2_
              cases cl
              · have hE2 := Lib.hid (take_all (P := fun t => clash ⟨ys, yt, yx⟩ t = true → t.s ∈ L) hE.out hzh.out (fun e => by rw [hclh.out] at e; cases e))
                clear hE hzh hclh
                go_wp2_with (go_at_call 105; refine (HC _).mono ?_; rintro e w4 ⟨rfl, b4⟩)
                go_roundw
                case rel => exact ⟨oa, N, c, q + 1, L, n', S', rfl, by go_num, by omega, hN, Lib.hid (I2.out.past b4), hBf, hiL, ha0h, hD, X2.past b4, hva, hE2⟩
                case measure => simp [intOf]; omega
              · have HPt := fun (w' : World) (hmk : Mk w' mb n' S' (curL cur m L)) => put_any w' mb n' S' (curL cur m L) hmk (by have := I2.out.le; omega) m hm zs wz
                by_cases hin : zs ∈ L
                · obtain ⟨e1, e2⟩ := curL_in cur m hc3 hm L zs hin
                  have e3 := curL_in cur m hc3 hm L zs hin
                  have hne : curL cur m L zs &&& m ≠ 0 := of_decide_eq_false e1
                  unfold PutPost at HPt
                  simp only [e1, e2] at HPt
                  have hE2 := Lib.hid (take_all (P := fun t => clash ⟨ys, yt, yx⟩ t = true → t.s ∈ L) hE.out hzh.out (fun _ => hin))
                  have hneh := Lib.hid hne
                  clear hE hzh hclh e1 e2 e3 hne hin
                  go_wp2_with (first
                    | (go_at_call 105; refine (HC _).mono ?_; rintro e w4 ⟨rfl, b4⟩; have I4 := Lib.hid (I2.out.past b4); have Z4 := Z1.past b4; have X4 := X2.past b4; obtain ⟨d0_, d1_, d2_⟩ := Z4.c; simp only at d0_ d1_ d2_)
                    | (go_at_call 159; refine (HPt w4 I4.out.mks).mono ?_; rintro e w5 ⟨rfl, n5, S5, hmk5, hn5, hn5e, k5, x5⟩))
                  go_roundw
                  case rel =>
                    have hn6 := hn5e hneh.out
                    subst hn6
                    have hva5 : Hid (¬ S5 va) := Lib.hid fun e => by
                      rcases x5 va e with h | h
                      · exact hva.out h
                      · have := X4.lt; omega
                    exact ⟨oa, N, c, q + 1, L, n5, S5, rfl, by go_num, by omega, hN, Lib.hid (I4.out.put hmk5 I4.out.le k5 x5), hBf, hiL, ha0h, hD, (k5.block va X4.lt hva.out).trans X4, hva5, hE2⟩
                  case measure => simp [intOf]; omega
                · obtain ⟨e1, e2⟩ := curL_out cur m hz L zs hin
                  unfold PutPost at HPt
                  simp only [e1, e2] at HPt
                  have hEd : Ed M T a0 zs := ⟨_, hyM.out.1, hyM.out.2, _, hzT.out, rfl, hclh.out⟩
                  have hB2 := Lib.hid (hBf.out.add (at_head ha0h.out) hEd hin hiL.out)
                  have hE2 := Lib.hid (take_all (P := fun t => clash ⟨ys, yt, yx⟩ t = true → t.s ∈ L ++ [zs]) (fun t ht e => List.mem_append.2 (.inl (hE.out t ht e))) hzh.out (fun _ => by simp))
                  have hD2 : Hid (∀ q ∈ (own M a0).take p, ∀ t ∈ T, clash q t = true → t.s ∈ L ++ [zs]) := Lib.hid fun q hq t ht e => List.mem_append.2 (.inl (hD.out q hq t ht e))
                  have ha2 := Lib.hid (at_more (y := zs) ha0h.out)
                  have hi2 : Hid (i ≤ (L ++ [zs]).length) := Lib.hid (by have := hiL.out; simp; omega)
                  have hN2 : Hid (N + 1 = (L ++ [zs]).length + 1) := Lib.hid (by have := hN.out; simp; omega)
                  have hNn := hN.out
                  have hNN := Lib.hid hNn
                  have hN1 : N + 1 ≤ 1000000 := by omega
                  clear hE hzh hclh e1 e2 hEd hin hNn
                  go_wp2_with (first
                    | (go_at_call 105; refine (HC _).mono ?_; rintro e w4 ⟨rfl, b4⟩; have I4 := Lib.hid (I2.out.past b4); have Z4 := Z1.past b4; have X4 := X2.past b4; obtain ⟨d0_, d1_, d2_⟩ := Z4.c; simp only at d0_ d1_ d2_)
                    | (go_at_call 159; refine (HPt w4 I4.out.mks).mono ?_; rintro e w5 ⟨rfl, n5, S5, hmk5, hn5, -, k5, x5⟩; have I5 := Lib.hid (I4.out.put hmk5 (by have := I4.out.le; simp; omega) k5 x5); have Z5 : HdB w5 vb ⟨zs, zt, zx⟩ 101 := (k5.block vb Z4.lt hvb.out).trans Z4; have X5 : HdB w5 va ⟨ys, yt, yx⟩ 101 := (k5.block va X4.lt hva.out).trans X4; obtain ⟨g0_, g1_, g2_⟩ := Z5.c; simp only at g0_ g1_ g2_; have oI : OwnR EI (w5.alloc (.cells #[.int .i64 zs] 3)) 3 w5.heap.size 1 1 [zs] := OwnR.ofBlk (heap_alloc_new w5 _) rfl rfl (by omega); have bI : Below w5.heap.size w5 (w5.alloc (.cells #[.int .i64 zs] 3)) := (Below.refl _ _).alloc (Nat.le_refl _) _; have sI := oI.isR.src (P := Try.prog) Try.underlying73; have I6 := Lib.hid (I5.out.past bI); have X6 := X5.past bI; have nX := I6.out.opn.neT I6.out.pos X6 (by decide))
                    | (at_builtin; refine wpList_append_o rfl _ _ 73 73 rfl 3 rowTyI ob (Nat.le_of_lt I6.out.gp.map.lt) oa N c (s :: L) rfl I6.out.opn _ rfl 1 [zs] sI rfl (by omega) hN1 (N + 1) rfl ?_; intro oa7 c7 w7 o7 g7 b7 q7))
                  go_roundw
                  case rel =>
                    have hva5 : Hid (¬ S5 va) := Lib.hid fun e => by
                      rcases x5 va e with h | h
                      · exact hva.out h
                      · have := X4.lt; omega
                    have I7 := Lib.hid (I6.out.app (O' := s :: (L ++ [zs])) o7 g7 (q7.imp (fun h => h.1) id) (by omega))
                    exact ⟨oa7, N + 1, c7, q + 1, L ++ [zs], n5, S5, rfl, by go_num, by omega, hN2, I7, hB2, hi2, ha2, hD2, (g7.block va X6.lt nX).trans X6, hva5, hE2⟩
                  case measure => simp [intOf]; omega
            · have hlqi : ¬ ((q : Int) < (tn : Int)) := by omega
              obtain rfl : q = tn := by omega
              have hE3 := hE.out
              rw [List.take_of_length_le (by omega)] at hE3
              have hD2 := Lib.hid (take_all (P := fun y => ∀ t ∈ T, clash y t = true → t.s ∈ L) hD.out hyp.out hE3)
              clear hE hD hE3
              go_wp2_with fail
              go_roundw
              case rel => exact ⟨oa, N, c, p + 1, L, n', S', rfl, by go_num, by omega, hN, I, hBf, hiL, ha0h, hD2⟩
              case measure => simp [intOf]; omega
        · have hlti : ¬ ((p : Int) < (rk : Int)) := by omega
          obtain rfl : p = rk := by omega
          have hD3 := hD.out
          rw [List.take_of_length_le (by omega)] at hD3
          have hB2 := Lib.hid (hBf.out.next ha0h.out hD3)
          have hi1 : Hid (i + 1 ≤ N) := Lib.hid (by have := hN.out; have := hiL.out; omega)
          have hitn : i ≤ tn := by have := hiL.out; omega
          clear hD hD3
          go_wp2_with fail
          go_roundw
          case rel => exact ⟨oa, N, c, i + 1, L, n', S', rfl, by go_num, hN, I, hB2, hi1.out⟩
          case measure => simp [intOf]; omega
    · have hlti : ¬ ((i : Int) < (N : Int)) := by omega
      obtain rfl : i = N := by omega
      have HR : Hid (SpPost mb n S cur m s M T w wr) := Lib.hid ⟨n', S', L, I.out.mks, fun x => hBf.out.all (by have := hN.out; omega) x, by have := I.out.le; omega, I.out.kp, I.out.ext⟩
      clear I hN hBf hLs
      go_wp2_with fail
      go_end0
      exact ⟨rfl, HR.out⟩
end Go.Proofs.Ytllijeciodmckaa
