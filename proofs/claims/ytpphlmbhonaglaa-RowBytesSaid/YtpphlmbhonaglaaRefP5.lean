/-
  The reference of chapter 5: Parse (by gen_refp5.py).
-/
import Derived.Test.YtpphlmbhonaglaaRowR
import Derived.Test.YtpphlmbhonaglaaRefRd3
import Derived.Test.YtpphlmbhonaglaaRChk4
import Derived.LoopN
namespace Go.Proofs.Ytpphlmbhonaglaa
open Go.RowKit
set_option linter.unusedSimpArgs false

theorem Rx.low {w w' : World} {g B : Nat} {D : Option Nat} {l : List UInt8} {e : Int} (h : Rx w g D l e) (hg : g < B) (hD : ∀ b, D = some b → b < B) (k : Below B w w') : Rx w' g D l e := by
  obtain ⟨ao, n, cap, C, p, hb, hi, hp, hn, hd, hDa, hne⟩ := h
  refine ⟨ao, n, cap, C, p, by rw [k.block g hg]; exact hb, ?_, hp, hn, hd, hDa, hne⟩
  by_cases hC : C = []
  · subst hC
    exact ⟨hi.len, hi.le, hi.max, hi.nil, fun a ha j u hu => by cases hu⟩
  · exact hi.below k (fun a ha => hD _ (hDa hC a ha))
theorem rx_err {w : World} {g : Nat} {D : Option Nat} {l : List UInt8} {e : Int} (h : Rx w g D l e) : w.cell? ⟨g, 2, none⟩ = some (.int .i64 e) := by
  obtain ⟨ao, n, cap, B, p, hb, _⟩ := h
  exact cell_blk hb rfl
/-- Behind an error nothing is read any more. -/
theorem r_err (l : List UInt8) (e : Int) (he : e ≠ 0) : rL l e = l ∧ rE l e = e := by
  have h1 : vN 1 l e = 0 := by rw [vN, if_neg he]
  have h2 : dN 1 l e = l := by rw [dN, if_neg he]
  have h3 : eN 1 l e = e := by rw [eN, if_neg he]
  have h4 : upV 3 l e = 0 := by unfold upV; rw [h1]; rfl
  have h5 : upE 3 3 l e = e := by unfold upE; rw [h1, if_neg (by omega), h3]
  unfold rL rE
  rw [h4, h5, h2]
  exact ⟨rfl, rfl⟩
theorem rs_err : ∀ (n : Nat) (l : List UInt8) (e : Int), e ≠ 0 → rLs n l e = l ∧ rEs n l e = e
  | 0, _, _, _ => ⟨rfl, rfl⟩
  | n + 1, l, e, he => by
    obtain ⟨h1, h2⟩ := r_err l e he
    rw [rLs, rEs, h1, h2]
    exact rs_err n l e he
theorem check_r (v : V) (w : World) : Calls Try.prog 42 #[v.val] w fun e w' => e = .returned (.int .i64 v.chk) ∧ Below w.heap.size w w' := rchk4_any v.k v.n v.s w
/-- What has been read when j of K are. -/
structure Got (K : Nat) (l1 : List UInt8) (e1 : Int) (j : Nat) (L : List UInt8) (e : Int) (vs : List V) : Prop where
  le : j ≤ K
  ls : rLs K l1 e1 = rLs (K - j) L e
  es : rEs K l1 e1 = rEs (K - j) L e
  vq : e = 0 → rVs K l1 e1 = vs ++ rVs (K - j) L e
  len : vs.length = j
theorem Got.start (K : Nat) (l1 : List UInt8) (e1 : Int) : Got K l1 e1 0 l1 e1 [] := ⟨Nat.zero_le _, rfl, rfl, fun _ => rfl, rfl⟩
theorem Got.step {K : Nat} {l1 : List UInt8} {e1 : Int} {j : Nat} {L : List UInt8} {vs : List V} (h : Got K l1 e1 j L 0 vs) (hj : j < K) (L' : List UInt8) (e' : Int) (v' : V) (hL : rL L 0 = L') (hE : rE L 0 = e') (hV : e' = 0 → rV L 0 = v') : Got K l1 e1 (j + 1) L' e' (vs ++ [v']) := by
  have hk : K - j = (K - (j + 1)) + 1 := by omega
  refine ⟨by omega, ?_, ?_, fun h0 => ?_, by simp [h.len]⟩
  · rw [h.ls, hk, rLs, hL, hE]
  · rw [h.es, hk, rEs, hL, hE]
  · rw [h.vq rfl, hk, rVs, hL, hE, hV h0, List.append_assoc]
    rfl
/-- The row that is answered: nil, or a row of its own. -/
def NilOr (w : World) (B gr : Nat) (r : Value) (j : Nat) (vs : List V) : Prop := (j = 0 ∧ r = .slice none 0 0) ∨ ∃ g c, 0 < j ∧ r = .slice (some ⟨g, 0, none⟩) j c ∧ OwnR EV w 39 g j c vs ∧ B ≤ g ∧ g ≠ gr
theorem NilOr.isR {w : World} {B gr : Nat} {r : Value} {j : Nat} {vs : List V} (h : NilOr w B gr r j vs) (hl : vs.length = j) : ∃ ao c, r = .slice ao j c ∧ IsR EV w ao j c vs ∧ ∀ a, ao = some a → B ≤ a.block := by
  rcases h with ⟨rfl, rfl⟩ | ⟨g, c, _, rfl, o, hb, _⟩
  · obtain rfl : vs = [] := List.eq_nil_of_length_eq_zero hl
    exact ⟨none, 0, rfl, IsR.nilR w, fun a h => by cases h⟩
  · exact ⟨some ⟨g, 0, none⟩, c, rfl, o.isR, fun a h => by cases h; exact hb⟩
theorem puts_grown {w w' : World} {g n : Nat} (h : Puts w w' g n) : w.grownBy w' (some g) := ⟨h.os, h.tape, h.output, h.size, fun k hk hne => h.block k hk (fun e => hne (by rw [e]))⟩
theorem own_far1 {w : World} {t : TypeId} {g g' n cap : Nat} {l : List V} (h : OwnR EV w t g n cap l) (hne : g ≠ g') (i : Nat) (x : Value) : OwnR EV (w.setCell ⟨g', i, none⟩ x) t g n cap l := h.kept (Below.heap_setCell _ _ _ _ hne)
theorem one_v (v : V) (w : World) : IsR EV (w.alloc (.cells #[.int .i64 v.k, .int .i64 v.n, .string v.s] 39)) (some ⟨w.heap.size, 0, none⟩) 1 1 [v] := (OwnR.ofBlk (E := EV) (l := [v]) (n := 1) (heap_alloc_new w _) rfl rfl (by omega)).isR
/-- How a value is read, by its kind. -/
theorem r_kind (l : List UInt8) : (3 < vN 1 l 0 → rL l 0 = dN 1 l 0 ∧ rE l 0 = err1 (eN 1 l 0) 3 ∧ rE l 0 ≠ 0) ∧
    (vN 1 l 0 = 0 → rL l 0 = dN 1 l 0 ∧ rE l 0 = eN 1 l 0 ∧ rV l 0 = V0) ∧
    (vN 1 l 0 = 1 → rL l 0 = dN 1 (dN 1 l 0) (eN 1 l 0) ∧ rE l 0 = eN 1 (dN 1 l 0) (eN 1 l 0) ∧ rV l 0 = ⟨1, vN 1 (dN 1 l 0) (eN 1 l 0), ⟨#[]⟩⟩) ∧
    (vN 1 l 0 = 2 → rL l 0 = dN 8 (dN 1 l 0) (eN 1 l 0) ∧ rE l 0 = eN 8 (dN 1 l 0) (eN 1 l 0) ∧ rV l 0 = ⟨2, vN 8 (dN 1 l 0) (eN 1 l 0), ⟨#[]⟩⟩) ∧
    (vN 1 l 0 = 3 → rL l 0 = dT (dN 1 l 0) (eN 1 l 0) ∧ rE l 0 = eT (dN 1 l 0) (eN 1 l 0) ∧ rV l 0 = ⟨3, 0, ⟨(vT (dN 1 l 0) (eN 1 l 0)).toArray⟩⟩) := by
  unfold rL rE rV
  refine ⟨fun h => ?_, fun h => ?_, fun h => ?_, fun h => ?_, fun h => ?_⟩
  · have e1 : upV 3 l 0 = 0 := by unfold upV; rw [if_pos h]
    have e2 : upE 3 3 l 0 = err1 (eN 1 l 0) 3 := by unfold upE; rw [if_pos h]
    rw [e1, e2]
    refine ⟨rfl, rfl, ?_⟩
    show err1 (eN 1 l 0) 3 ≠ 0
    unfold err1
    split <;> omega
  all_goals
    have e1 : upV 3 l 0 = vN 1 l 0 := by unfold upV; rw [if_neg (by omega)]
    have e2 : upE 3 3 l 0 = eN 1 l 0 := by unfold upE; rw [if_neg (by omega)]
    rw [e1, e2, h]
    exact ⟨rfl, rfl, rfl⟩
set_option maxRecDepth 100000 in
set_option maxHeartbeats 2000000 in
theorem rparse_gen (ao : Option Addr) (n cap : Nat) (b l1 : List UInt8) (e0 e1 : Int) (N0 : Nat) (K : Nat) (E AE : Int) (vs AV : List V) (w : World) (h : IsB w ao n cap b) (hn : n ≤ 1000000)
    (HB : ∀ (g : Nat) (D : Option Nat) (w : World), Rx w g D b 0 → Calls Try.prog 37 #[.pointer (some ⟨g, 0, none⟩)] w (SaidX w g D (N0 : Nat) l1 e0))
    (hN0 : N0 ≤ 255) (hbig : 6 < N0 → K = 0 ∧ e1 = err1 e0 4 ∧ e1 ≠ 0) (hsmall : N0 ≤ 6 → K = N0 ∧ e1 = e0)
    (hE : Hid (E = endE (rLs K l1 e1) (rEs K l1 e1))) (hV : Hid (vs = rVs K l1 e1)) (A1 : Hid (E ≠ 0 → AE = E ∧ AV = [])) (A2 : Hid (E = 0 → AE = chkAll vs ∧ (AE = 0 → AV = vs) ∧ (AE ≠ 0 → AV = []))) :
    Calls Try.prog 15 #[.slice ao n cap] w (Parsed w AV AE) := by
  obtain ⟨D, hD0⟩ : ∃ D, D = if b = [] then none else ao.map (·.block) := ⟨_, rfl⟩
  have HNEW := xNew ao n cap b w h hn D hD0
  have hD : ∀ x, D = some x → x < w.heap.size := fun x hx => by
    rw [hD0] at hx
    split at hx
    · cases hx
    · rename_i hb0
      obtain ⟨a, rfl, rfl⟩ := Option.map_eq_some_iff.1 hx
      obtain ⟨u, r, rfl⟩ := List.exists_cons_of_ne_nil hb0
      have := World.block_lt_of_cell? w _ (h.cell a rfl 0 u rfl)
      rwa [block_add] at this
  clear hD0 h
  go_enter Try.func15, Try.ntmps15
  by_cases hN : 6 < N0
  · obtain ⟨rfl, h1, h2⟩ := hbig hN
    have hE1 : E = e1 := by
      rw [hE.out]
      show endE l1 e1 = e1
      unfold endE
      rw [if_neg h2]
    obtain ⟨rfl, rfl⟩ := A1.out (by rw [hE1]; exact h2)
    subst hE1
    have hN' : (6 : Int) < N0 := by omega
    have hN2 : ¬ (N0 : Int) ≤ 6 := by omega
    have hN3 : (0 : Int) < N0 := by omega
    have hx : (AE != 0) = true := by simp [h2]
    have hx2 : (AE == 0) = false := by simp [h2]
    have HF := fun (g : Nat) (w' : World) (hr : Rx w' g D l1 e0) => xFail g D l1 e0 4 w' hr
    rw [← h1] at HF
    have HEND := fun (g : Nat) (w' : World) (hr : Rx w' g D l1 AE) => xEnd g D l1 AE w' hr
    have eE : endE l1 AE = AE := by unfold endE; rw [if_neg h2]
    rw [eE] at HEND
    clear hbig hsmall hE hV A1 A2 h1 eE
    go_wp2_with (first
      | (go_at_call 36; (with_reducible refine HNEW.mono ?_); rintro e w1 ⟨g, rfl, R1, b1, q1⟩)
      | (go_at_call 37; (with_reducible refine (HB g D w1 R1).mono ?_); rintro e w2 ⟨rfl, R2, k2⟩; have B2 := below_gr b1 k2 q1)
      | (go_at_call 38; (with_reducible refine (HF g w2 R2).mono ?_); rintro e w3 ⟨rfl, R3, k3⟩; have B3 := below_gr B2 k3 q1; have c3 := rx_err R3))
    go_loopw [6, 7] (fun r i wr => r = .slice none 0 0 ∧ i = .int .i64 0 ∧ w3 = wr) (fun _ _ _ => 0)
    case atStart => exact ⟨rfl, rfl, rfl⟩
    case round =>
      obtain ⟨rfl, rfl, rfl⟩ := hrel
      go_wp2_with (go_at_call 41; (with_reducible refine (HEND g _ R3).mono ?_); rintro e w4 ⟨rfl, b4⟩; have B4 := B3.trans (b4.mono B3.size))
      go_loopw [9, 10] (fun r i wr => r = .int .i64 AE ∧ i = .int .i64 0 ∧ w4 = wr) (fun _ _ _ => 0)
      case atStart => exact ⟨rfl, rfl, rfl⟩
      case round =>
        obtain ⟨rfl, rfl, rfl⟩ := hrel
        go_wp2_with fail
        go_ret2
        exact ⟨none, 0, 0, rfl, IsR.nilR _, B4, fun a h => by cases h⟩
  · obtain ⟨rfl, rfl⟩ := hsmall (by omega)
    have hK6 : K ≤ 6 := by omega
    have hN' : ¬ (6 : Int) < K := by omega
    clear hbig hsmall hN
    go_wp2_with (first
      | (go_at_call 36; (with_reducible refine HNEW.mono ?_); rintro e w1 ⟨g, rfl, R1, b1, q1⟩)
      | (go_at_call 37; (with_reducible refine (HB g D w1 R1).mono ?_); rintro e w2 ⟨rfl, R2, k2⟩; have B2 := below_gr b1 k2 q1))
    clear HB HNEW
    go_loopw [6, 7] (fun r i wr => ∃ (j : Nat) (L : List UInt8) (e : Int) (us : List V), i = .int .i64 (j : Nat) ∧ NilOr wr w.heap.size g r j us ∧ Rx wr g D L e ∧ Below w.heap.size w wr ∧ Hid (Got K l1 e1 j L e us)) (fun _ i _ => K - (intOf i).toNat)
    case atStart => exact ⟨0, l1, e1, [], rfl, .inl ⟨rfl, rfl⟩, R2, B2, Got.start K l1 e1⟩
    case round =>
      obtain ⟨j, L, e, us, rfl, hr, R, hB, hGot⟩ := hrel
      have hjK := hGot.out.le
      have hul := hGot.out.len
      clear R1 R2 k2 b1 B2
      by_cases he : e = 0
      · subst he
        have ce := rx_err R
        by_cases hlt : j < K
        · have gl := R.lt
          obtain ⟨kk1, kk2, kk3, kk4, kk5⟩ := r_kind L
          have HBY := xByte g D L 0 wr R
          have hrng := vN_lo L 0
          have hDp : ∀ (w' : World), Below w.heap.size w w' → ∀ x, D = some x → some x ≠ some w'.heap.size := fun w' hb x hx q => by have := Option.some.inj q; have := hD x hx; have := hb.size; omega
          have H1 := Lib.hid kk1
          have H2 := Lib.hid kk2
          have H3 := Lib.hid kk3
          have H4 := Lib.hid kk4
          have H5 := Lib.hid kk5
          clear kk1 kk2 kk3 kk4 kk5
          generalize vN 1 L 0 = k0 at HBY hrng H1 H2 H3 H4 H5
          generalize dN 1 L 0 = L2 at HBY H1 H2 H3 H4 H5
          generalize eN 1 L 0 = e2 at HBY H1 H2 H3 H4 H5
          have hcase : k0 = 0 ∨ k0 = 1 ∨ k0 = 2 ∨ k0 = 3 ∨ 3 < k0 := by omega
          rcases hcase with hk | hk | hk | hk | hk
          · subst hk
            obtain ⟨gL, gE, gV⟩ := H2.out rfl
            have GOT := Lib.hid (hGot.out.step hlt L2 e2 ⟨0, 0, ⟨#[]⟩⟩ gL gE (fun _ => gV))
            have one' := Lib.hid (one_v ⟨0, 0, ⟨#[]⟩⟩)
            dsimp only at one'
            clear gL gE H1 H2 H3 H4 H5 gV
            rcases hr with ⟨rfl, rfl⟩ | ⟨g6, c6, hp, rfl, ho, hg6, hg6n⟩
            · go_wp2_with (first
                | (go_at_call 37; (with_reducible refine HBY.mono ?_); rintro e w3 ⟨rfl, R3, k3⟩; have B3 := below_gr hB k3 q1; have BX := B3.alloc B3.size (.cells #[.int .i64 0, .int .i64 0, .string ⟨#[]⟩] 39); have RX := R3.below ((Below.refl w3.heap.size w3).alloc (Nat.le_refl _) (.cells #[.int .i64 0, .int .i64 0, .string ⟨#[]⟩] 39)))
                | (at_builtin; have oneX := one'.out (w3.alloc (.cells #[.int .i64 0, .int .i64 0, .string ⟨#[]⟩] 39)); try simp only [World.size_alloc, World.size_setCell] at oneX; refine wpList_append_nr rfl _ _ 22 22 rfl 39 rowTyV 0 rfl rfl _ rfl 1 [⟨0, 0, ⟨#[]⟩⟩] (oneX.src rowTyV.ht) rfl (by omega) (by omega) ?_; intro g7 c7 w7 o7 b7 q7))
              have B5 := BX.alloc BX.size (.cells #[.int .i64 0, .int .i64 0, .string ⟨#[]⟩] 39)
              have R5 := RX.below ((Below.refl _ _).alloc (Nat.le_refl _) (.cells #[.int .i64 0, .int .i64 0, .string ⟨#[]⟩] 39))
              have hus : us = [] := List.eq_nil_of_length_eq_zero hul
              go_roundw
              case rel => exact ⟨1, L2, e2, us ++ [⟨0, 0, ⟨#[]⟩⟩], by go_num, .inr ⟨g7, c7, by omega, rfl, by rw [hus]; exact o7, Nat.le_trans B5.size q7, by have := R5.lt; omega⟩, R5.below b7, B5.trans (b7.mono B5.size), GOT⟩
              case measure => simp [intOf]; omega
            · have hgne : some g6 ≠ some g := fun h => hg6n (Option.some.inj h)
              have hg6l := ho.lt
              have hDg : ∀ x, D = some x → some x ≠ some g6 := fun x hx q => by have := Option.some.inj q; have := hD x hx; omega
              go_wp2_with (first
                | (go_at_call 37; (with_reducible refine HBY.mono ?_); rintro e w3 ⟨rfl, R3, k3⟩; have B3 := below_gr hB k3 q1; have hgp : g6 ≠ w3.heap.size := (by have := k3.size; omega); have BX := B3.alloc B3.size (.cells #[.int .i64 0, .int .i64 0, .string ⟨#[]⟩] 39); have RX := R3.below ((Below.refl w3.heap.size w3).alloc (Nat.le_refl _) (.cells #[.int .i64 0, .int .i64 0, .string ⟨#[]⟩] 39)))
                | (at_builtin; have oneX := one'.out (w3.alloc (.cells #[.int .i64 0, .int .i64 0, .string ⟨#[]⟩] 39)); try simp only [World.size_alloc, World.size_setCell] at oneX; refine wpList_append_or rfl _ _ 22 22 rfl 39 rowTyV g6 j c6 us rfl (((ho.grown k3 hgne).alloc _).alloc _) _ rfl 1 [⟨0, 0, ⟨#[]⟩⟩] (oneX.src rowTyV.ht) rfl (j + 1) rfl _ rfl (by omega) ?_; intro g7 c7 w7 o7 p7 q7))
              have B5 := BX.alloc BX.size (.cells #[.int .i64 0, .int .i64 0, .string ⟨#[]⟩] 39)
              have R5 := RX.below ((Below.refl _ _).alloc (Nat.le_refl _) (.cells #[.int .i64 0, .int .i64 0, .string ⟨#[]⟩] 39))
              have hq7 : g7 = g6 ∨ g < g7 := by have := R5.lt; simp only [World.size_alloc] at q7 this; omega
              go_roundw
              case rel => exact ⟨j + 1, L2, e2, us ++ [⟨0, 0, ⟨#[]⟩⟩], by go_num, .inr ⟨g7, c7, by omega, rfl, o7, ge_old (B5) (Nat.le_refl _) hg6 q7, by omega⟩, R5.kept (puts_grown p7) (fun h => hg6n (Option.some.inj h).symm) hDg, B5.trans (p7.below hg6 B5.size), GOT⟩
              case measure => simp [intOf]; omega
          · subst hk
            obtain ⟨gL, gE, gV⟩ := H3.out rfl
            have H2R := fun (w' : World) (hr : Rx w' g D L2 e2) => xByte g D L2 e2 w' hr
            generalize vN 1 L2 e2 = N at H2R gV
            generalize dN 1 L2 e2 = L3 at H2R gL
            generalize eN 1 L2 e2 = e3 at H2R gE
            have GOT := Lib.hid (hGot.out.step hlt L3 e3 ⟨1, N, ⟨#[]⟩⟩ gL gE (fun _ => gV))
            have one' := Lib.hid (one_v ⟨1, N, ⟨#[]⟩⟩)
            dsimp only at one'
            clear gL gE H1 H2 H3 H4 H5 gV
            rcases hr with ⟨rfl, rfl⟩ | ⟨g6, c6, hp, rfl, ho, hg6, hg6n⟩
            · go_wp2_with (first
                | (go_at_call 37; (with_reducible refine HBY.mono ?_); rintro e w3 ⟨rfl, R3, k3⟩; have B3 := below_gr hB k3 q1; skip)
                | (go_at_call 37; (with_reducible refine (H2R _ ?_).mono ?_); exact R3.below ((Below.refl _ _).alloc (Nat.le_refl _) _); rintro e w4 ⟨rfl, R4, k4⟩; have t4 := (VAt.new w3 1 0 ⟨#[]⟩).grown k4 (fun h => by have := Option.some.inj h; have := k3.size; omega); obtain ⟨z0, z1, z2, x0, x1, x2, xl⟩ := id t4; have B4 := below_gr (B3.alloc B3.size (.cells #[.int .i64 1, .int .i64 0, .string ⟨#[]⟩] 39)) k4 q1; have BX := B4.setCell (p := ⟨w3.heap.size, 1, none⟩) B3.size (.int .i64 N); have RX := R4.kept (row := some w3.heap.size) (grown_setCell (i := 1) (v := .int .i64 N) (World.grownBy.refl _ _)) (fun h => by have := Option.some.inj h; have := k3.size; omega) (hDp w3 B3))
                | (at_builtin; have oneX := one'.out (w4.setCell ⟨w3.heap.size, 1, none⟩ (.int .i64 N)); try simp only [World.size_alloc, World.size_setCell] at oneX; refine wpList_append_nr rfl _ _ 22 22 rfl 39 rowTyV 0 rfl rfl _ rfl 1 [⟨1, N, ⟨#[]⟩⟩] (oneX.src rowTyV.ht) rfl (by omega) (by omega) ?_; intro g7 c7 w7 o7 b7 q7))
              have B5 := BX.alloc BX.size (.cells #[.int .i64 1, .int .i64 N, .string ⟨#[]⟩] 39)
              have R5 := RX.below ((Below.refl _ _).alloc (Nat.le_refl _) (.cells #[.int .i64 1, .int .i64 N, .string ⟨#[]⟩] 39))
              have hus : us = [] := List.eq_nil_of_length_eq_zero hul
              go_roundw
              case rel => exact ⟨1, L3, e3, us ++ [⟨1, N, ⟨#[]⟩⟩], by go_num, .inr ⟨g7, c7, by omega, rfl, by rw [hus]; exact o7, Nat.le_trans B5.size q7, by have := R5.lt; omega⟩, R5.below b7, B5.trans (b7.mono B5.size), GOT⟩
              case measure => simp [intOf]; omega
            · have hgne : some g6 ≠ some g := fun h => hg6n (Option.some.inj h)
              have hg6l := ho.lt
              have hDg : ∀ x, D = some x → some x ≠ some g6 := fun x hx q => by have := Option.some.inj q; have := hD x hx; omega
              go_wp2_with (first
                | (go_at_call 37; (with_reducible refine HBY.mono ?_); rintro e w3 ⟨rfl, R3, k3⟩; have B3 := below_gr hB k3 q1; have hgp : g6 ≠ w3.heap.size := (by have := k3.size; omega); skip)
                | (go_at_call 37; (with_reducible refine (H2R _ ?_).mono ?_); exact R3.below ((Below.refl _ _).alloc (Nat.le_refl _) _); rintro e w4 ⟨rfl, R4, k4⟩; have t4 := (VAt.new w3 1 0 ⟨#[]⟩).grown k4 (fun h => by have := Option.some.inj h; have := k3.size; omega); obtain ⟨z0, z1, z2, x0, x1, x2, xl⟩ := id t4; have B4 := below_gr (B3.alloc B3.size (.cells #[.int .i64 1, .int .i64 0, .string ⟨#[]⟩] 39)) k4 q1; have BX := B4.setCell (p := ⟨w3.heap.size, 1, none⟩) B3.size (.int .i64 N); have RX := R4.kept (row := some w3.heap.size) (grown_setCell (i := 1) (v := .int .i64 N) (World.grownBy.refl _ _)) (fun h => by have := Option.some.inj h; have := k3.size; omega) (hDp w3 B3))
                | (at_builtin; have oneX := one'.out (w4.setCell ⟨w3.heap.size, 1, none⟩ (.int .i64 N)); try simp only [World.size_alloc, World.size_setCell] at oneX; refine wpList_append_or rfl _ _ 22 22 rfl 39 rowTyV g6 j c6 us rfl ((own_far1 ((ho.grown k3 hgne).alloc _ |>.grown k4 hgne) hgp 1 (.int .i64 N)).alloc _) _ rfl 1 [⟨1, N, ⟨#[]⟩⟩] (oneX.src rowTyV.ht) rfl (j + 1) rfl _ rfl (by omega) ?_; intro g7 c7 w7 o7 p7 q7))
              have B5 := BX.alloc BX.size (.cells #[.int .i64 1, .int .i64 N, .string ⟨#[]⟩] 39)
              have R5 := RX.below ((Below.refl _ _).alloc (Nat.le_refl _) (.cells #[.int .i64 1, .int .i64 N, .string ⟨#[]⟩] 39))
              have hq7 : g7 = g6 ∨ g < g7 := by have := R5.lt; simp only [World.size_alloc] at q7 this; omega
              go_roundw
              case rel => exact ⟨j + 1, L3, e3, us ++ [⟨1, N, ⟨#[]⟩⟩], by go_num, .inr ⟨g7, c7, by omega, rfl, o7, ge_old (B5) (Nat.le_refl _) hg6 q7, by omega⟩, R5.kept (puts_grown p7) (fun h => hg6n (Option.some.inj h).symm) hDg, B5.trans (p7.below hg6 B5.size), GOT⟩
              case measure => simp [intOf]; omega
          · subst hk
            obtain ⟨gL, gE, gV⟩ := H4.out rfl
            have H2R := fun (w' : World) (hr : Rx w' g D L2 e2) => xInt g D L2 e2 w' hr
            generalize vN 8 L2 e2 = N at H2R gV
            generalize dN 8 L2 e2 = L3 at H2R gL
            generalize eN 8 L2 e2 = e3 at H2R gE
            have GOT := Lib.hid (hGot.out.step hlt L3 e3 ⟨2, N, ⟨#[]⟩⟩ gL gE (fun _ => gV))
            have one' := Lib.hid (one_v ⟨2, N, ⟨#[]⟩⟩)
            dsimp only at one'
            clear gL gE H1 H2 H3 H4 H5 gV
            rcases hr with ⟨rfl, rfl⟩ | ⟨g6, c6, hp, rfl, ho, hg6, hg6n⟩
            · go_wp2_with (first
                | (go_at_call 37; (with_reducible refine HBY.mono ?_); rintro e w3 ⟨rfl, R3, k3⟩; have B3 := below_gr hB k3 q1; skip)
                | (go_at_call 39; (with_reducible refine (H2R _ ?_).mono ?_); exact R3.below ((Below.refl _ _).alloc (Nat.le_refl _) _); rintro e w4 ⟨rfl, R4, k4⟩; have t4 := (VAt.new w3 2 0 ⟨#[]⟩).grown k4 (fun h => by have := Option.some.inj h; have := k3.size; omega); obtain ⟨z0, z1, z2, x0, x1, x2, xl⟩ := id t4; have B4 := below_gr (B3.alloc B3.size (.cells #[.int .i64 2, .int .i64 0, .string ⟨#[]⟩] 39)) k4 q1; have BX := B4.setCell (p := ⟨w3.heap.size, 1, none⟩) B3.size (.int .i64 N); have RX := R4.kept (row := some w3.heap.size) (grown_setCell (i := 1) (v := .int .i64 N) (World.grownBy.refl _ _)) (fun h => by have := Option.some.inj h; have := k3.size; omega) (hDp w3 B3))
                | (at_builtin; have oneX := one'.out (w4.setCell ⟨w3.heap.size, 1, none⟩ (.int .i64 N)); try simp only [World.size_alloc, World.size_setCell] at oneX; refine wpList_append_nr rfl _ _ 22 22 rfl 39 rowTyV 0 rfl rfl _ rfl 1 [⟨2, N, ⟨#[]⟩⟩] (oneX.src rowTyV.ht) rfl (by omega) (by omega) ?_; intro g7 c7 w7 o7 b7 q7))
              have B5 := BX.alloc BX.size (.cells #[.int .i64 2, .int .i64 N, .string ⟨#[]⟩] 39)
              have R5 := RX.below ((Below.refl _ _).alloc (Nat.le_refl _) (.cells #[.int .i64 2, .int .i64 N, .string ⟨#[]⟩] 39))
              have hus : us = [] := List.eq_nil_of_length_eq_zero hul
              go_roundw
              case rel => exact ⟨1, L3, e3, us ++ [⟨2, N, ⟨#[]⟩⟩], by go_num, .inr ⟨g7, c7, by omega, rfl, by rw [hus]; exact o7, Nat.le_trans B5.size q7, by have := R5.lt; omega⟩, R5.below b7, B5.trans (b7.mono B5.size), GOT⟩
              case measure => simp [intOf]; omega
            · have hgne : some g6 ≠ some g := fun h => hg6n (Option.some.inj h)
              have hg6l := ho.lt
              have hDg : ∀ x, D = some x → some x ≠ some g6 := fun x hx q => by have := Option.some.inj q; have := hD x hx; omega
              go_wp2_with (first
                | (go_at_call 37; (with_reducible refine HBY.mono ?_); rintro e w3 ⟨rfl, R3, k3⟩; have B3 := below_gr hB k3 q1; have hgp : g6 ≠ w3.heap.size := (by have := k3.size; omega); skip)
                | (go_at_call 39; (with_reducible refine (H2R _ ?_).mono ?_); exact R3.below ((Below.refl _ _).alloc (Nat.le_refl _) _); rintro e w4 ⟨rfl, R4, k4⟩; have t4 := (VAt.new w3 2 0 ⟨#[]⟩).grown k4 (fun h => by have := Option.some.inj h; have := k3.size; omega); obtain ⟨z0, z1, z2, x0, x1, x2, xl⟩ := id t4; have B4 := below_gr (B3.alloc B3.size (.cells #[.int .i64 2, .int .i64 0, .string ⟨#[]⟩] 39)) k4 q1; have BX := B4.setCell (p := ⟨w3.heap.size, 1, none⟩) B3.size (.int .i64 N); have RX := R4.kept (row := some w3.heap.size) (grown_setCell (i := 1) (v := .int .i64 N) (World.grownBy.refl _ _)) (fun h => by have := Option.some.inj h; have := k3.size; omega) (hDp w3 B3))
                | (at_builtin; have oneX := one'.out (w4.setCell ⟨w3.heap.size, 1, none⟩ (.int .i64 N)); try simp only [World.size_alloc, World.size_setCell] at oneX; refine wpList_append_or rfl _ _ 22 22 rfl 39 rowTyV g6 j c6 us rfl ((own_far1 ((ho.grown k3 hgne).alloc _ |>.grown k4 hgne) hgp 1 (.int .i64 N)).alloc _) _ rfl 1 [⟨2, N, ⟨#[]⟩⟩] (oneX.src rowTyV.ht) rfl (j + 1) rfl _ rfl (by omega) ?_; intro g7 c7 w7 o7 p7 q7))
              have B5 := BX.alloc BX.size (.cells #[.int .i64 2, .int .i64 N, .string ⟨#[]⟩] 39)
              have R5 := RX.below ((Below.refl _ _).alloc (Nat.le_refl _) (.cells #[.int .i64 2, .int .i64 N, .string ⟨#[]⟩] 39))
              have hq7 : g7 = g6 ∨ g < g7 := by have := R5.lt; simp only [World.size_alloc] at q7 this; omega
              go_roundw
              case rel => exact ⟨j + 1, L3, e3, us ++ [⟨2, N, ⟨#[]⟩⟩], by go_num, .inr ⟨g7, c7, by omega, rfl, o7, ge_old (B5) (Nat.le_refl _) hg6 q7, by omega⟩, R5.kept (puts_grown p7) (fun h => hg6n (Option.some.inj h).symm) hDg, B5.trans (p7.below hg6 B5.size), GOT⟩
              case measure => simp [intOf]; omega
          · subst hk
            obtain ⟨gL, gE, gV⟩ := H5.out rfl
            have H2R := fun (w' : World) (hr : Rx w' g D L2 e2) => xText g D L2 e2 w' hr
            generalize vT L2 e2 = t at H2R gV
            generalize dT L2 e2 = L3 at H2R gL
            generalize eT L2 e2 = e3 at H2R gE
            have GOT := Lib.hid (hGot.out.step hlt L3 e3 ⟨3, 0, ⟨t.toArray⟩⟩ gL gE (fun _ => gV))
            have one' := Lib.hid (one_v ⟨3, 0, ⟨t.toArray⟩⟩)
            dsimp only at one'
            clear gL gE H1 H2 H3 H4 H5 gV
            rcases hr with ⟨rfl, rfl⟩ | ⟨g6, c6, hp, rfl, ho, hg6, hg6n⟩
            · go_wp2_with (first
                | (go_at_call 37; (with_reducible refine HBY.mono ?_); rintro e w3 ⟨rfl, R3, k3⟩; have B3 := below_gr hB k3 q1; skip)
                | (go_at_call 40; (with_reducible refine (H2R _ ?_).mono ?_); exact R3.below ((Below.refl _ _).alloc (Nat.le_refl _) _); rintro e w4 ⟨rfl, R4, k4⟩; have t4 := (VAt.new w3 3 0 ⟨#[]⟩).grown k4 (fun h => by have := Option.some.inj h; have := k3.size; omega); obtain ⟨z0, z1, z2, x0, x1, x2, xl⟩ := id t4; have B4 := below_gr (B3.alloc B3.size (.cells #[.int .i64 3, .int .i64 0, .string ⟨#[]⟩] 39)) k4 q1; have BX := B4.setCell (p := ⟨w3.heap.size, 2, none⟩) B3.size (.string ⟨t.toArray⟩); have RX := R4.kept (row := some w3.heap.size) (grown_setCell (i := 2) (v := .string ⟨t.toArray⟩) (World.grownBy.refl _ _)) (fun h => by have := Option.some.inj h; have := k3.size; omega) (hDp w3 B3))
                | (at_builtin; have oneX := one'.out (w4.setCell ⟨w3.heap.size, 2, none⟩ (.string ⟨t.toArray⟩)); try simp only [World.size_alloc, World.size_setCell] at oneX; refine wpList_append_nr rfl _ _ 22 22 rfl 39 rowTyV 0 rfl rfl _ rfl 1 [⟨3, 0, ⟨t.toArray⟩⟩] (oneX.src rowTyV.ht) rfl (by omega) (by omega) ?_; intro g7 c7 w7 o7 b7 q7))
              have B5 := BX.alloc BX.size (.cells #[.int .i64 3, .int .i64 0, .string ⟨t.toArray⟩] 39)
              have R5 := RX.below ((Below.refl _ _).alloc (Nat.le_refl _) (.cells #[.int .i64 3, .int .i64 0, .string ⟨t.toArray⟩] 39))
              have hus : us = [] := List.eq_nil_of_length_eq_zero hul
              go_roundw
              case rel => exact ⟨1, L3, e3, us ++ [⟨3, 0, ⟨t.toArray⟩⟩], by go_num, .inr ⟨g7, c7, by omega, rfl, by rw [hus]; exact o7, Nat.le_trans B5.size q7, by have := R5.lt; omega⟩, R5.below b7, B5.trans (b7.mono B5.size), GOT⟩
              case measure => simp [intOf]; omega
            · have hgne : some g6 ≠ some g := fun h => hg6n (Option.some.inj h)
              have hg6l := ho.lt
              have hDg : ∀ x, D = some x → some x ≠ some g6 := fun x hx q => by have := Option.some.inj q; have := hD x hx; omega
              go_wp2_with (first
                | (go_at_call 37; (with_reducible refine HBY.mono ?_); rintro e w3 ⟨rfl, R3, k3⟩; have B3 := below_gr hB k3 q1; have hgp : g6 ≠ w3.heap.size := (by have := k3.size; omega); skip)
                | (go_at_call 40; (with_reducible refine (H2R _ ?_).mono ?_); exact R3.below ((Below.refl _ _).alloc (Nat.le_refl _) _); rintro e w4 ⟨rfl, R4, k4⟩; have t4 := (VAt.new w3 3 0 ⟨#[]⟩).grown k4 (fun h => by have := Option.some.inj h; have := k3.size; omega); obtain ⟨z0, z1, z2, x0, x1, x2, xl⟩ := id t4; have B4 := below_gr (B3.alloc B3.size (.cells #[.int .i64 3, .int .i64 0, .string ⟨#[]⟩] 39)) k4 q1; have BX := B4.setCell (p := ⟨w3.heap.size, 2, none⟩) B3.size (.string ⟨t.toArray⟩); have RX := R4.kept (row := some w3.heap.size) (grown_setCell (i := 2) (v := .string ⟨t.toArray⟩) (World.grownBy.refl _ _)) (fun h => by have := Option.some.inj h; have := k3.size; omega) (hDp w3 B3))
                | (at_builtin; have oneX := one'.out (w4.setCell ⟨w3.heap.size, 2, none⟩ (.string ⟨t.toArray⟩)); try simp only [World.size_alloc, World.size_setCell] at oneX; refine wpList_append_or rfl _ _ 22 22 rfl 39 rowTyV g6 j c6 us rfl ((own_far1 ((ho.grown k3 hgne).alloc _ |>.grown k4 hgne) hgp 2 (.string ⟨t.toArray⟩)).alloc _) _ rfl 1 [⟨3, 0, ⟨t.toArray⟩⟩] (oneX.src rowTyV.ht) rfl (j + 1) rfl _ rfl (by omega) ?_; intro g7 c7 w7 o7 p7 q7))
              have B5 := BX.alloc BX.size (.cells #[.int .i64 3, .int .i64 0, .string ⟨t.toArray⟩] 39)
              have R5 := RX.below ((Below.refl _ _).alloc (Nat.le_refl _) (.cells #[.int .i64 3, .int .i64 0, .string ⟨t.toArray⟩] 39))
              have hq7 : g7 = g6 ∨ g < g7 := by have := R5.lt; simp only [World.size_alloc] at q7 this; omega
              go_roundw
              case rel => exact ⟨j + 1, L3, e3, us ++ [⟨3, 0, ⟨t.toArray⟩⟩], by go_num, .inr ⟨g7, c7, by omega, rfl, o7, ge_old (B5) (Nat.le_refl _) hg6 q7, by omega⟩, R5.kept (puts_grown p7) (fun h => hg6n (Option.some.inj h).symm) hDg, B5.trans (p7.below hg6 B5.size), GOT⟩
              case measure => simp [intOf]; omega
          · obtain ⟨gL, gE, gN⟩ := H1.out hk
            have HFF := fun (w' : World) (hr : Rx w' g D L2 e2) => xFail g D L2 e2 3 w' hr
            generalize err1 e2 3 = ef at HFF gE
            have hk3 : ¬ k0 ≤ 3 := by omega
            have b1' : (k0 == 1) = false := by simp; omega
            have b2' : (k0 == 2) = false := by simp; omega
            have b3' : (k0 == 3) = false := by simp; omega
            have GOT := Lib.hid (hGot.out.step hlt L2 ef ⟨k0, 0, ⟨#[]⟩⟩ gL gE (fun h => absurd (gE.trans h) gN))
            have one' := Lib.hid (one_v ⟨k0, 0, ⟨#[]⟩⟩)
            dsimp only at one'
            clear gL gE H1 H2 H3 H4 H5 gN
            rcases hr with ⟨rfl, rfl⟩ | ⟨g6, c6, hp, rfl, ho, hg6, hg6n⟩
            · go_wp2_with (first
                | (go_at_call 37; (with_reducible refine HBY.mono ?_); rintro e w3 ⟨rfl, R3, k3⟩; have B3 := below_gr hB k3 q1; skip)
                | (go_at_call 38; (with_reducible refine (HFF _ ?_).mono ?_); exact R3.below ((Below.refl _ _).alloc (Nat.le_refl _) _); rintro e w4 ⟨rfl, R4, k4⟩; have t4 := (VAt.new w3 k0 0 ⟨#[]⟩).grown k4 (fun h => by have := Option.some.inj h; have := k3.size; omega); obtain ⟨z0, z1, z2, x0, x1, x2, xl⟩ := id t4; have RX := R4; have BX := below_gr (B3.alloc B3.size (.cells #[.int .i64 k0, .int .i64 0, .string ⟨#[]⟩] 39)) k4 q1)
                | (at_builtin; have oneX := one'.out w4; refine wpList_append_nr rfl _ _ 22 22 rfl 39 rowTyV 0 rfl rfl (.slice (some ⟨w4.heap.size, 0, none⟩) 1 1) rfl 1 [⟨k0, 0, ⟨#[]⟩⟩] ?_ rfl (by omega) (by omega) ?_; exact oneX.src rowTyV.ht; intro g7 c7 w7 o7 b7 q7))
              have B5 := BX.alloc BX.size (.cells #[.int .i64 k0, .int .i64 0, .string ⟨#[]⟩] 39)
              have R5 := RX.below ((Below.refl _ _).alloc (Nat.le_refl _) (.cells #[.int .i64 k0, .int .i64 0, .string ⟨#[]⟩] 39))
              have hus : us = [] := List.eq_nil_of_length_eq_zero hul
              go_roundw
              case rel => exact ⟨1, L2, ef, us ++ [⟨k0, 0, ⟨#[]⟩⟩], by go_num, .inr ⟨g7, c7, by omega, rfl, by rw [hus]; exact o7, Nat.le_trans B5.size q7, by have := R5.lt; omega⟩, R5.below b7, B5.trans (b7.mono B5.size), GOT⟩
              case measure => simp [intOf]; omega
            · have hgne : some g6 ≠ some g := fun h => hg6n (Option.some.inj h)
              have hg6l := ho.lt
              have hDg : ∀ x, D = some x → some x ≠ some g6 := fun x hx q => by have := Option.some.inj q; have := hD x hx; omega
              go_wp2_with (first
                | (go_at_call 37; (with_reducible refine HBY.mono ?_); rintro e w3 ⟨rfl, R3, k3⟩; have B3 := below_gr hB k3 q1; have hgp : g6 ≠ w3.heap.size := (by have := k3.size; omega); skip)
                | (go_at_call 38; (with_reducible refine (HFF _ ?_).mono ?_); exact R3.below ((Below.refl _ _).alloc (Nat.le_refl _) _); rintro e w4 ⟨rfl, R4, k4⟩; have t4 := (VAt.new w3 k0 0 ⟨#[]⟩).grown k4 (fun h => by have := Option.some.inj h; have := k3.size; omega); obtain ⟨z0, z1, z2, x0, x1, x2, xl⟩ := id t4; have RX := R4; have BX := below_gr (B3.alloc B3.size (.cells #[.int .i64 k0, .int .i64 0, .string ⟨#[]⟩] 39)) k4 q1)
                | (at_builtin; have oneX := one'.out w4; refine wpList_append_or rfl _ _ 22 22 rfl 39 rowTyV g6 j c6 us rfl ?_ (.slice (some ⟨w4.heap.size, 0, none⟩) 1 1) rfl 1 [⟨k0, 0, ⟨#[]⟩⟩] ?_ rfl (j + 1) rfl _ rfl (by omega) ?_; exact (((ho.grown k3 hgne).alloc _ |>.grown k4 hgne).alloc _); exact oneX.src rowTyV.ht; intro g7 c7 w7 o7 p7 q7))
              have B5 := BX.alloc BX.size (.cells #[.int .i64 k0, .int .i64 0, .string ⟨#[]⟩] 39)
              have R5 := RX.below ((Below.refl _ _).alloc (Nat.le_refl _) (.cells #[.int .i64 k0, .int .i64 0, .string ⟨#[]⟩] 39))
              have hq7 : g7 = g6 ∨ g < g7 := by have := R5.lt; simp only [World.size_alloc] at q7 this; omega
              go_roundw
              case rel => exact ⟨j + 1, L2, ef, us ++ [⟨k0, 0, ⟨#[]⟩⟩], by go_num, .inr ⟨g7, c7, by omega, rfl, o7, ge_old (B5) (Nat.le_refl _) hg6 q7, by omega⟩, R5.kept (puts_grown p7) (fun h => hg6n (Option.some.inj h).symm) hDg, B5.trans (p7.below hg6 B5.size), GOT⟩
              case measure => simp [intOf]; omega
        · obtain rfl : j = K := by omega
          have g1 := hGot.out.ls
          have g2 := hGot.out.es
          have g3 := hGot.out.vq rfl
          rw [Nat.sub_self] at g1 g2 g3
          have hus : vs = us := by rw [hV.out, g3]; exact List.append_nil _
          have hE' : endE L 0 = E := by rw [hE.out, g1, g2]; rfl
          obtain ⟨ao2, c2, rfl, hi, hao⟩ := hr.isR hul
          have HEND := fun (w' : World) (hr : Rx w' g D L 0) => xEnd g D L 0 w' hr
          rw [hE'] at HEND
          clear hE hV hE' hGot g1 g2 g3 hr
          subst hus
          by_cases hE0 : E = 0
          · obtain ⟨p1, p2, p3⟩ := A2.out hE0
            have P1 := Lib.hid p1
            have P2 := Lib.hid p2
            have P3 := Lib.hid p3
            clear A1 A2 p1 p2 p3
            subst hE0
            go_wp2_with (go_at_call 41; (with_reducible refine (HEND _ R).mono ?_); rintro e w4 ⟨rfl, b4⟩; have B4 := hB.trans (b4.mono hB.size))
            clear HEND
            go_loopw [9, 10] (fun x i wr => ∃ (q : Nat) (X : Int), q ≤ j ∧ i = .int .i64 (q : Nat) ∧ x = .int .i64 X ∧ Below w.heap.size w wr ∧ IsR EV wr ao2 j c2 vs ∧ Hid (chkAll vs = if X = 0 then chkAll (vs.drop q) else X)) (fun _ i _ => j - (intOf i).toNat)
            case atStart => exact ⟨0, 0, by omega, rfl, rfl, B4, hi.past b4, by unfold Hid; rw [if_pos rfl]; rfl⟩
            case round =>
              obtain ⟨q, X, hq, rfl, rfl, hB', hi', hc⟩ := hrel
              by_cases hX : X = 0
              · subst hX
                replace hc := Lib.hid (hc.out.trans (if_pos rfl))
                by_cases hlt' : q < j
                · obtain ⟨v, hv⟩ : ∃ v, vs[q]? = some v := ⟨vs[q]'(by omega), List.getElem?_eq_getElem _⟩
                  have hcj := chkAll_drop vs q v hv
                  obtain ⟨b2, off, rfl, hb2, hcc⟩ := hi'.open (by omega) (by decide)
                  obtain ⟨c0, c1, c2'⟩ := cells_v hcc q v hv
                  have HC := check_r v
                  obtain ⟨vk, vn, vs'⟩ := v
                  simp only at c0 c1 c2'
                  simp only [V.val] at HC
                  generalize V.chk ⟨vk, vn, vs'⟩ = x at HC hcj
                  have HJ := Lib.hid (hc.out.trans hcj)
                  clear hcc hv hcj
                  go_wp2_with (go_at_call 42; (with_reducible refine (HC _).mono ?_); rintro en w6 ⟨rfl, b6⟩; have B6 := b6)
                  go_roundw
                  case rel => exact ⟨q + 1, x, by omega, by go_num, rfl, hB'.trans (B6.mono hB'.size), hi'.past B6, HJ⟩
                  case measure => simp [intOf]; omega
                · obtain rfl : q = j := by omega
                  rw [List.drop_eq_nil_of_le (by omega)] at hc
                  have h0 : AE = 0 := P1.out.trans hc.out
                  go_wp2_with fail
                  go_ret2
                  subst h0
                  rw [P2.out rfl]
                  exact ⟨ao2, q, c2, rfl, hi', hB', hao⟩
              · have e0 : AE = X := P1.out.trans (hc.out.trans (if_neg hX))
                subst e0
                have hx : (AE != 0) = true := by simp [hX]
                have hx2 : (AE == 0) = false := by simp [hX]
                by_cases hlt' : q < j
                · have hlt2 : (q : Int) < j := by omega
                  go_wp2_with fail
                  go_ret2
                  rw [P3.out hX]
                  exact ⟨none, 0, 0, rfl, IsR.nilR _, hB', fun a h => by cases h⟩
                · have hlt2 : ¬ (q : Int) < j := by omega
                  go_wp2_with fail
                  go_ret2
                  rw [P3.out hX]
                  exact ⟨none, 0, 0, rfl, IsR.nilR _, hB', fun a h => by cases h⟩
          · obtain ⟨rfl, rfl⟩ := A1.out hE0
            have hx : (AE != 0) = true := by simp [hE0]
            have hx2 : (AE == 0) = false := by simp [hE0]
            clear A1 A2
            go_wp2_with (go_at_call 41; (with_reducible refine (HEND _ R).mono ?_); rintro e w4 ⟨rfl, b4⟩; have B4 := hB.trans (b4.mono hB.size))
            clear HEND
            go_loopw [9, 10] (fun r i wr => r = .int .i64 AE ∧ i = .int .i64 0 ∧ w4 = wr) (fun _ _ _ => 0)
            case atStart => exact ⟨rfl, rfl, rfl⟩
            case round =>
              obtain ⟨rfl, rfl, rfl⟩ := hrel
              rcases Nat.eq_zero_or_pos j with hj0 | hj0
              · subst hj0
                go_wp2_with fail
                go_ret2
                exact ⟨none, 0, 0, rfl, IsR.nilR _, B4, fun a h => by cases h⟩
              · have hj1 : (0 : Int) < j := by omega
                go_wp2_with fail
                go_ret2
                exact ⟨none, 0, 0, rfl, IsR.nilR _, B4, fun a h => by cases h⟩
      · have ce := rx_err R
        obtain ⟨g1, g2⟩ := rs_err (K - j) L e he
        have hE' : E = e := by
          rw [hE.out, hGot.out.ls, hGot.out.es, g1, g2]
          unfold endE
          rw [if_neg he]
        have hE2 : endE L e = e := by unfold endE; rw [if_neg he]
        obtain ⟨rfl, rfl⟩ := A1.out (by rw [hE']; exact he)
        obtain ⟨ao2, c2, rfl, hi, hao⟩ := hr.isR hul
        have HEND := fun (w' : World) (hr : Rx w' g D L e) => xEnd g D L e w' hr
        rw [hE2] at HEND
        clear hE hV hGot g1 g2 hr A1 A2 hE2
        subst hE'
        have hx : (AE != 0) = true := by simp [he]
        have hx2 : (AE == 0) = false := by simp [he]
        by_cases hlt : j < K
        · have hlt2 : (j : Int) < K := by omega
          go_wp2_with (go_at_call 41; (with_reducible refine (HEND _ R).mono ?_); rintro e w4 ⟨rfl, b4⟩; have B4 := hB.trans (b4.mono hB.size))
          clear HEND
          go_loopw [9, 10] (fun r i wr => r = .int .i64 AE ∧ i = .int .i64 0 ∧ w4 = wr) (fun _ _ _ => 0)
          case atStart => exact ⟨rfl, rfl, rfl⟩
          case round =>
            obtain ⟨rfl, rfl, rfl⟩ := hrel
            rcases Nat.eq_zero_or_pos j with hj0 | hj0
            · subst hj0
              go_wp2_with fail
              go_ret2
              exact ⟨none, 0, 0, rfl, IsR.nilR _, B4, fun a h => by cases h⟩
            · have hj1 : (0 : Int) < j := by omega
              go_wp2_with fail
              go_ret2
              exact ⟨none, 0, 0, rfl, IsR.nilR _, B4, fun a h => by cases h⟩
        · have hlt2 : ¬ (j : Int) < K := by omega
          go_wp2_with (go_at_call 41; (with_reducible refine (HEND _ R).mono ?_); rintro e w4 ⟨rfl, b4⟩; have B4 := hB.trans (b4.mono hB.size))
          clear HEND
          go_loopw [9, 10] (fun r i wr => r = .int .i64 AE ∧ i = .int .i64 0 ∧ w4 = wr) (fun _ _ _ => 0)
          case atStart => exact ⟨rfl, rfl, rfl⟩
          case round =>
            obtain ⟨rfl, rfl, rfl⟩ := hrel
            rcases Nat.eq_zero_or_pos j with hj0 | hj0
            · subst hj0
              go_wp2_with fail
              go_ret2
              exact ⟨none, 0, 0, rfl, IsR.nilR _, B4, fun a h => by cases h⟩
            · have hj1 : (0 : Int) < j := by omega
              go_wp2_with fail
              go_ret2
              exact ⟨none, 0, 0, rfl, IsR.nilR _, B4, fun a h => by cases h⟩
theorem rparse_any (ao : Option Addr) (n cap : Nat) (b : List UInt8) (w : World) (h : IsB w ao n cap b) (hn : n ≤ 1000000) :
    Calls Try.prog 15 #[.slice ao n cap] w (Parsed w (parV b) (parE b)) := by
  have hlo := vN_lo b 0
  obtain ⟨N0, hN⟩ : ∃ N0 : Nat, vN 1 b 0 = (N0 : Nat) := ⟨(vN 1 b 0).toNat, by omega⟩
  refine rparse_gen ao n cap b (dN 1 b 0) (eN 1 b 0) (upE 6 4 b 0) N0 (pN b) (pE b) (parE b) (pV b) (parV b) w h hn (fun g D w hr => ?_) (by omega) (fun h6 => ?_) (fun h6 => ?_) rfl rfl (fun h0 => ?_) (fun h0 => ?_)
  · rw [← hN]
    exact xByte g D b 0 w hr
  · have e1 : upV 6 b 0 = 0 := by unfold upV; rw [if_pos (by omega)]
    have e2 : upE 6 4 b 0 = err1 (eN 1 b 0) 4 := by unfold upE; rw [if_pos (by omega)]
    refine ⟨by unfold pN; rw [e1]; rfl, e2, ?_⟩
    rw [e2]
    unfold err1
    split <;> omega
  · have e1 : upV 6 b 0 = vN 1 b 0 := by unfold upV; rw [if_neg (by omega)]
    have e2 : upE 6 4 b 0 = eN 1 b 0 := by unfold upE; rw [if_neg (by omega)]
    exact ⟨by unfold pN; rw [e1, hN]; rfl, e2⟩
  · have e : parE b = pE b := by unfold parE; rw [if_neg h0]
    exact ⟨e, by unfold parV; rw [e, if_neg h0]⟩
  · refine ⟨by unfold parE; rw [if_pos h0], fun h1 => by unfold parV; rw [if_pos h1], fun h1 => by unfold parV; rw [if_neg h1]⟩
end Go.Proofs.Ytpphlmbhonaglaa
