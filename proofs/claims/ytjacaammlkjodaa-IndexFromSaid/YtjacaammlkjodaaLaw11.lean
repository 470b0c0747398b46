/-
  Statements of chapter 11: what they have in common: within, Fill; Of (by gen_law11.py).
-/
import Derived.Test.YtjacaammlkjodaaRTab
import Derived.Test.YtjacaammlkjodaaTakeU
import Derived.Test.YtjacaammlkjodaaIxAll
import Derived.Test.YtjacaammlkjodaaEI
namespace Go.Proofs.Ytjacaammlkjodaa
open Go.RowKit
set_option linter.unusedSimpArgs false
theorem within11_any (a n : Int) (w : World) (hn : 0 < n) (hn2 : n ≤ 1000000) :
    Calls Try.prog 16 #[.int .i64 a, .int .i64 n] w fun e w' => e = .returned (.int .i64 (wth a n)) ∧ w = w' := by
  have h1 := Int.lt_tmod_of_pos a hn
  have h2 := Int.tmod_lt_of_pos a hn
  have hz : (n == 0) = false := by simp; omega
  by_cases h3 : a.tmod n < 0
  · go_enter Try.func16, Try.ntmps16
    go_wp2_with fail
    go_ret
    exact ⟨ret_int (by unfold wth; rw [if_pos h3]), rfl⟩
  · go_enter Try.func16, Try.ntmps16
    go_wp2_with fail
    go_ret
    exact ⟨ret_int (by unfold wth; rw [if_neg (by omega)]), rfl⟩
theorem of_any (w : World) (l : List UInt8) (co : Option Addr) (cn cc : Nat) (ky : Nat) (only : Bool) (ro : Option Addr) (rn rc : Nat) :
    Calls Try.prog 19 #[tbV l co cn cc (ky : Nat) only ro rn rc] w fun e w' => e = .returned (tbV l co cn cc (ky : Nat) only ro rn rc) ∧ Below w.heap.size w w' := by
  unfold tbV
  have B0 : Below w.heap.size w ((w.alloc (.cells #[.string (bsOf l), .slice co cn cc, .int .i64 (ky : Nat), .bool only, .slice ro rn rc] 33)).alloc (.cells #[.string ⟨#[]⟩, .slice none 0 0, .int .i64 0, .bool false, .slice none 0 0] 37)) := ((Below.refl _ _).alloc (Nat.le_refl _) _).alloc (by simp) _
  have hT : Bk ((w.alloc (.cells #[.string (bsOf l), .slice co cn cc, .int .i64 (ky : Nat), .bool only, .slice ro rn rc] 33)).alloc (.cells #[.string ⟨#[]⟩, .slice none 0 0, .int .i64 0, .bool false, .slice none 0 0] 37)) w.heap.size (tbC l co cn cc (ky : Nat) only ro rn rc) 33 := (Bk.new w _ _).alloc _
  have hR : Bk ((w.alloc (.cells #[.string (bsOf l), .slice co cn cc, .int .i64 (ky : Nat), .bool only, .slice ro rn rc] 33)).alloc (.cells #[.string ⟨#[]⟩, .slice none 0 0, .int .i64 0, .bool false, .slice none 0 0] 37)) (w.heap.size + 1) (tbC [] none 0 0 0 false none 0 0) 37 := by
    have := Bk.new (w.alloc (.cells #[.string (bsOf l), .slice co cn cc, .int .i64 (ky : Nat), .bool only, .slice ro rn rc] 33)) #[.string ⟨#[]⟩, .slice none 0 0, .int .i64 0, .bool false, .slice none 0 0] 37
    rwa [World.size_alloc] at this
  go_enter Try.func19, Try.ntmps19
  go_upto_region 1 with fail
  generalize (w.alloc (.cells #[.string (bsOf l), .slice co cn cc, .int .i64 (ky : Nat), .bool only, .slice ro rn rc] 33)).alloc (.cells #[.string ⟨#[]⟩, .slice none 0 0, .int .i64 0, .bool false, .slice none 0 0] 37) = W at B0 hT hR ⊢
  obtain ⟨p, hp⟩ : ∃ p, w.heap.size = p := ⟨_, rfl⟩
  obtain ⟨r, hr⟩ : ∃ r, p + 1 = r := ⟨_, rfl⟩
  rw [hp] at hT hR
  rw [hr] at hR
  simp only [hp, hr]
  have HP := Lib.hid hp
  have hpr : p ≤ r := by omega
  clear hp hr
  obtain ⟨t0, t1, t2, t3, t4⟩ := tb_cells hT
  have hRh := Lib.hid (show W.heap[r]? = some (.cells (tbC [] none 0 0 0 false none 0 0) 37 (0, 0)) from hR)
  go_wp2_with ((with_reducible refine wpList_store_blk (o := ⟨none, _, _, _, _, _⟩) rfl 37 (.tmp 2) (.tmp 7) rfl r _ (tbC l co cn cc (ky : Nat) only ro rn rc) ?_ ?_ _ hRh 5 szTb (tbC_size ..) (tbC_size ..) (tbC_all ..) ?_); (rfl); (rfl); (intro w6 h6 g6))
  have hR6 : Bk w6 r (tbC l co cn cc (ky : Nat) only ro rn rc) 37 := h6.out
  obtain ⟨r0, r1, r2, r3, r4⟩ := tb_cells hR6
  refine bodyPost_ret (v := tbV l co cn cc (ky : Nat) only ro rn rc) (by simp [results, Try.results19, go_sem, tbV, r0, r1, r2, r3, r4]) rfl ?_
  exact ⟨rfl, B0.grown g6 B0.size (fun z hz => by cases hz; rw [HP.out]; exact hpr)⟩
theorem fit_kval {F : List Co} {N K : Nat} (hl : F.length = N) (hK : K < N) (n : Int) : Val (kOf K (fitRow F n)).k (kOf K (fitRow F n)).n (kOf K (fitRow F n)).s := by
  obtain ⟨c, hc⟩ : ∃ c, F[K]? = some c := ⟨F[K]'(by omega), List.getElem?_eq_getElem _⟩
  rw [kOf_fit hc]
  exact fit_val n K c
theorem fits_val {F : List Co} {N K : Nat} (hl : F.length = N) (hK : K < N) {rs : List (List V)} (h : Fits F K rs) {y : List V} (hy : y ∈ rs) : K < y.length ∧ Val (kOf K y).k (kOf K y).n (kOf K y).s := by
  obtain ⟨n, rfl⟩ := h.mem y hy
  exact ⟨by rw [fitRow_len, hl]; exact hK, fit_kval hl hK n⟩
/-- A table of rows that fit. -/
def FillIs (w : World) (NM : List UInt8) (g N cg KI : Nat) (only : Bool) (F : List Co) (e : Ending) (w' : World) : Prop :=
  ∃ ro rn rc rs, e = .returned (tbV NM (some ⟨g, 0, none⟩) N cg (KI : Nat) only ro rn rc) ∧ IsRR EV w' w.heap.size ro rn rc rs ∧ Fits F KI rs ∧ rn ≤ 50 ∧ Below w.heap.size w w'
/-- What stands while the region's operations come up. -/
inductive Fill5 (B : Nat) (gs : Nat) (NM : List UInt8) (g : Nat) (N : Nat) (cg : Nat) (KI : Nat) (only : Bool) (ro : Option Addr) (rn : Nat) (rc : Nat) (nb : Nat) (noff : Nat) (nl : Nat) (nc : Nat) (j : Nat) (x : Int) (F : List Co) (E : Int) (rs : List (List V)) (rs2 : List (List V)) (a0 : Act) (w0 : World) (L : Array Bool) (a : Act) (w : World) : Prop
  | mk (b0 b1 b2 b3 b4 b5 b6 b7 b8 b9 b10 b11 : Bool) (x20 x21 x22 x23 x24 x25 x26 x27 x19 x28 x29 : Value) (ra : Option Addr) (rca : Nat) (ro2 : Option Addr) (rn2 : Nat) (rc2 : Nat) (hL : L = #[b0, b1, b2, b3, b4, b5, b6, b7, b8, b9, b10, b11]) (ha : a = ⟨(((((((((((a0.tmps.setIfInBounds 20 x20).setIfInBounds 21 x21).setIfInBounds 22 x22).setIfInBounds 23 x23).setIfInBounds 24 x24).setIfInBounds 25 x25).setIfInBounds 26 x26).setIfInBounds 27 x27).setIfInBounds 19 x19).setIfInBounds 28 x28).setIfInBounds 29 x29), a0.defers⟩) (hb : Below B w0 w) (cd0 : Hid (b0 = true → x20 = .agg #[.string (bsOf NM), .slice (some ⟨g, 0, none⟩) N cg, .int .i64 (KI : Nat), .bool only, .slice ro rn rc])) (cd1 : Hid (b1 = true → x21 = .agg #[.string (bsOf NM), .slice (some ⟨g, 0, none⟩) N cg, .int .i64 (KI : Nat), .bool only])) (cd2 : Hid (b2 = true → x22 = .slice (some ⟨nb, noff, none⟩) nl nc)) (cd3 : Hid (b3 = true → x23 = .int .i64 (j : Nat))) (cd4 : Hid (b4 = true → x24 = .pointer (some ⟨nb, noff + j, none⟩))) (cd5 : Hid (b5 = true → x25 = .int .i64 x)) (cd6 : Hid (b6 = true → x26 = .slice ra N rca)) (cd7 : Hid (b7 = true → x27 = .tuple #[.agg #[.string (bsOf NM), .slice (some ⟨g, 0, none⟩) N cg, .int .i64 (KI : Nat), .bool only, .slice ro2 rn2 rc2], .int .i64 E])) (cd8 : Hid (b8 = true → x19 = .tuple #[.agg #[.string (bsOf NM), .slice (some ⟨g, 0, none⟩) N cg, .int .i64 (KI : Nat), .bool only, .slice ro2 rn2 rc2], .int .i64 E])) (cd9 : Hid (b9 = true → x28 = .agg #[.string (bsOf NM), .slice (some ⟨g, 0, none⟩) N cg, .int .i64 (KI : Nat), .bool only, .slice ro2 rn2 rc2])) (cd10 : Hid (b10 = true → x29 = .int .i64 E)) (f_it : Hid (b7 = false → IsRR EV w (B + 1) ro rn rc rs)) (f_t : Hid (b11 = false → Bk w B (tbC NM (some ⟨g, 0, none⟩) N cg (KI : Nat) only ro rn rc) 33)) (f_o11 : Hid (b11 = true → b0 = true)) (f_o11b : Hid (b11 = true → b7 = true)) (f_r : Hid (b6 = true → b7 = false → TxtR EV w 46 w0.heap.size ra N rca (fitRow F x))) (f_tt : Hid (b7 = true → IsRR EV w (B + 1) ro2 rn2 rc2 rs2)) (f_ts : Hid (b11 = true → Bk w B (tbC NM (some ⟨g, 0, none⟩) N cg (KI : Nat) only ro2 rn2 rc2) 33)) (w_8_7 : Hid (b8 = true → b7 = true)) (w_9_7 : Hid (b9 = true → b7 = true)) : Fill5 B gs NM g N cg KI only ro rn rc nb noff nl nc j x F E rs rs2 a0 w0 L a w
set_option maxRecDepth 100000 in
set_option maxHeartbeats 4000000 in
theorem fill_any (w : World) (NM : List UInt8) (g N cg KI : Nat) (only : Bool) (F : List Co) (iG : IsR encCo w (some ⟨g, 0, none⟩) N cg F) (hFl : F.length = N) (hNp : 1 ≤ N ∧ N ≤ 6) (hFk : ∀ x ∈ F, x.kind = 1 ∨ x.kind = 2 ∨ x.kind = 3) (hKl : KI < N) (na : Option Addr) (nl nc : Nat) (ns : List Int) (hI : IsR EI w na nl nc ns) (hIw : ∀ x ∈ ns, (Lit.int .i64 x).wf = true) (hgw : g < w.heap.size) :
    Calls Try.prog 17 #[scV NM (some ⟨g, 0, none⟩) N cg (KI : Nat) only, .slice na nl nc] w (FillIs w NM g N cg KI only F) := by
  have hN6 := hNp.2
  obtain ⟨p0, hp0⟩ : ∃ p0, w.heap.size = p0 := ⟨_, rfl⟩
  have HP := Lib.hid hp0
  have B0 : Below p0 w ((w.alloc (.cells #[.string (bsOf NM), .slice (some ⟨g, 0, none⟩) N cg, .int .i64 (KI : Nat), .bool only] 24)).alloc (.cells #[.string ⟨#[]⟩, .slice none 0 0, .int .i64 0, .bool false, .slice none 0 0] 33)) := by rw [← hp0]; exact ((Below.refl _ _).alloc (Nat.le_refl _) _).alloc (by simp) _
  have XS : Bk ((w.alloc (.cells #[.string (bsOf NM), .slice (some ⟨g, 0, none⟩) N cg, .int .i64 (KI : Nat), .bool only] 24)).alloc (.cells #[.string ⟨#[]⟩, .slice none 0 0, .int .i64 0, .bool false, .slice none 0 0] 33)) w.heap.size (scC NM (some ⟨g, 0, none⟩) N cg (KI : Nat) only) 24 := (Bk.new w _ _).alloc _
  have hRs : Bk ((w.alloc (.cells #[.string (bsOf NM), .slice (some ⟨g, 0, none⟩) N cg, .int .i64 (KI : Nat), .bool only] 24)).alloc (.cells #[.string ⟨#[]⟩, .slice none 0 0, .int .i64 0, .bool false, .slice none 0 0] 33)) (w.heap.size + 1) (tbC [] none 0 0 0 false none 0 0) 33 := by
    have := Bk.new (w.alloc (.cells #[.string (bsOf NM), .slice (some ⟨g, 0, none⟩) N cg, .int .i64 (KI : Nat), .bool only] 24)) #[.string ⟨#[]⟩, .slice none 0 0, .int .i64 0, .bool false, .slice none 0 0] 33
    rwa [World.size_alloc] at this
  have iG1 := (iG.alloc (.cells #[.string (bsOf NM), .slice (some ⟨g, 0, none⟩) N cg, .int .i64 (KI : Nat), .bool only] 24)).alloc (.cells #[.string ⟨#[]⟩, .slice none 0 0, .int .i64 0, .bool false, .slice none 0 0] 33)
  unfold scV
  go_enter Try.func17, Try.ntmps17
  go_upto_region 1 with fail
  generalize (w.alloc (.cells #[.string (bsOf NM), .slice (some ⟨g, 0, none⟩) N cg, .int .i64 (KI : Nat), .bool only] 24)).alloc (.cells #[.string ⟨#[]⟩, .slice none 0 0, .int .i64 0, .bool false, .slice none 0 0] 33) = W at B0 XS hRs iG1 ⊢
  obtain ⟨gs, hgs⟩ : ∃ gs, p0 = gs := ⟨_, rfl⟩
  obtain ⟨gr, hgr⟩ : ∃ gr, gs + 1 = gr := ⟨_, rfl⟩
  rw [hp0, hgs] at XS hRs
  rw [hgr] at hRs
  simp only [hp0, hgs, hgr]
  have hp0s : p0 ≤ gs := by omega
  have hgsr : gs < gr := by omega
  rw [hp0, hgs] at hgw
  clear hp0 hgr
  obtain ⟨z0, z1, z2, z3⟩ := sc_cells XS
  have hgsW := XS.lt
  have hgrW := hRs.lt
  have hgsW2 : gs ≤ W.heap.size := Nat.le_of_lt hgsW
  go_upto_region 2 with fail
  have B4 : Below p0 w (W.alloc (.cells #[.string (bsOf NM), .slice (some ⟨g, 0, none⟩) N cg, .int .i64 (KI : Nat), .bool only, .slice none 0 0] 33)) := B0.alloc (by rw [hgs]; exact hgsW2) _
  have XS' := XS.alloc (.cells #[.string (bsOf NM), .slice (some ⟨g, 0, none⟩) N cg, .int .i64 (KI : Nat), .bool only, .slice none 0 0] 33)
  have iG' := iG1.alloc (.cells #[.string (bsOf NM), .slice (some ⟨g, 0, none⟩) N cg, .int .i64 (KI : Nat), .bool only, .slice none 0 0] 33)
  have hRs' := hRs.alloc (.cells #[.string (bsOf NM), .slice (some ⟨g, 0, none⟩) N cg, .int .i64 (KI : Nat), .bool only, .slice none 0 0] 33)
  have hTn : Bk (W.alloc (.cells #[.string (bsOf NM), .slice (some ⟨g, 0, none⟩) N cg, .int .i64 (KI : Nat), .bool only, .slice none 0 0] 33)) W.heap.size (tbC NM (some ⟨g, 0, none⟩) N cg (KI : Nat) only none 0 0) 33 := Bk.new W _ _
  generalize W.alloc (.cells #[.string (bsOf NM), .slice (some ⟨g, 0, none⟩) N cg, .int .i64 (KI : Nat), .bool only, .slice none 0 0] 33) = U at B4 XS' iG' hRs' hTn ⊢
  obtain ⟨gt, hgt⟩ : ∃ gt, W.heap.size = gt := ⟨_, rfl⟩
  rw [hgt] at hTn hgsW hgrW
  simp only [hgt]
  have hggt : g < gt := by omega
  have hp0t : p0 ≤ gt := by omega
  clear hgt XS iG1 B0 hRs z0 z1 z2 z3 hgs hgsW2
  have iT0 : IsRR EV U (gt + 1) none 0 0 [] := IsRR.nil U _
  go_wp2_with fail
  go_loopw [6] (fun i wr => ∃ (j : Nat) (ro : Option Addr) (rn rc : Nat) (rs : List (List V)), j ≤ nl ∧ j ≤ 50 ∧ i = .int .i64 (j : Nat) ∧ Bk wr gs (scC NM (some ⟨g, 0, none⟩) N cg (KI : Nat) only) 24 ∧ IsR encCo wr (some ⟨g, 0, none⟩) N cg F ∧ Bk wr gt (tbC NM (some ⟨g, 0, none⟩) N cg (KI : Nat) only ro rn rc) 33 ∧ IsRR EV wr (gt + 1) ro rn rc rs ∧ Fits F KI rs ∧ rn ≤ j ∧ Below p0 w wr ∧ Bk wr gr (tbC [] none 0 0 0 false none 0 0) 33) (fun i _ => nl - (intOf i).toNat)
  case atStart => exact ⟨0, none, 0, 0, [], Nat.zero_le _, by omega, rfl, XS', iG', hTn, iT0, Fits.nil F KI, Nat.le_refl _, B4, hRs'⟩
  case round =>
    clear XS' iG' hTn B4
    obtain ⟨j, ro, rn, rc, rs, hj, hj60, rfl, XS0, iG0, hT0, iT, hFi, hrj, BB, hR0⟩ := hrel
    have hgrB : gr < gt := hgrW
    obtain ⟨z0, z1, z2, z3⟩ := sc_cells XS0
    obtain ⟨t0, t1, t2, t3, t4⟩ := tb_cells hT0
    have hpw : p0 ≤ wr.heap.size := by have := BB.size; rw [HP.out] at this; exact this
    have hgsB : gs < gt := by omega
    have hgtw := hT0.lt
    by_cases hlt : j < nl ∧ j < 50
    · have hlti : (j : Int) < (nl : Int) := by omega
      have hlt6 : (j : Int) < 50 := by omega
      obtain ⟨x, hx⟩ : ∃ x, ns[j]? = some x := ⟨ns[j]'(by have := hI.len; omega), List.getElem?_eq_getElem _⟩
      have hxw := hIw x (List.mem_of_getElem? hx)
      obtain ⟨nb, noff, rfl, hnb, hncl⟩ := hI.open (by omega) (by decide)
      have hnbp : nb < p0 := by rw [← HP.out]; exact hnb
      have cx : wr.cell? ⟨nb, noff + j, none⟩ = some (.int .i64 x) := by
        rw [BB.cell (show nb < p0 from hnbp)]
        exact hncl j _ (by have := EI.all_get ns j 0 x hx (by decide); simpa [EI] using this)
      have hnbB : nb < gt := by omega
      have iGk : ∀ w', Below gt wr.drew w' → IsR encCo w' (some ⟨g, 0, none⟩) N cg F := fun w' hb => ⟨iG0.len, iG0.le, iG0.max, iG0.nil, fun a ha k u hu => by
        have := iG0.cell a ha k u hu
        cases ha
        rw [Addr.add_lit] at this ⊢
        rw [hb.cell (show g < gt from hggt)]
        exact this⟩
      have hln := iT.len
      have HFit := fun (w' : World) (hb : Below gt wr.drew w') => fit_any w' NM (some ⟨g, 0, none⟩) N cg F (KI : Nat) only (iGk w' hb) (by omega) hFk x hxw
      unfold scV at HFit
      have HC := put_fit F hFk KI x rs (by omega)
      obtain ⟨E, hEe⟩ : ∃ E, putE F KI (fitRow F x) rs = E := ⟨_, rfl⟩
      obtain ⟨rs2, hrs2⟩ : ∃ rs2, putR F KI (fitRow F x) rs = rs2 := ⟨_, rfl⟩
      have hnx : Hid (Fits F KI rs2) := by
        show Fits F KI rs2
        rw [← hrs2]
        exact hFi.putR x
      have hl2 : rs2.length ≤ rn + 1 := by
        rw [← hrs2]
        rcases HC with ⟨-, -, h3⟩ | ⟨-, -, h3⟩
        · rw [h3, put_len, hln]
          omega
        · rw [h3, hln]
          omega
      have HPt0 := fun (w' : World) (hb : Below gt wr.drew w') (hit : IsRR EV w' (gt + 1) ro rn rc rs) (ra : Option Addr) (rca : Nat) (hr : IsR EV w' ra N rca (fitRow F x)) => rput_any w' NM (some ⟨g, 0, none⟩) N cg KI only ro rn rc (gt + 1) (Nat.le_trans hgtw hb.size) F (iGk w' hb) rs hit ra N rca _ hr (fun y hy => fits_val hFl hKl hFi hy) (fun _ => ⟨hKl, fit_kval hFl hKl x⟩) (by omega) (fun y hy => by have := hFi.len y hy; omega) (by omega)
      simp only [hEe, hrs2] at HPt0
      unfold tbV at HPt0
      have HPt := HPt0
      have hB0 : gt ≤ wr.heap.size := Nat.le_of_lt hgtw
      clear HPt0 hEe hrs2 HC
      go_upto_region 5 with fail
      clear t0 t1 t2 t3 t4
      refine region_inv (Fill5 gt gs NM g N cg KI only ro rn rc nb noff nl nc j x F E rs rs2) (by kernel_rfl) (by kernel_rfl) ?_ ?_ ?_
      · exact ⟨false, false, false, false, false, false, false, false, false, false, false, false, u20, u21, u22, u23, u24, u25, u26, u27, u19, u28, u29, none, 0, none, 0, 0, rfl, (by simp only [Act.put, List.setIfInBounds_toArray, List.set_cons_zero, List.set_cons_succ]), Below.refl _ _, (fun h => by cases h), (fun h => by cases h), (fun h => by cases h), (fun h => by cases h), (fun h => by cases h), (fun h => by cases h), (fun h => by cases h), (fun h => by cases h), (fun h => by cases h), (fun h => by cases h), (fun h => by cases h), (fun h1 => iT.past (Below.refl _ _).drew), (fun h1 => hT0.past (Below.refl _ _).drew), (fun h => by cases h), (fun h => by cases h), (fun h => by cases h), (fun h => by cases h), (fun h => by cases h), (fun h => by cases h), (fun h => by cases h)⟩
      · refine ⟨?_, ?_, ?_, ?_, ?_, ?_, ?_, ?_, ?_, ?_, ?_, ?_, trivial⟩
        · rintro L a w ⟨b0, b1, b2, b3, b4, b5, b6, b7, b8, b9, b10, b11, x20, x21, x22, x23, x24, x25, x26, x27, x19, x28, x29, ra, rca, ro2, rn2, rc2, rfl, rfl, hb, cd0, cd1, cd2, cd3, cd4, cd5, cd6, cd7, cd8, cd9, cd10, f_it, f_t, f_o11, f_o11b, f_r, f_tt, f_ts, w_8_7, w_9_7⟩ hf hd
          have hf' : b0 = false := hf
          subst hf'
          clear hf hd
          have e11 : b11 = false := by cases hq : b11 with | false => rfl | true => exact absurd (f_o11.out hq) (by simp)
          subst e11
          have W_t := f_t.out rfl
          try simp only [List.setIfInBounds_toArray, List.set_cons_zero, List.set_cons_succ]
          obtain ⟨z0, z1, z2, z3, z4⟩ := tb_cells W_t
          intro K hK
          rw [if_pos (by rfl)]
          go_simp
          exact hK.out _ _ ⟨true, b1, b2, b3, b4, b5, b6, b7, b8, b9, b10, false, (.agg #[.string (bsOf NM), .slice (some ⟨g, 0, none⟩) N cg, .int .i64 (KI : Nat), .bool only, .slice ro rn rc]), x21, x22, x23, x24, x25, x26, x27, x19, x28, x29, ra, rca, ro2, rn2, rc2, (by simp only [Act.put, List.setIfInBounds_toArray, List.set_cons_zero, List.set_cons_succ]), (by simp only [Act.put, List.setIfInBounds_toArray, List.set_cons_zero, List.set_cons_succ]), hb, (fun _ => rfl), cd1, cd2, cd3, cd4, cd5, cd6, cd7, cd8, cd9, cd10, f_it, f_t, (fun _ => rfl), f_o11b, f_r, f_tt, f_ts, w_8_7, w_9_7⟩
        · rintro L a w ⟨b0, b1, b2, b3, b4, b5, b6, b7, b8, b9, b10, b11, x20, x21, x22, x23, x24, x25, x26, x27, x19, x28, x29, ra, rca, ro2, rn2, rc2, rfl, rfl, hb, cd0, cd1, cd2, cd3, cd4, cd5, cd6, cd7, cd8, cd9, cd10, f_it, f_t, f_o11, f_o11b, f_r, f_tt, f_ts, w_8_7, w_9_7⟩ hf hd
          have hf' : b1 = false := hf
          subst hf'
          clear hf hd
          try simp only [List.setIfInBounds_toArray, List.set_cons_zero, List.set_cons_succ]
          have z0 := (hb.cell hgsB).trans z0
          have z1 := (hb.cell hgsB).trans z1
          have z2 := (hb.cell hgsB).trans z2
          have z3 := (hb.cell hgsB).trans z3
          intro K hK
          rw [if_pos (by rfl)]
          go_simp
          exact hK.out _ _ ⟨b0, true, b2, b3, b4, b5, b6, b7, b8, b9, b10, b11, x20, (.agg #[.string (bsOf NM), .slice (some ⟨g, 0, none⟩) N cg, .int .i64 (KI : Nat), .bool only]), x22, x23, x24, x25, x26, x27, x19, x28, x29, ra, rca, ro2, rn2, rc2, (by simp only [Act.put, List.setIfInBounds_toArray, List.set_cons_zero, List.set_cons_succ]), (by simp only [Act.put, List.setIfInBounds_toArray, List.set_cons_zero, List.set_cons_succ]), hb, cd0, (fun _ => rfl), cd2, cd3, cd4, cd5, cd6, cd7, cd8, cd9, cd10, f_it, f_t, f_o11, f_o11b, f_r, f_tt, f_ts, w_8_7, w_9_7⟩
        · rintro L a w ⟨b0, b1, b2, b3, b4, b5, b6, b7, b8, b9, b10, b11, x20, x21, x22, x23, x24, x25, x26, x27, x19, x28, x29, ra, rca, ro2, rn2, rc2, rfl, rfl, hb, cd0, cd1, cd2, cd3, cd4, cd5, cd6, cd7, cd8, cd9, cd10, f_it, f_t, f_o11, f_o11b, f_r, f_tt, f_ts, w_8_7, w_9_7⟩ hf hd
          have hf' : b2 = false := hf
          subst hf'
          clear hf hd
          try simp only [List.setIfInBounds_toArray, List.set_cons_zero, List.set_cons_succ]
          intro K hK
          rw [if_pos (by rfl)]
          go_simp
          exact hK.out _ _ ⟨b0, b1, true, b3, b4, b5, b6, b7, b8, b9, b10, b11, x20, x21, (.slice (some ⟨nb, noff, none⟩) nl nc), x23, x24, x25, x26, x27, x19, x28, x29, ra, rca, ro2, rn2, rc2, (by simp only [Act.put, List.setIfInBounds_toArray, List.set_cons_zero, List.set_cons_succ]), (by simp only [Act.put, List.setIfInBounds_toArray, List.set_cons_zero, List.set_cons_succ]), hb, cd0, cd1, (fun _ => rfl), cd3, cd4, cd5, cd6, cd7, cd8, cd9, cd10, f_it, f_t, f_o11, f_o11b, f_r, f_tt, f_ts, w_8_7, w_9_7⟩
        · rintro L a w ⟨b0, b1, b2, b3, b4, b5, b6, b7, b8, b9, b10, b11, x20, x21, x22, x23, x24, x25, x26, x27, x19, x28, x29, ra, rca, ro2, rn2, rc2, rfl, rfl, hb, cd0, cd1, cd2, cd3, cd4, cd5, cd6, cd7, cd8, cd9, cd10, f_it, f_t, f_o11, f_o11b, f_r, f_tt, f_ts, w_8_7, w_9_7⟩ hf hd
          have hf' : b3 = false := hf
          subst hf'
          clear hf hd
          try simp only [List.setIfInBounds_toArray, List.set_cons_zero, List.set_cons_succ]
          intro K hK
          rw [if_pos (by rfl)]
          go_simp
          exact hK.out _ _ ⟨b0, b1, b2, true, b4, b5, b6, b7, b8, b9, b10, b11, x20, x21, x22, (.int .i64 (j : Nat)), x24, x25, x26, x27, x19, x28, x29, ra, rca, ro2, rn2, rc2, (by simp only [Act.put, List.setIfInBounds_toArray, List.set_cons_zero, List.set_cons_succ]), (by simp only [Act.put, List.setIfInBounds_toArray, List.set_cons_zero, List.set_cons_succ]), hb, cd0, cd1, cd2, (fun _ => rfl), cd4, cd5, cd6, cd7, cd8, cd9, cd10, f_it, f_t, f_o11, f_o11b, f_r, f_tt, f_ts, w_8_7, w_9_7⟩
        · rintro L a w ⟨b0, b1, b2, b3, b4, b5, b6, b7, b8, b9, b10, b11, x20, x21, x22, x23, x24, x25, x26, x27, x19, x28, x29, ra, rca, ro2, rn2, rc2, rfl, rfl, hb, cd0, cd1, cd2, cd3, cd4, cd5, cd6, cd7, cd8, cd9, cd10, f_it, f_t, f_o11, f_o11b, f_r, f_tt, f_ts, w_8_7, w_9_7⟩ hf hd
          have hf' : b4 = false := hf
          subst hf'
          have d2 : b2 = true := hd ⟨2, .data⟩ (by simp) rfl
          subst d2
          have d3 : b3 = true := hd ⟨3, .data⟩ (by simp) rfl
          subst d3
          obtain rfl := cd2.out rfl
          obtain rfl := cd3.out rfl
          clear hf hd
          try simp only [List.setIfInBounds_toArray, List.set_cons_zero, List.set_cons_succ]
          intro K hK
          rw [if_pos (by rfl)]
          go_simp
          exact hK.out _ _ ⟨b0, b1, true, true, true, b5, b6, b7, b8, b9, b10, b11, x20, x21, .slice (some ⟨nb, noff, none⟩) nl nc, .int .i64 (j : Nat), (.pointer (some ⟨nb, noff + j, none⟩)), x25, x26, x27, x19, x28, x29, ra, rca, ro2, rn2, rc2, (by simp only [Act.put, List.setIfInBounds_toArray, List.set_cons_zero, List.set_cons_succ]), (by simp only [Act.put, List.setIfInBounds_toArray, List.set_cons_zero, List.set_cons_succ]), hb, cd0, cd1, (fun _ => rfl), (fun _ => rfl), (fun _ => rfl), cd5, cd6, cd7, cd8, cd9, cd10, f_it, f_t, f_o11, f_o11b, f_r, f_tt, f_ts, w_8_7, w_9_7⟩
        · rintro L a w ⟨b0, b1, b2, b3, b4, b5, b6, b7, b8, b9, b10, b11, x20, x21, x22, x23, x24, x25, x26, x27, x19, x28, x29, ra, rca, ro2, rn2, rc2, rfl, rfl, hb, cd0, cd1, cd2, cd3, cd4, cd5, cd6, cd7, cd8, cd9, cd10, f_it, f_t, f_o11, f_o11b, f_r, f_tt, f_ts, w_8_7, w_9_7⟩ hf hd
          have hf' : b5 = false := hf
          subst hf'
          have d4 : b4 = true := hd ⟨4, .data⟩ (by simp) rfl
          subst d4
          obtain rfl := cd4.out rfl
          clear hf hd
          try simp only [List.setIfInBounds_toArray, List.set_cons_zero, List.set_cons_succ]
          have z0 := (hb.cell hnbB).trans cx
          intro K hK
          rw [if_pos (by rfl)]
          go_simp
          exact hK.out _ _ ⟨b0, b1, b2, b3, true, true, b6, b7, b8, b9, b10, b11, x20, x21, x22, x23, .pointer (some ⟨nb, noff + j, none⟩), (.int .i64 x), x26, x27, x19, x28, x29, ra, rca, ro2, rn2, rc2, (by simp only [Act.put, List.setIfInBounds_toArray, List.set_cons_zero, List.set_cons_succ]), (by simp only [Act.put, List.setIfInBounds_toArray, List.set_cons_zero, List.set_cons_succ]), hb, cd0, cd1, cd2, cd3, (fun _ => rfl), (fun _ => rfl), cd6, cd7, cd8, cd9, cd10, f_it, f_t, f_o11, f_o11b, f_r, f_tt, f_ts, w_8_7, w_9_7⟩
        · rintro L a w ⟨b0, b1, b2, b3, b4, b5, b6, b7, b8, b9, b10, b11, x20, x21, x22, x23, x24, x25, x26, x27, x19, x28, x29, ra, rca, ro2, rn2, rc2, rfl, rfl, hb, cd0, cd1, cd2, cd3, cd4, cd5, cd6, cd7, cd8, cd9, cd10, f_it, f_t, f_o11, f_o11b, f_r, f_tt, f_ts, w_8_7, w_9_7⟩ hf hd
          have hf' : b6 = false := hf
          subst hf'
          have d1 : b1 = true := hd ⟨1, .data⟩ (by simp) rfl
          subst d1
          have d5 : b5 = true := hd ⟨5, .data⟩ (by simp) rfl
          subst d5
          obtain rfl := cd1.out rfl
          obtain rfl := cd5.out rfl
          clear hf hd
          try simp only [List.setIfInBounds_toArray, List.set_cons_zero, List.set_cons_succ]
          intro K hK
          rw [if_pos (by rfl)]
          go_simp
          go_at_call 21
          refine (HFit _ hb).mono ?_
          rintro e w' ⟨ra2, rca2, rfl, oT, bx⟩
          exact hK.out _ _ ⟨b0, true, b2, b3, b4, true, true, b7, b8, b9, b10, b11, x20, .agg #[.string (bsOf NM), .slice (some ⟨g, 0, none⟩) N cg, .int .i64 (KI : Nat), .bool only], x22, x23, x24, .int .i64 x, (.slice ra2 N rca2), x27, x19, x28, x29, ra2, rca2, ro2, rn2, rc2, (by simp only [Act.put, List.setIfInBounds_toArray, List.set_cons_zero, List.set_cons_succ]), (by simp only [Act.put, List.setIfInBounds_toArray, List.set_cons_zero, List.set_cons_succ]), hb.trans (bx.mono (Nat.le_trans hB0 hb.size)), cd0, (fun _ => rfl), cd2, cd3, cd4, (fun _ => rfl), (fun _ => rfl), cd7, cd8, cd9, cd10, (fun h1 => (f_it.out h1).past bx), (fun h1 => (f_t.out h1).past bx), f_o11, f_o11b, (fun _ _ => oT.lower hb.size), (fun h0 => (f_tt.out h0).past bx), (fun h0 => (f_ts.out h0).past bx), w_8_7, w_9_7⟩
        · rintro L a w ⟨b0, b1, b2, b3, b4, b5, b6, b7, b8, b9, b10, b11, x20, x21, x22, x23, x24, x25, x26, x27, x19, x28, x29, ra, rca, ro2, rn2, rc2, rfl, rfl, hb, cd0, cd1, cd2, cd3, cd4, cd5, cd6, cd7, cd8, cd9, cd10, f_it, f_t, f_o11, f_o11b, f_r, f_tt, f_ts, w_8_7, w_9_7⟩ hf hd
          have hf' : b7 = false := hf
          subst hf'
          have d0 : b0 = true := hd ⟨0, .data⟩ (by simp) rfl
          subst d0
          have d6 : b6 = true := hd ⟨6, .data⟩ (by simp) rfl
          subst d6
          obtain rfl := cd0.out rfl
          obtain rfl := cd6.out rfl
          clear hf hd
          have W_it := f_it.out rfl
          have W_r := f_r.out rfl rfl
          try simp only [List.setIfInBounds_toArray, List.set_cons_zero, List.set_cons_succ]
          intro K hK
          rw [if_pos (by rfl)]
          go_simp
          go_at_call 26
          refine (HPt _ hb W_it _ _ W_r.isR).mono ?_
          rintro e w' ⟨ro3, rn3, rc3, rfl, i1, bx⟩
          unfold tbV
          have e_8 : b8 = false := by cases hq : b8 with | false => rfl | true => exact absurd (w_8_7.out hq) (by simp)
          subst e_8
          have e_9 : b9 = false := by cases hq : b9 with | false => rfl | true => exact absurd (w_9_7.out hq) (by simp)
          subst e_9
          exact hK.out _ _ ⟨true, b1, b2, b3, b4, b5, true, true, false, false, b10, b11, .agg #[.string (bsOf NM), .slice (some ⟨g, 0, none⟩) N cg, .int .i64 (KI : Nat), .bool only, .slice ro rn rc], x21, x22, x23, x24, x25, .slice ra N rca, (.tuple #[.agg #[.string (bsOf NM), .slice (some ⟨g, 0, none⟩) N cg, .int .i64 (KI : Nat), .bool only, .slice ro3 rn3 rc3], .int .i64 E]), x19, x28, x29, ra, rca, ro3, rn3, rc3, (by simp only [Act.put, List.setIfInBounds_toArray, List.set_cons_zero, List.set_cons_succ]), (by simp only [Act.put, List.setIfInBounds_toArray, List.set_cons_zero, List.set_cons_succ]), hb.trans (bx.mono (Nat.le_trans hB0 hb.size)), (fun _ => rfl), cd1, cd2, cd3, cd4, cd5, (fun _ => rfl), (fun _ => rfl), (fun h => by cases h), (fun h => by cases h), cd10, (fun h => by cases h), (fun h1 => (f_t.out h1).past bx), f_o11, (fun _ => rfl), (fun _ h => by cases h), (fun _ => i1), (fun h0 => absurd (f_o11b.out h0) (by simp)), (fun _ => rfl), (fun _ => rfl)⟩
        · rintro L a w ⟨b0, b1, b2, b3, b4, b5, b6, b7, b8, b9, b10, b11, x20, x21, x22, x23, x24, x25, x26, x27, x19, x28, x29, ra, rca, ro2, rn2, rc2, rfl, rfl, hb, cd0, cd1, cd2, cd3, cd4, cd5, cd6, cd7, cd8, cd9, cd10, f_it, f_t, f_o11, f_o11b, f_r, f_tt, f_ts, w_8_7, w_9_7⟩ hf hd
          have hf' : b8 = false := hf
          subst hf'
          have d7 : b7 = true := hd ⟨7, .data⟩ (by simp) rfl
          subst d7
          obtain rfl := cd7.out rfl
          clear hf hd
          have W_tt := f_tt.out rfl
          try simp only [List.setIfInBounds_toArray, List.set_cons_zero, List.set_cons_succ]
          intro K hK
          rw [if_pos (by rfl)]
          go_simp
          exact hK.out _ _ ⟨b0, b1, b2, b3, b4, b5, b6, true, true, b9, b10, b11, x20, x21, x22, x23, x24, x25, x26, .tuple #[.agg #[.string (bsOf NM), .slice (some ⟨g, 0, none⟩) N cg, .int .i64 (KI : Nat), .bool only, .slice ro2 rn2 rc2], .int .i64 E], (.tuple #[.agg #[.string (bsOf NM), .slice (some ⟨g, 0, none⟩) N cg, .int .i64 (KI : Nat), .bool only, .slice ro2 rn2 rc2], .int .i64 E]), x28, x29, ra, rca, ro2, rn2, rc2, (by simp only [Act.put, List.setIfInBounds_toArray, List.set_cons_zero, List.set_cons_succ]), (by simp only [Act.put, List.setIfInBounds_toArray, List.set_cons_zero, List.set_cons_succ]), hb, cd0, cd1, cd2, cd3, cd4, cd5, cd6, (fun _ => rfl), (fun _ => rfl), cd9, cd10, (fun h => by cases h), f_t, f_o11, f_o11b, (fun _ h => by cases h), f_tt, f_ts, (fun _ => rfl), (fun _ => rfl)⟩
        · rintro L a w ⟨b0, b1, b2, b3, b4, b5, b6, b7, b8, b9, b10, b11, x20, x21, x22, x23, x24, x25, x26, x27, x19, x28, x29, ra, rca, ro2, rn2, rc2, rfl, rfl, hb, cd0, cd1, cd2, cd3, cd4, cd5, cd6, cd7, cd8, cd9, cd10, f_it, f_t, f_o11, f_o11b, f_r, f_tt, f_ts, w_8_7, w_9_7⟩ hf hd
          have hf' : b9 = false := hf
          subst hf'
          have d8 : b8 = true := hd ⟨8, .data⟩ (by simp) rfl
          subst d8
          obtain rfl := cd8.out rfl
          clear hf hd
          try simp only [List.setIfInBounds_toArray, List.set_cons_zero, List.set_cons_succ]
          intro K hK
          rw [if_pos (by rfl)]
          go_simp
          exact hK.out _ _ ⟨b0, b1, b2, b3, b4, b5, b6, b7, true, true, b10, b11, x20, x21, x22, x23, x24, x25, x26, x27, .tuple #[.agg #[.string (bsOf NM), .slice (some ⟨g, 0, none⟩) N cg, .int .i64 (KI : Nat), .bool only, .slice ro2 rn2 rc2], .int .i64 E], (.agg #[.string (bsOf NM), .slice (some ⟨g, 0, none⟩) N cg, .int .i64 (KI : Nat), .bool only, .slice ro2 rn2 rc2]), x29, ra, rca, ro2, rn2, rc2, (by simp only [Act.put, List.setIfInBounds_toArray, List.set_cons_zero, List.set_cons_succ]), (by simp only [Act.put, List.setIfInBounds_toArray, List.set_cons_zero, List.set_cons_succ]), hb, cd0, cd1, cd2, cd3, cd4, cd5, cd6, cd7, (fun _ => rfl), (fun _ => rfl), cd10, f_it, f_t, f_o11, f_o11b, f_r, f_tt, f_ts, w_8_7, (fun _ => w_8_7.out rfl)⟩
        · rintro L a w ⟨b0, b1, b2, b3, b4, b5, b6, b7, b8, b9, b10, b11, x20, x21, x22, x23, x24, x25, x26, x27, x19, x28, x29, ra, rca, ro2, rn2, rc2, rfl, rfl, hb, cd0, cd1, cd2, cd3, cd4, cd5, cd6, cd7, cd8, cd9, cd10, f_it, f_t, f_o11, f_o11b, f_r, f_tt, f_ts, w_8_7, w_9_7⟩ hf hd
          have hf' : b10 = false := hf
          subst hf'
          have d8 : b8 = true := hd ⟨8, .data⟩ (by simp) rfl
          subst d8
          obtain rfl := cd8.out rfl
          clear hf hd
          try simp only [List.setIfInBounds_toArray, List.set_cons_zero, List.set_cons_succ]
          intro K hK
          rw [if_pos (by rfl)]
          go_simp
          exact hK.out _ _ ⟨b0, b1, b2, b3, b4, b5, b6, b7, true, b9, true, b11, x20, x21, x22, x23, x24, x25, x26, x27, .tuple #[.agg #[.string (bsOf NM), .slice (some ⟨g, 0, none⟩) N cg, .int .i64 (KI : Nat), .bool only, .slice ro2 rn2 rc2], .int .i64 E], x28, (.int .i64 E), ra, rca, ro2, rn2, rc2, (by simp only [Act.put, List.setIfInBounds_toArray, List.set_cons_zero, List.set_cons_succ]), (by simp only [Act.put, List.setIfInBounds_toArray, List.set_cons_zero, List.set_cons_succ]), hb, cd0, cd1, cd2, cd3, cd4, cd5, cd6, cd7, (fun _ => rfl), cd9, (fun _ => rfl), f_it, f_t, f_o11, f_o11b, f_r, f_tt, f_ts, w_8_7, w_9_7⟩
        · rintro L a w ⟨b0, b1, b2, b3, b4, b5, b6, b7, b8, b9, b10, b11, x20, x21, x22, x23, x24, x25, x26, x27, x19, x28, x29, ra, rca, ro2, rn2, rc2, rfl, rfl, hb, cd0, cd1, cd2, cd3, cd4, cd5, cd6, cd7, cd8, cd9, cd10, f_it, f_t, f_o11, f_o11b, f_r, f_tt, f_ts, w_8_7, w_9_7⟩ hf hd
          have hf' : b11 = false := hf
          subst hf'
          have d9 : b9 = true := hd ⟨9, .data⟩ (by simp) rfl
          subst d9
          have d7 : b7 = true := hd ⟨7, .chain⟩ (by simp) rfl
          subst d7
          have d0 : b0 = true := hd ⟨0, .phase⟩ (by simp) rfl
          subst d0
          have d1 : b1 = true := hd ⟨1, .phase⟩ (by simp) rfl
          subst d1
          have d2 : b2 = true := hd ⟨2, .phase⟩ (by simp) rfl
          subst d2
          have d3 : b3 = true := hd ⟨3, .phase⟩ (by simp) rfl
          subst d3
          have d4 : b4 = true := hd ⟨4, .phase⟩ (by simp) rfl
          subst d4
          have d5 : b5 = true := hd ⟨5, .phase⟩ (by simp) rfl
          subst d5
          have d6 : b6 = true := hd ⟨6, .phase⟩ (by simp) rfl
          subst d6
          have d8 : b8 = true := hd ⟨8, .phase⟩ (by simp) rfl
          subst d8
          obtain rfl := cd9.out rfl
          obtain rfl := cd7.out rfl
          obtain rfl := cd0.out rfl
          obtain rfl := cd1.out rfl
          obtain rfl := cd2.out rfl
          obtain rfl := cd3.out rfl
          obtain rfl := cd4.out rfl
          obtain rfl := cd5.out rfl
          obtain rfl := cd6.out rfl
          obtain rfl := cd8.out rfl
          clear hf hd
          have W_t := f_t.out rfl
          have W_tt := f_tt.out rfl
          try simp only [List.setIfInBounds_toArray, List.set_cons_zero, List.set_cons_succ]
          intro K hK
          rw [if_pos (by rfl)]
          refine wp_store_blkT 33 _ _ rfl gt _ (tbC NM (some ⟨g, 0, none⟩) N cg (KI : Nat) only ro2 rn2 rc2) rfl rfl _ (Lib.hid W_t) 5 szRT (tbC_size ..) (tbC_size ..) (tbC_all ..) fun w2 h8 g8 => ?_
          have hb2 := hb.grown g8 (Nat.le_trans hB0 hb.size) (fun z hz => by cases hz; exact Nat.le_refl _)
          exact hK.out _ _ ⟨true, true, true, true, true, true, true, true, true, true, b10, true, .agg #[.string (bsOf NM), .slice (some ⟨g, 0, none⟩) N cg, .int .i64 (KI : Nat), .bool only, .slice ro rn rc], .agg #[.string (bsOf NM), .slice (some ⟨g, 0, none⟩) N cg, .int .i64 (KI : Nat), .bool only], .slice (some ⟨nb, noff, none⟩) nl nc, .int .i64 (j : Nat), .pointer (some ⟨nb, noff + j, none⟩), .int .i64 x, .slice ra N rca, .tuple #[.agg #[.string (bsOf NM), .slice (some ⟨g, 0, none⟩) N cg, .int .i64 (KI : Nat), .bool only, .slice ro2 rn2 rc2], .int .i64 E], .tuple #[.agg #[.string (bsOf NM), .slice (some ⟨g, 0, none⟩) N cg, .int .i64 (KI : Nat), .bool only, .slice ro2 rn2 rc2], .int .i64 E], .agg #[.string (bsOf NM), .slice (some ⟨g, 0, none⟩) N cg, .int .i64 (KI : Nat), .bool only, .slice ro2 rn2 rc2], x29, ra, rca, ro2, rn2, rc2, (by simp only [Act.put, List.setIfInBounds_toArray, List.set_cons_zero, List.set_cons_succ]), (by simp only [Act.put, List.setIfInBounds_toArray, List.set_cons_zero, List.set_cons_succ]), hb2, (fun _ => rfl), (fun _ => rfl), (fun _ => rfl), (fun _ => rfl), (fun _ => rfl), (fun _ => rfl), (fun _ => rfl), (fun _ => rfl), (fun _ => rfl), (fun _ => rfl), cd10, (fun h => by cases h), (fun h => by cases h), (fun _ => rfl), (fun _ => rfl), (fun _ h => by cases h), (fun h0 => IsRR.grown (f_tt.out h0) g8 (Nat.lt_succ_self _)), (fun _ => h8.out), (fun _ => rfl), (fun _ => rfl)⟩
      · rintro act V3 ⟨b0, b1, b2, b3, b4, b5, b6, b7, b8, b9, b10, b11, x20, x21, x22, x23, x24, x25, x26, x27, x19, x28, x29, ra, rca, ro2, rn2, rc2, hL, rfl, hb, cd0, cd1, cd2, cd3, cd4, cd5, cd6, cd7, cd8, cd9, cd10, f_it, f_t, f_o11, f_o11b, f_r, f_tt, f_ts, w_8_7, w_9_7⟩
        have hL' : [true, true, true, true, true, true, true, true, true, true, true, true] = [b0, b1, b2, b3, b4, b5, b6, b7, b8, b9, b10, b11] := congrArg Array.toList hL
        simp only [List.cons.injEq, and_true] at hL'
        obtain ⟨rfl, rfl, rfl, rfl, rfl, rfl, rfl, rfl, rfl, rfl, rfl, rfl⟩ := hL'
        obtain rfl := cd0.out rfl
        obtain rfl := cd1.out rfl
        obtain rfl := cd2.out rfl
        obtain rfl := cd3.out rfl
        obtain rfl := cd4.out rfl
        obtain rfl := cd5.out rfl
        obtain rfl := cd6.out rfl
        obtain rfl := cd7.out rfl
        obtain rfl := cd8.out rfl
        obtain rfl := cd9.out rfl
        obtain rfl := cd10.out rfl
        have W_o11 := f_o11.out rfl
        have W_o11b := f_o11b.out rfl
        have W_tt := f_tt.out rfl
        have W_ts := f_ts.out rfl
        clear hL f_it f_t f_o11 f_o11b f_r f_tt f_ts cd0 cd1 cd2 cd3 cd4 cd5 cd6 cd7 cd8 cd9 cd10 w_8_7 w_9_7
        simp only [List.setIfInBounds_toArray, List.set_cons_zero, List.set_cons_succ]
        have hln2 := W_tt.len
        have BV3 : Below p0 w V3 := BB.trans (((Below.refl _ _).drew.trans (hb.mono hp0t)))
        have XS3 : Bk V3 gs (scC NM (some ⟨g, 0, none⟩) N cg (KI : Nat) only) 24 := (hb.block gs hgsB).trans XS0
        have iG3 : IsR encCo V3 (some ⟨g, 0, none⟩) N cg F := iGk V3 hb
        have hgr3 := (hb.block gr hgrB).trans hR0
        clear hb
        go_wp2_with fail
        go_roundw
        case rel => exact ⟨j + 1, ro2, rn2, rc2, rs2, by omega, by omega, by go_num, XS3, iG3, W_ts, W_tt, hnx.out, by omega, BV3, hgr3⟩
        case measure => simp [intOf]; omega
    · by_cases hjn : j < nl
      · have hjni : (j : Int) < (nl : Int) := by omega
        have hj6 : ¬ ((j : Int) < 50) := by omega
        have hRh := Lib.hid (show wr.heap[gr]? = some (.cells (tbC [] none 0 0 0 false none 0 0) 33 (0, 0)) from hR0)
        go_wp2_with ((with_reducible refine wpList_store_blk (o := ⟨none, _, _, _, _, _⟩) rfl 33 (.tmp 4) (.tmp 30) rfl gr _ (tbC NM (some ⟨g, 0, none⟩) N cg (KI : Nat) only ro rn rc) ?_ ?_ _ hRh 5 szRT (tbC_size ..) (tbC_size ..) (tbC_all ..) ?_); (rfl); (rfl); (intro w6 h6 g6))
        have hR6 : Bk w6 gr (tbC NM (some ⟨g, 0, none⟩) N cg (KI : Nat) only ro rn rc) 33 := h6.out
        obtain ⟨r0, r1, r2, r3, r4⟩ := tb_cells hR6
        refine bodyPost_ret (v := tbV NM (some ⟨g, 0, none⟩) N cg (KI : Nat) only ro rn rc) (by simp [results, Try.results17, go_sem, tbV, r0, r1, r2, r3, r4]) rfl ?_
        exact ⟨ro, rn, rc, rs, rfl, (iT.grown g6 (Nat.lt_of_lt_of_le hgrB (Nat.le_succ _))).mono (by rw [HP.out]; omega), hFi, by omega, by rw [HP.out]; exact BB.grown g6 hpw (fun z hz => by cases hz; omega)⟩
      · have hjni : ¬ ((j : Int) < (nl : Int)) := by omega
        have hRh := Lib.hid (show wr.heap[gr]? = some (.cells (tbC [] none 0 0 0 false none 0 0) 33 (0, 0)) from hR0)
        go_wp2_with ((with_reducible refine wpList_store_blk (o := ⟨none, _, _, _, _, _⟩) rfl 33 (.tmp 4) (.tmp 30) rfl gr _ (tbC NM (some ⟨g, 0, none⟩) N cg (KI : Nat) only ro rn rc) ?_ ?_ _ hRh 5 szRT (tbC_size ..) (tbC_size ..) (tbC_all ..) ?_); (rfl); (rfl); (intro w6 h6 g6))
        have hR6 : Bk w6 gr (tbC NM (some ⟨g, 0, none⟩) N cg (KI : Nat) only ro rn rc) 33 := h6.out
        obtain ⟨r0, r1, r2, r3, r4⟩ := tb_cells hR6
        refine bodyPost_ret (v := tbV NM (some ⟨g, 0, none⟩) N cg (KI : Nat) only ro rn rc) (by simp [results, Try.results17, go_sem, tbV, r0, r1, r2, r3, r4]) rfl ?_
        exact ⟨ro, rn, rc, rs, rfl, (iT.grown g6 (Nat.lt_of_lt_of_le hgrB (Nat.le_succ _))).mono (by rw [HP.out]; omega), hFi, by omega, by rw [HP.out]; exact BB.grown g6 hpw (fun z hz => by cases hz; omega)⟩
set_option maxRecDepth 100000 in
set_option maxHeartbeats 2000000 in
theorem known11 (w : World) : Calls Try.prog 13 #[] w fun e w' => e = .returned (.bool true) ∧ Below w.heap.size w w' := by
  have B1 : Below w.heap.size w (w.alloc (.cells #[.string ⟨#[97]⟩, .int .i64 2, .bool false] 100)) := (Below.refl _ _).alloc (Nat.le_refl _) _
  have HO : ∀ w', Calls Try.prog 19 #[.agg #[.string ⟨#[120]⟩, .slice (some ⟨w.heap.size, 0, none⟩) 1 1, .int .i64 0, .bool false, .slice none 0 0]] w' fun e w'' => e = .returned (.agg #[.string ⟨#[120]⟩, .slice (some ⟨w.heap.size, 0, none⟩) 1 1, .int .i64 0, .bool false, .slice none 0 0]) ∧ Below w'.heap.size w' w'' := fun w' => of_any w' [120] (some ⟨w.heap.size, 0, none⟩) 1 1 0 false none 0 0
  have HB : ∀ w', Calls Try.prog 18 #[.agg #[.string ⟨#[120]⟩, .slice (some ⟨w.heap.size, 0, none⟩) 1 1, .int .i64 0, .bool false, .slice none 0 0], .int .i64 0] w' fun e w'' => ∃ x, e = .returned (.pointer (some ⟨x, 0, none⟩)) ∧ IsX w'' w'.heap.size w''.heap.size x 0 0 [] ∧ Below w'.heap.size w' w'' := fun w' => build_any w' [120] (some ⟨w.heap.size, 0, none⟩) 1 1 0 false none 0 0 0 [] (IsRR.nil _ _) 0 (fun r hr => by cases hr) (by decide)
  go_enter Try.func13, Try.ntmps13
  go_upto_region 2 with (first
    | (go_at_call 19; refine (HO _).mono ?_; rintro e w1 ⟨rfl, b1⟩)
    | (go_at_call 18; refine (HB _).mono ?_; rintro e w2 ⟨x, rfl, hX, b2⟩))
  have B2 := (B1.trans (b1.mono B1.size)).trans (b2.mono (Nat.le_trans B1.size b1.size))
  have HL := len_any w2 _ _ x 0 0 [] hX
  have HK : ∀ w', IsX w' w1.heap.size w2.heap.size x 0 0 [] → Calls Try.prog 31 #[.pointer (some ⟨x, 0, none⟩), .agg #[.int .i64 0, .int .i64 0, .string ⟨#[]⟩]] w' fun e w'' => ∃ ao c, e = .returned (.slice ao 0 c) ∧ Below w'.heap.size w' w'' := fun w' h => (keys_any w' _ _ x 0 0 [] h (by decide) V0 Vok.none).mono fun e w'' ⟨ao, c, h1, h2, h3⟩ => ⟨ao, c, h1, h3⟩
  go_wp2_with (first
    | (go_at_call 29; refine HL.mono ?_; rintro e w3 ⟨rfl, rfl⟩)
    | (go_at_call 31; refine (HK _ hX).mono ?_; rintro e w4 ⟨ao, c, rfl, b4⟩))
  go_ret
  exact ⟨rfl, B2.trans (b4.mono B2.size)⟩
end Go.Proofs.Ytjacaammlkjodaa
