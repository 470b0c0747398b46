/-
  table.Take (by gen_tabtake.py).
-/
import Derived.Test.YtllijeciodmckaaTabC
namespace Go.Proofs.Ytllijeciodmckaa
open Go.RowKit
set_option linter.unusedSimpArgs false
theorem ne_of_ge {r a g : Nat} (h : r < a) (k : a ≤ g) : some g ≠ some r := by intro e; have := Option.some.inj e; omega
def TakeIs (w : World) (l : List UInt8) (cs : List Co) (cn : Nat) (ky : Nat) (only : Bool) (tk : Bool) (ox : Option (List V)) (rs rsT : List (List V)) (e : Ending) (w' : World) : Prop :=
  (tk = false → ∃ co cc ro rn rc, e = .returned (.tuple #[tbV l co cn cc (ky : Nat) only ro rn rc, .slice none 0 0, .int .i64 2]) ∧ IsT w' w.heap.size co cn cc cs ro rn rc rs) ∧
  (∀ x, tk = true → ox = some x → ∃ co cc ro rn rc g c, e = .returned (.tuple #[tbV l co cn cc (ky : Nat) only ro rn rc, .slice (some ⟨g, 0, none⟩) x.length c, .int .i64 0]) ∧ IsT w' w.heap.size co cn cc cs ro rn rc rsT ∧ OwnR EV w' 55 g x.length c x ∧ w.heap.size ≤ g) ∧
  Below w.heap.size w w'
/-- What stands while the region's operations come up. -/
inductive Take4 (B : Nat) (gp : Nat) (r : Nat) (l : List UInt8) (co : Option Addr) (cn : Nat) (cc : Nat) (ky : Nat) (only : Bool) (ro : Option Addr) (rn : Nat) (rc : Nat) (N : Nat) (M : Nat) (R2 : Nat) (LN : Nat) (hsA : List HdR) (hsB : List HdR) (cs : List Co) (rsT : List (List V)) (rv : List V) (a0 : Act) (w0 : World) (L : Array Bool) (a : Act) (w : World) : Prop
  | mk (b0 b1 b2 b3 b4 b5 b6 b7 b8 b9 b10 b11 b12 : Bool) (x16 x17 x18 x19 x20 x21 x22 x23 x24 x25 x5 x6 : Value) (A1 : Option Addr) (c1 : Nat) (A2 : Option Addr) (c2 : Nat) (gq : Nat) (co2 : Option Addr) (cc2 : Nat) (ro2 : Option Addr) (rc2 : Nat) (gx : Nat) (cx : Nat) (hL : L = #[b0, b1, b2, b3, b4, b5, b6, b7, b8, b9, b10, b11, b12]) (ha : a = ⟨((((((((((((a0.tmps.setIfInBounds 16 x16).setIfInBounds 17 x17).setIfInBounds 18 x18).setIfInBounds 19 x19).setIfInBounds 20 x20).setIfInBounds 21 x21).setIfInBounds 22 x22).setIfInBounds 23 x23).setIfInBounds 24 x24).setIfInBounds 25 x25).setIfInBounds 5 x5).setIfInBounds 6 x6), a0.defers⟩) (hb : Below B w0 w) (cd0 : Hid (b0 = true → x16 = .pointer (some ⟨gp, 0, none⟩))) (cd1 : Hid (b1 = true → x17 = .agg #[.string (bsOf l), .slice co cn cc, .int .i64 (ky : Nat), .bool only, .slice ro rn rc])) (cd2 : Hid (b2 = true → x18 = .agg #[.string (bsOf l), .slice co cn cc, .int .i64 (ky : Nat), .bool only, .slice ro rn rc, .int .i64 (N : Nat), .bool true])) (cd3 : Hid (b3 = true → x19 = .slice A1 N c1)) (cd4 : Hid (b4 = true → x20 = .agg #[.string (bsOf l), .slice co cn cc, .int .i64 (ky : Nat), .bool only, .slice ro rn rc, .int .i64 (N : Nat), .bool true])) (cd5 : Hid (b5 = true → x21 = .slice A2 M c2)) (cd6 : Hid (b6 = true → x22 = .slice (some ⟨gq, 0, none⟩) 2 2)) (cd7 : Hid (b7 = true → x23 = .agg #[.string (bsOf l), .slice co2 cn cc2, .int .i64 (ky : Nat), .bool only, .slice ro2 R2 rc2])) (cd8 : Hid (b8 = true → x24 = .agg #[.string (bsOf l), .slice co cn cc, .int .i64 (ky : Nat), .bool only, .slice ro rn rc, .int .i64 (N : Nat), .bool true])) (cd9 : Hid (b9 = true → x25 = .slice (some ⟨gx, 0, none⟩) LN cx)) (cd11 : Hid (b11 = true → x5 = .slice (some ⟨gx, 0, none⟩) LN cx)) (cd12 : Hid (b12 = true → x6 = .int .i64 0)) (f_g : Hid (Bk w gp (spC l co cn cc (ky : Nat) only ro rn rc (N : Nat) true) 161)) (f_a : Hid (b3 = true → b6 = false → IsR EH w A1 N c1 hsA)) (f_b : Hid (b5 = true → b6 = false → IsR EH w A2 M c2 hsB)) (f_q : Hid (b6 = true → b7 = false → IsRR EH w 0 (some ⟨gq, 0, none⟩) 2 2 [hsA, hsB])) (f_t : Hid (b7 = true → IsT w w0.heap.size co2 cn cc2 cs ro2 R2 rc2 rsT)) (f_o : Hid (b9 = true → OwnR EV w 55 gx LN cx rv)) (f_lx : Hid (b9 = true → w0.heap.size ≤ gx)) (f_r : Hid (b10 = false → Bk w r (tbC [] none 0 0 0 false none 0 0) 47)) (f_rs : Hid (b10 = true → Bk w r (tbC l co2 cn cc2 (ky : Nat) only ro2 R2 rc2) 47)) (f_o10 : Hid (b10 = true → b7 = true)) (w_11_9 : Hid (b11 = true → b9 = true)) : Take4 B gp r l co cn cc ky only ro rn rc N M R2 LN hsA hsB cs rsT rv a0 w0 L a w
set_option maxRecDepth 100000 in
set_option maxHeartbeats 4000000 in
theorem take_any (w : World) (l : List UInt8) (co : Option Addr) (cn cc : Nat) (ky : Nat) (only : Bool) (ro : Option Addr) (rn rc : Nat) (cs : List Co) (h0 : 0 < cn) (hcn : cn ≤ 100) (B : Nat) (rs : List (List V)) (h : IsT w B co cn cc cs ro rn rc rs) (v : V) (hS : Srt ky rs) (hn : rn ≤ 300) (hfl : ∀ x ∈ rs, 0 < x.length ∧ x.length ≤ 100) :
    Calls Try.prog 23 #[tbV l co cn cc (ky : Nat) only ro rn rc, vv v.k v.n v.s] w (TakeIs w l cs cn ky only (hasN ky v rs) rs[atN ky v rs]? rs (takeN ky v rs)) := by
  have hrl := h.rows.len
  have hflb := flat_bound 100 rs (fun x hx => (hfl x hx).2)
  have HFr := fun (w' : World) (hb : Below w.heap.size w w') => fresh_any w' l co cn cc (ky : Nat) only ro rn rc cs B rs (h.past hb) h0 (by omega) (by omega) (by omega)
  have HS := fun (w' : World) (hb : Below w.heap.size w w') => seek_any w' l co cn cc ky only ro rn rc B rs (h.rows.past hb) v hS (by omega)
  have hat := fun h : hasN ky v rs = true => hasN_at h
  have hatl := at_le ky v rs
  have hlt := fun h : hasN ky v rs = true => has_lt h
  have hTk : takeN ky v rs = rs.take (atN ky v rs) ++ rs.drop (atN ky v rs + 1) := rfl
  obtain ⟨rsT, hrsT⟩ : ∃ x, takeN ky v rs = x := ⟨_, rfl⟩
  obtain ⟨N, hN⟩ : ∃ N, atN ky v rs = N := ⟨_, rfl⟩
  obtain ⟨tk, htk⟩ : ∃ tk, hasN ky v rs = tk := ⟨_, rfl⟩
  simp only [hrsT, hN, htk] at HS hat hatl hlt hTk ⊢
  obtain ⟨ox, hox⟩ : ∃ x, rs[N]? = x := ⟨_, rfl⟩
  rw [hox]
  have HO := Lib.hid hox
  clear hN htk hrsT hox
  obtain ⟨k, m, s⟩ := v
  unfold tbV at HFr HS
  unfold spV at HS
  simp only at HS ⊢
  have HTk := Lib.hid hTk
  have hB : Below w.heap.size w (((w.alloc (.cells #[.string (bsOf l), .slice co cn cc, .int .i64 (ky : Nat), .bool only, .slice ro rn rc] 47)).alloc (.cells #[.int .i64 k, .int .i64 m, .string s] 55)).alloc (.cells #[.string ⟨#[]⟩, .slice none 0 0, .int .i64 0, .bool false, .slice none 0 0] 47)) := (((Below.refl _ _).alloc (Nat.le_refl _) _).alloc (by simp) _).alloc (by simp; omega) _
  have hT : Bk (((w.alloc (.cells #[.string (bsOf l), .slice co cn cc, .int .i64 (ky : Nat), .bool only, .slice ro rn rc] 47)).alloc (.cells #[.int .i64 k, .int .i64 m, .string s] 55)).alloc (.cells #[.string ⟨#[]⟩, .slice none 0 0, .int .i64 0, .bool false, .slice none 0 0] 47)) w.heap.size (tbC l co cn cc (ky : Nat) only ro rn rc) 47 := ((Bk.new w _ _).alloc _).alloc _
  have hV : VAt (((w.alloc (.cells #[.string (bsOf l), .slice co cn cc, .int .i64 (ky : Nat), .bool only, .slice ro rn rc] 47)).alloc (.cells #[.int .i64 k, .int .i64 m, .string s] 55)).alloc (.cells #[.string ⟨#[]⟩, .slice none 0 0, .int .i64 0, .bool false, .slice none 0 0] 47)) (w.heap.size + 1) k m s := by
    have := (VAt.new (w.alloc (.cells #[.string (bsOf l), .slice co cn cc, .int .i64 (ky : Nat), .bool only, .slice ro rn rc] 47)) k m s).alloc (.cells #[.string ⟨#[]⟩, .slice none 0 0, .int .i64 0, .bool false, .slice none 0 0] 47)
    rwa [World.size_alloc] at this
  have hRr : Bk (((w.alloc (.cells #[.string (bsOf l), .slice co cn cc, .int .i64 (ky : Nat), .bool only, .slice ro rn rc] 47)).alloc (.cells #[.int .i64 k, .int .i64 m, .string s] 55)).alloc (.cells #[.string ⟨#[]⟩, .slice none 0 0, .int .i64 0, .bool false, .slice none 0 0] 47)) (w.heap.size + 1 + 1) (tbC [] none 0 0 0 false none 0 0) 47 := by
    have := Bk.new ((w.alloc (.cells #[.string (bsOf l), .slice co cn cc, .int .i64 (ky : Nat), .bool only, .slice ro rn rc] 47)).alloc (.cells #[.int .i64 k, .int .i64 m, .string s] 55)) #[.string ⟨#[]⟩, .slice none 0 0, .int .i64 0, .bool false, .slice none 0 0] 47
    rwa [World.size_alloc, World.size_alloc] at this
  have HFRE := Lib.hid HFr
  clear HFr hTk
  unfold tbV
  go_enter Try.func23, Try.ntmps23
  go_upto_region 1 with fail
  generalize ((w.alloc (.cells #[.string (bsOf l), .slice co cn cc, .int .i64 (ky : Nat), .bool only, .slice ro rn rc] 47)).alloc (.cells #[.int .i64 k, .int .i64 m, .string s] 55)).alloc (.cells #[.string ⟨#[]⟩, .slice none 0 0, .int .i64 0, .bool false, .slice none 0 0] 47) = W at hB hT hV hRr ⊢
  obtain ⟨p, hp⟩ : ∃ p, w.heap.size = p := ⟨_, rfl⟩
  obtain ⟨q, hq⟩ : ∃ q, p + 1 = q := ⟨_, rfl⟩
  obtain ⟨r, hr⟩ : ∃ r, q + 1 = r := ⟨_, rfl⟩
  have HP := Lib.hid hp
  simp only [hp, hq, hr] at hT hV hRr ⊢
  have hB' : Below p w W := by rw [← hp]; exact hB
  have hpW : p ≤ W.heap.size := Nat.le_of_lt hT.lt
  have hpr : p ≤ r := by omega
  obtain ⟨g0, g1, g2, -, -, -, hgB⟩ := hV
  obtain ⟨t0, t1, t2, t3, t4⟩ := tb_cells hT
  have HSW := HS W hB
  clear hp hq hr hB HS
  go_upto_region 2 with (go_at_call 76; refine HSW.mono ?_; rintro e w1 ⟨rfl, b1⟩)
  have hbV : Below W.heap.size W (w1.alloc (.cells #[.string (bsOf l), .slice co cn cc, .int .i64 (ky : Nat), .bool only, .slice ro rn rc, .int .i64 (N : Nat), .bool tk] 161)) := b1.alloc b1.size _
  have hS2 : Bk (w1.alloc (.cells #[.string (bsOf l), .slice co cn cc, .int .i64 (ky : Nat), .bool only, .slice ro rn rc, .int .i64 (N : Nat), .bool tk] 161)) w1.heap.size (spC l co cn cc (ky : Nat) only ro rn rc (N : Nat) tk) 161 := Bk.new w1 _ _
  have hgW := b1.size
  generalize w1.alloc (.cells #[.string (bsOf l), .slice co cn cc, .int .i64 (ky : Nat), .bool only, .slice ro rn rc, .int .i64 (N : Nat), .bool tk] 161) = V at hbV hS2 ⊢
  obtain ⟨gp, hgp⟩ : ∃ gp, w1.heap.size = gp := ⟨_, rfl⟩
  rw [hgp] at hS2 hgW
  simp only [hgp]
  have BV : Below p w V := hB'.trans (hbV.mono hpW)
  have hT2 := hT.past hbV
  have hR3 := hRr.past hbV
  have hrW0 := hRr.lt
  have hpV : p ≤ V.heap.size := Nat.le_trans hpW hbV.size
  clear t0 t1 t2 t3 t4 g0 g1 g2 hgB b1 hgp HSW hT
  obtain ⟨t0, t1, t2, t3, t4⟩ := tb_cells hT2
  obtain ⟨y0, y1, y2, y3, y4, y5, y6⟩ := sp_cells hS2
  cases tk with
  | false =>
    have HFr := HFRE.out V (by rw [HP.out]; exact BV)
    go_wp2_with (first
      | (go_at_call 75; refine HFr.mono ?_; rintro e w5 ⟨co1, cc1, ro1, rc1, rfl, h1, b5⟩; have hR5 : Hid (w5.heap[r]? = some (.cells (tbC [] none 0 0 0 false none 0 0) 47 (0, 0))) := hR3.past b5)
      | ((with_reducible refine wpList_store_blk (o := ⟨none, _, _, _, _, _⟩) rfl 47 (.tmp 4) (.tmp 15) rfl r _ (tbC l co1 cn cc1 (ky : Nat) only ro1 rn rc1) ?_ ?_ _ hR5 5 szTb (tbC_size ..) (tbC_size ..) (tbC_all ..) ?_); (rfl); (rfl); (intro w6 h6 g6)))
    have hR6 : Bk w6 r (tbC l co1 cn cc1 (ky : Nat) only ro1 rn rc1) 47 := h6.out
    obtain ⟨r0, r1, r2, r3, r4⟩ := tb_cells hR6
    refine bodyPost_ret (v := .tuple #[tbV l co1 cn cc1 (ky : Nat) only ro1 rn rc1, .slice none 0 0, .int .i64 2]) (by simp [results, Try.results23, go_sem, tbV, r0, r1, r2, r3, r4]) rfl ?_
    have hE := put_end (E := 0) (l := l) (ky := ky) (only := only) HP.out hpr BV hR3.lt h1 b5 g6
    refine ⟨fun _ => ⟨co1, cc1, ro1, rn, rc1, rfl, ?_⟩, (fun x q => by cases q), ?_⟩
    · rw [HP.out]; exact (h1.grown g6 hR3.lt).mono hpV
    · rw [HP.out]; exact (BV.trans (b5.mono hpV)).grown g6 (Nat.le_trans hpV b5.size) (fun z hz => by cases hz; exact hpr)
  | true =>
    obtain ⟨rv, hrv⟩ := hat rfl
    have HOx : Hid (ox = some rv) := HO.out.symm.trans hrv
    have hNr : N < rn := by have := hlt rfl; omega
    obtain ⟨hr0, hr1⟩ := hfl rv (List.mem_of_getElem? hrv)
    obtain ⟨M, hM⟩ : ∃ M, rn - (N + 1) = M := ⟨_, rfl⟩
    obtain ⟨R2, hR2⟩ : ∃ R2, rn - 1 = R2 := ⟨_, rfl⟩
    have hl2 : rsT.length = R2 := by rw [HTk.out, ← hR2]; simp; omega
    have hf2 : rsT.flatten.length ≤ 100000 := by
      have := flat_bound 100 rsT (fun x hx => by
        rw [HTk.out] at hx
        rcases List.mem_append.1 hx with h1 | h1
        · exact (hfl x (List.mem_of_mem_take h1)).2
        · exact (hfl x (List.mem_of_mem_drop h1)).2)
      omega
    obtain ⟨hs, hhs, hRd, -⟩ := h.rows
    have hRd2 : Rd EV w (hs.take N ++ hs.drop (N + 1)) rsT := by
      rw [HTk.out]
      exact (hRd.take N).append (hRd.drop (N + 1))
    have HAh := fun (w' : World) (hb : Below p V.drew w') => ahead_any w' l co cn cc (ky : Nat) only ro rn rc hs (hhs.past (by rw [HP.out]; exact BV.trans ((Below.refl _ _).drew.trans hb))) N (Nat.le_of_lt hNr) true
    have HBh := fun (w' : World) (hb : Below p V.drew w') => behind_any w' l co cn cc (ky : Nat) only ro rn rc hs (hhs.past (by rw [HP.out]; exact BV.trans ((Below.refl _ _).drew.trans hb))) N true hNr (by omega)
    have HHo := fun (w' : World) (hb : Below p V.drew w') (a : Option Addr) (hq : IsRR EH w' 0 a 2 2 [hs.take N, hs.drop (N + 1)]) => holding_any w' l co cn cc (ky : Nat) only ro rn rc cs (h.cols.past (by rw [HP.out]; exact BV.trans ((Below.refl _ _).drew.trans hb))) h0 (by omega) 0 a 2 2 _ hq (by omega) rsT (by simpa using hRd2.past (by rw [HP.out]; exact BV.trans ((Below.refl _ _).drew.trans hb))) R2 hl2 (by omega) hf2
    have HRo := fun (w' : World) (hb : Below p V.drew w') => row_any w' l co cn cc (ky : Nat) only ro rn rc B rs (h.rows.past (by rw [HP.out]; exact BV.trans ((Below.refl _ _).drew.trans hb))) N rv hrv hr0 (by omega) true
    have e1 : nxN N true = N + 1 := rfl
    simp only [e1, hM] at HBh
    obtain ⟨hsA, hhA⟩ : ∃ x, hs.take N = x := ⟨_, rfl⟩
    obtain ⟨hsB, hhB⟩ : ∃ x, hs.drop (N + 1) = x := ⟨_, rfl⟩
    obtain ⟨LN, hL⟩ : ∃ LN, rv.length = LN := ⟨_, rfl⟩
    simp only [hhA, hhB] at HAh HBh HHo
    simp only [hL] at HRo
    unfold spV at HAh HBh HRo
    unfold tbV at HHo
    have hrW : r < V.heap.size := hR3.lt
    have hgpr : some gp ≠ some r := by intro e; have := Option.some.inj e; omega
    have hB0 : p ≤ V.heap.size := hpV
    have HL := Lib.hid hL
    have HRv := Lib.hid hrv
    clear HFRE hR2 hM hl2 hf2 hhs hRd hRd2 hhA hhB e1 hT2 hat hlt hatl hL hrv
    go_upto_region 4 with fail
    clear t0 t1 t2 t3 t4
    refine region_inv (Take4 p gp r l co cn cc ky only ro rn rc N M R2 LN hsA hsB cs rsT rv) (by kernel_rfl) (by kernel_rfl) ?_ ?_ ?_
    · exact ⟨false, false, false, false, false, false, false, false, false, false, false, false, false, undef, undef, undef, undef, undef, undef, undef, undef, undef, undef, .slice none 0 0, .int .i64 0, none, 0, none, 0, 0, none, 0, none, 0, 0, 0, rfl, (by simp only [Act.put, List.setIfInBounds_toArray, List.set_cons_zero, List.set_cons_succ]), Below.refl _ _, (fun h => by cases h), (fun h => by cases h), (fun h => by cases h), (fun h => by cases h), (fun h => by cases h), (fun h => by cases h), (fun h => by cases h), (fun h => by cases h), (fun h => by cases h), (fun h => by cases h), (fun h => by cases h), (fun h => by cases h), (hS2.past (Below.refl _ _).drew), (fun h => by cases h), (fun h => by cases h), (fun h => by cases h), (fun h => by cases h), (fun h => by cases h), (fun h => by cases h), (fun h1 => hR3.past (Below.refl _ _).drew), (fun h => by cases h), (fun h => by cases h), (fun h => by cases h)⟩
    · refine ⟨?_, ?_, ?_, ?_, ?_, ?_, ?_, ?_, ?_, ?_, ?_, ?_, ?_, trivial⟩
      · rintro L a w ⟨b0, b1, b2, b3, b4, b5, b6, b7, b8, b9, b10, b11, b12, x16, x17, x18, x19, x20, x21, x22, x23, x24, x25, x5, x6, A1, c1, A2, c2, gq, co2, cc2, ro2, rc2, gx, cx, rfl, rfl, hb, cd0, cd1, cd2, cd3, cd4, cd5, cd6, cd7, cd8, cd9, cd11, cd12, f_g, f_a, f_b, f_q, f_t, f_o, f_lx, f_r, f_rs, f_o10, w_11_9⟩ hf hd
        have hf' : b0 = false := hf
        subst hf'
        clear hf hd
        have W_g := f_g.out
        try simp only [List.setIfInBounds_toArray, List.set_cons_zero, List.set_cons_succ]
        intro K hK
        rw [if_pos (by rfl)]
        go_simp
        exact hK.out _ _ ⟨true, b1, b2, b3, b4, b5, b6, b7, b8, b9, b10, b11, b12, (.pointer (some ⟨gp, 0, none⟩)), x17, x18, x19, x20, x21, x22, x23, x24, x25, x5, x6, A1, c1, A2, c2, gq, co2, cc2, ro2, rc2, gx, cx, (by simp only [Act.put, List.setIfInBounds_toArray, List.set_cons_zero, List.set_cons_succ]), (by simp only [Act.put, List.setIfInBounds_toArray, List.set_cons_zero, List.set_cons_succ]), hb, (fun _ => rfl), cd1, cd2, cd3, cd4, cd5, cd6, cd7, cd8, cd9, cd11, cd12, f_g, f_a, f_b, f_q, f_t, f_o, f_lx, f_r, f_rs, f_o10, w_11_9⟩
      · rintro L a w ⟨b0, b1, b2, b3, b4, b5, b6, b7, b8, b9, b10, b11, b12, x16, x17, x18, x19, x20, x21, x22, x23, x24, x25, x5, x6, A1, c1, A2, c2, gq, co2, cc2, ro2, rc2, gx, cx, rfl, rfl, hb, cd0, cd1, cd2, cd3, cd4, cd5, cd6, cd7, cd8, cd9, cd11, cd12, f_g, f_a, f_b, f_q, f_t, f_o, f_lx, f_r, f_rs, f_o10, w_11_9⟩ hf hd
        have hf' : b1 = false := hf
        subst hf'
        have d0 : b0 = true := hd ⟨0, .data⟩ (by simp) rfl
        subst d0
        obtain rfl := cd0.out rfl
        clear hf hd
        have W_g := f_g.out
        try simp only [List.setIfInBounds_toArray, List.set_cons_zero, List.set_cons_succ]
        obtain ⟨z0, z1, z2, z3, z4, z5, z6⟩ := sp_cells W_g
        intro K hK
        rw [if_pos (by rfl)]
        go_simp
        exact hK.out _ _ ⟨true, true, b2, b3, b4, b5, b6, b7, b8, b9, b10, b11, b12, .pointer (some ⟨gp, 0, none⟩), (.agg #[.string (bsOf l), .slice co cn cc, .int .i64 (ky : Nat), .bool only, .slice ro rn rc]), x18, x19, x20, x21, x22, x23, x24, x25, x5, x6, A1, c1, A2, c2, gq, co2, cc2, ro2, rc2, gx, cx, (by simp only [Act.put, List.setIfInBounds_toArray, List.set_cons_zero, List.set_cons_succ]), (by simp only [Act.put, List.setIfInBounds_toArray, List.set_cons_zero, List.set_cons_succ]), hb, (fun _ => rfl), (fun _ => rfl), cd2, cd3, cd4, cd5, cd6, cd7, cd8, cd9, cd11, cd12, f_g, f_a, f_b, f_q, f_t, f_o, f_lx, f_r, f_rs, f_o10, w_11_9⟩
      · rintro L a w ⟨b0, b1, b2, b3, b4, b5, b6, b7, b8, b9, b10, b11, b12, x16, x17, x18, x19, x20, x21, x22, x23, x24, x25, x5, x6, A1, c1, A2, c2, gq, co2, cc2, ro2, rc2, gx, cx, rfl, rfl, hb, cd0, cd1, cd2, cd3, cd4, cd5, cd6, cd7, cd8, cd9, cd11, cd12, f_g, f_a, f_b, f_q, f_t, f_o, f_lx, f_r, f_rs, f_o10, w_11_9⟩ hf hd
        have hf' : b2 = false := hf
        subst hf'
        clear hf hd
        have W_g := f_g.out
        try simp only [List.setIfInBounds_toArray, List.set_cons_zero, List.set_cons_succ]
        obtain ⟨z0, z1, z2, z3, z4, z5, z6⟩ := sp_cells W_g
        intro K hK
        rw [if_pos (by rfl)]
        go_simp
        exact hK.out _ _ ⟨b0, b1, true, b3, b4, b5, b6, b7, b8, b9, b10, b11, b12, x16, x17, (.agg #[.string (bsOf l), .slice co cn cc, .int .i64 (ky : Nat), .bool only, .slice ro rn rc, .int .i64 (N : Nat), .bool true]), x19, x20, x21, x22, x23, x24, x25, x5, x6, A1, c1, A2, c2, gq, co2, cc2, ro2, rc2, gx, cx, (by simp only [Act.put, List.setIfInBounds_toArray, List.set_cons_zero, List.set_cons_succ]), (by simp only [Act.put, List.setIfInBounds_toArray, List.set_cons_zero, List.set_cons_succ]), hb, cd0, cd1, (fun _ => rfl), cd3, cd4, cd5, cd6, cd7, cd8, cd9, cd11, cd12, f_g, f_a, f_b, f_q, f_t, f_o, f_lx, f_r, f_rs, f_o10, w_11_9⟩
      · rintro L a w ⟨b0, b1, b2, b3, b4, b5, b6, b7, b8, b9, b10, b11, b12, x16, x17, x18, x19, x20, x21, x22, x23, x24, x25, x5, x6, A1, c1, A2, c2, gq, co2, cc2, ro2, rc2, gx, cx, rfl, rfl, hb, cd0, cd1, cd2, cd3, cd4, cd5, cd6, cd7, cd8, cd9, cd11, cd12, f_g, f_a, f_b, f_q, f_t, f_o, f_lx, f_r, f_rs, f_o10, w_11_9⟩ hf hd
        have hf' : b3 = false := hf
        subst hf'
        have d2 : b2 = true := hd ⟨2, .data⟩ (by simp) rfl
        subst d2
        obtain rfl := cd2.out rfl
        clear hf hd
        have W_g := f_g.out
        try simp only [List.setIfInBounds_toArray, List.set_cons_zero, List.set_cons_succ]
        intro K hK
        rw [if_pos (by rfl)]
        go_simp
        go_at_call 79
        refine (HAh _ hb).mono ?_
        rintro e w' ⟨A3, c3, rfl, i1, bx⟩
        exact hK.out _ _ ⟨b0, b1, true, true, b4, b5, b6, b7, b8, b9, b10, b11, b12, x16, x17, .agg #[.string (bsOf l), .slice co cn cc, .int .i64 (ky : Nat), .bool only, .slice ro rn rc, .int .i64 (N : Nat), .bool true], (.slice A3 N c3), x20, x21, x22, x23, x24, x25, x5, x6, A3, c3, A2, c2, gq, co2, cc2, ro2, rc2, gx, cx, (by simp only [Act.put, List.setIfInBounds_toArray, List.set_cons_zero, List.set_cons_succ]), (by simp only [Act.put, List.setIfInBounds_toArray, List.set_cons_zero, List.set_cons_succ]), hb.trans (bx.mono (Nat.le_trans hB0 hb.size)), cd0, cd1, (fun _ => rfl), (fun _ => rfl), cd4, cd5, cd6, cd7, cd8, cd9, cd11, cd12, (f_g.out.past bx), (fun _ _ => i1), (fun h0 h1 => (f_b.out h0 h1).past bx), (fun h0 h1 => (f_q.out h0 h1).past bx), (fun h0 => (f_t.out h0).past bx), (fun h0 => (f_o.out h0).past bx), f_lx, (fun h1 => (f_r.out h1).past bx), (fun h0 => (f_rs.out h0).past bx), f_o10, w_11_9⟩
      · rintro L a w ⟨b0, b1, b2, b3, b4, b5, b6, b7, b8, b9, b10, b11, b12, x16, x17, x18, x19, x20, x21, x22, x23, x24, x25, x5, x6, A1, c1, A2, c2, gq, co2, cc2, ro2, rc2, gx, cx, rfl, rfl, hb, cd0, cd1, cd2, cd3, cd4, cd5, cd6, cd7, cd8, cd9, cd11, cd12, f_g, f_a, f_b, f_q, f_t, f_o, f_lx, f_r, f_rs, f_o10, w_11_9⟩ hf hd
        have hf' : b4 = false := hf
        subst hf'
        clear hf hd
        have W_g := f_g.out
        try simp only [List.setIfInBounds_toArray, List.set_cons_zero, List.set_cons_succ]
        obtain ⟨z0, z1, z2, z3, z4, z5, z6⟩ := sp_cells W_g
        intro K hK
        rw [if_pos (by rfl)]
        go_simp
        exact hK.out _ _ ⟨b0, b1, b2, b3, true, b5, b6, b7, b8, b9, b10, b11, b12, x16, x17, x18, x19, (.agg #[.string (bsOf l), .slice co cn cc, .int .i64 (ky : Nat), .bool only, .slice ro rn rc, .int .i64 (N : Nat), .bool true]), x21, x22, x23, x24, x25, x5, x6, A1, c1, A2, c2, gq, co2, cc2, ro2, rc2, gx, cx, (by simp only [Act.put, List.setIfInBounds_toArray, List.set_cons_zero, List.set_cons_succ]), (by simp only [Act.put, List.setIfInBounds_toArray, List.set_cons_zero, List.set_cons_succ]), hb, cd0, cd1, cd2, cd3, (fun _ => rfl), cd5, cd6, cd7, cd8, cd9, cd11, cd12, f_g, f_a, f_b, f_q, f_t, f_o, f_lx, f_r, f_rs, f_o10, w_11_9⟩
      · rintro L a w ⟨b0, b1, b2, b3, b4, b5, b6, b7, b8, b9, b10, b11, b12, x16, x17, x18, x19, x20, x21, x22, x23, x24, x25, x5, x6, A1, c1, A2, c2, gq, co2, cc2, ro2, rc2, gx, cx, rfl, rfl, hb, cd0, cd1, cd2, cd3, cd4, cd5, cd6, cd7, cd8, cd9, cd11, cd12, f_g, f_a, f_b, f_q, f_t, f_o, f_lx, f_r, f_rs, f_o10, w_11_9⟩ hf hd
        have hf' : b5 = false := hf
        subst hf'
        have d4 : b4 = true := hd ⟨4, .data⟩ (by simp) rfl
        subst d4
        have d3 : b3 = true := hd ⟨3, .chain⟩ (by simp) rfl
        subst d3
        obtain rfl := cd4.out rfl
        obtain rfl := cd3.out rfl
        clear hf hd
        have W_g := f_g.out
        try simp only [List.setIfInBounds_toArray, List.set_cons_zero, List.set_cons_succ]
        intro K hK
        rw [if_pos (by rfl)]
        go_simp
        go_at_call 80
        refine (HBh _ hb).mono ?_
        rintro e w' ⟨A3, c3, rfl, i1, bx⟩
        exact hK.out _ _ ⟨b0, b1, b2, true, true, true, b6, b7, b8, b9, b10, b11, b12, x16, x17, x18, .slice A1 N c1, .agg #[.string (bsOf l), .slice co cn cc, .int .i64 (ky : Nat), .bool only, .slice ro rn rc, .int .i64 (N : Nat), .bool true], (.slice A3 M c3), x22, x23, x24, x25, x5, x6, A1, c1, A3, c3, gq, co2, cc2, ro2, rc2, gx, cx, (by simp only [Act.put, List.setIfInBounds_toArray, List.set_cons_zero, List.set_cons_succ]), (by simp only [Act.put, List.setIfInBounds_toArray, List.set_cons_zero, List.set_cons_succ]), hb.trans (bx.mono (Nat.le_trans hB0 hb.size)), cd0, cd1, cd2, (fun _ => rfl), (fun _ => rfl), (fun _ => rfl), cd6, cd7, cd8, cd9, cd11, cd12, (f_g.out.past bx), (fun h0 h1 => (f_a.out h0 h1).past bx), (fun _ _ => i1), (fun h0 h1 => (f_q.out h0 h1).past bx), (fun h0 => (f_t.out h0).past bx), (fun h0 => (f_o.out h0).past bx), f_lx, (fun h1 => (f_r.out h1).past bx), (fun h0 => (f_rs.out h0).past bx), f_o10, w_11_9⟩
      · rintro L a w ⟨b0, b1, b2, b3, b4, b5, b6, b7, b8, b9, b10, b11, b12, x16, x17, x18, x19, x20, x21, x22, x23, x24, x25, x5, x6, A1, c1, A2, c2, gq, co2, cc2, ro2, rc2, gx, cx, rfl, rfl, hb, cd0, cd1, cd2, cd3, cd4, cd5, cd6, cd7, cd8, cd9, cd11, cd12, f_g, f_a, f_b, f_q, f_t, f_o, f_lx, f_r, f_rs, f_o10, w_11_9⟩ hf hd
        have hf' : b6 = false := hf
        subst hf'
        have d3 : b3 = true := hd ⟨3, .data⟩ (by simp) rfl
        subst d3
        have d5 : b5 = true := hd ⟨5, .data⟩ (by simp) rfl
        subst d5
        obtain rfl := cd3.out rfl
        obtain rfl := cd5.out rfl
        clear hf hd
        have W_g := f_g.out
        have W_a := f_a.out rfl rfl
        have W_b := f_b.out rfl rfl
        try simp only [List.setIfInBounds_toArray, List.set_cons_zero, List.set_cons_succ]
        intro K hK
        rw [if_pos (by rfl)]
        go_simp
        have bx : Below w.heap.size w (w.alloc (.cells #[.slice A1 N c1, .slice A2 M c2] 45)) := (Below.refl _ _).alloc (Nat.le_refl _) _
        have i1 : IsRR EH (w.alloc (.cells #[.slice A1 N c1, .slice A2 M c2] 45)) 0 (some ⟨w.heap.size, 0, none⟩) 2 2 [hsA, hsB] := part_lit w _ [⟨A1, N, c1⟩, ⟨A2, M, c2⟩] _ ((Rd.one (x := ⟨A1, N, c1⟩) W_a).append (Rd.one (x := ⟨A2, M, c2⟩) W_b)) 2 rfl (by omega) _ rfl
        exact hK.out _ _ ⟨b0, b1, b2, true, b4, true, true, b7, b8, b9, b10, b11, b12, x16, x17, x18, .slice A1 N c1, x20, .slice A2 M c2, (.slice (some ⟨(w.heap.size), 0, none⟩) 2 2), x23, x24, x25, x5, x6, A1, c1, A2, c2, w.heap.size, co2, cc2, ro2, rc2, gx, cx, (by simp only [Act.put, List.setIfInBounds_toArray, List.set_cons_zero, List.set_cons_succ]), (by simp only [Act.put, List.setIfInBounds_toArray, List.set_cons_zero, List.set_cons_succ]), hb.trans (bx.mono (Nat.le_trans hB0 hb.size)), cd0, cd1, cd2, (fun _ => rfl), cd4, (fun _ => rfl), (fun _ => rfl), cd7, cd8, cd9, cd11, cd12, (f_g.out.past bx), (fun _ h => by cases h), (fun _ h => by cases h), (fun _ _ => i1), (fun h0 => (f_t.out h0).past bx), (fun h0 => (f_o.out h0).past bx), f_lx, (fun h1 => (f_r.out h1).past bx), (fun h0 => (f_rs.out h0).past bx), f_o10, w_11_9⟩
      · rintro L a w ⟨b0, b1, b2, b3, b4, b5, b6, b7, b8, b9, b10, b11, b12, x16, x17, x18, x19, x20, x21, x22, x23, x24, x25, x5, x6, A1, c1, A2, c2, gq, co2, cc2, ro2, rc2, gx, cx, rfl, rfl, hb, cd0, cd1, cd2, cd3, cd4, cd5, cd6, cd7, cd8, cd9, cd11, cd12, f_g, f_a, f_b, f_q, f_t, f_o, f_lx, f_r, f_rs, f_o10, w_11_9⟩ hf hd
        have hf' : b7 = false := hf
        subst hf'
        have d1 : b1 = true := hd ⟨1, .data⟩ (by simp) rfl
        subst d1
        have d6 : b6 = true := hd ⟨6, .data⟩ (by simp) rfl
        subst d6
        have d5 : b5 = true := hd ⟨5, .chain⟩ (by simp) rfl
        subst d5
        obtain rfl := cd1.out rfl
        obtain rfl := cd6.out rfl
        obtain rfl := cd5.out rfl
        clear hf hd
        have W_g := f_g.out
        have W_q := f_q.out rfl rfl
        try simp only [List.setIfInBounds_toArray, List.set_cons_zero, List.set_cons_succ]
        intro K hK
        rw [if_pos (by rfl)]
        go_simp
        go_at_call 78
        refine (HHo _ hb _ W_q).mono ?_
        rintro e w' ⟨co3, cc3, ro3, rc3, rfl, i1, bx⟩
        unfold tbV
        exact hK.out _ _ ⟨b0, true, b2, b3, b4, true, true, true, b8, b9, b10, b11, b12, x16, .agg #[.string (bsOf l), .slice co cn cc, .int .i64 (ky : Nat), .bool only, .slice ro rn rc], x18, x19, x20, .slice A2 M c2, .slice (some ⟨gq, 0, none⟩) 2 2, (.agg #[.string (bsOf l), .slice co3 cn cc3, .int .i64 (ky : Nat), .bool only, .slice ro3 R2 rc3]), x24, x25, x5, x6, A1, c1, A2, c2, gq, co3, cc3, ro3, rc3, gx, cx, (by simp only [Act.put, List.setIfInBounds_toArray, List.set_cons_zero, List.set_cons_succ]), (by simp only [Act.put, List.setIfInBounds_toArray, List.set_cons_zero, List.set_cons_succ]), hb.trans (bx.mono (Nat.le_trans hB0 hb.size)), cd0, (fun _ => rfl), cd2, cd3, cd4, (fun _ => rfl), (fun _ => rfl), (fun _ => rfl), cd8, cd9, cd11, cd12, (f_g.out.past bx), (fun _ h => by cases h), (fun _ h => by cases h), (fun _ h => by cases h), (fun _ => i1.mono hb.size), (fun h0 => (f_o.out h0).past bx), f_lx, (fun h1 => (f_r.out h1).past bx), (fun h0 => absurd (f_o10.out h0) (by simp)), (fun _ => rfl), w_11_9⟩
      · rintro L a w ⟨b0, b1, b2, b3, b4, b5, b6, b7, b8, b9, b10, b11, b12, x16, x17, x18, x19, x20, x21, x22, x23, x24, x25, x5, x6, A1, c1, A2, c2, gq, co2, cc2, ro2, rc2, gx, cx, rfl, rfl, hb, cd0, cd1, cd2, cd3, cd4, cd5, cd6, cd7, cd8, cd9, cd11, cd12, f_g, f_a, f_b, f_q, f_t, f_o, f_lx, f_r, f_rs, f_o10, w_11_9⟩ hf hd
        have hf' : b8 = false := hf
        subst hf'
        clear hf hd
        have W_g := f_g.out
        try simp only [List.setIfInBounds_toArray, List.set_cons_zero, List.set_cons_succ]
        obtain ⟨z0, z1, z2, z3, z4, z5, z6⟩ := sp_cells W_g
        intro K hK
        rw [if_pos (by rfl)]
        go_simp
        exact hK.out _ _ ⟨b0, b1, b2, b3, b4, b5, b6, b7, true, b9, b10, b11, b12, x16, x17, x18, x19, x20, x21, x22, x23, (.agg #[.string (bsOf l), .slice co cn cc, .int .i64 (ky : Nat), .bool only, .slice ro rn rc, .int .i64 (N : Nat), .bool true]), x25, x5, x6, A1, c1, A2, c2, gq, co2, cc2, ro2, rc2, gx, cx, (by simp only [Act.put, List.setIfInBounds_toArray, List.set_cons_zero, List.set_cons_succ]), (by simp only [Act.put, List.setIfInBounds_toArray, List.set_cons_zero, List.set_cons_succ]), hb, cd0, cd1, cd2, cd3, cd4, cd5, cd6, cd7, (fun _ => rfl), cd9, cd11, cd12, f_g, f_a, f_b, f_q, f_t, f_o, f_lx, f_r, f_rs, f_o10, w_11_9⟩
      · rintro L a w ⟨b0, b1, b2, b3, b4, b5, b6, b7, b8, b9, b10, b11, b12, x16, x17, x18, x19, x20, x21, x22, x23, x24, x25, x5, x6, A1, c1, A2, c2, gq, co2, cc2, ro2, rc2, gx, cx, rfl, rfl, hb, cd0, cd1, cd2, cd3, cd4, cd5, cd6, cd7, cd8, cd9, cd11, cd12, f_g, f_a, f_b, f_q, f_t, f_o, f_lx, f_r, f_rs, f_o10, w_11_9⟩ hf hd
        have hf' : b9 = false := hf
        subst hf'
        have d8 : b8 = true := hd ⟨8, .data⟩ (by simp) rfl
        subst d8
        have d7 : b7 = true := hd ⟨7, .chain⟩ (by simp) rfl
        subst d7
        obtain rfl := cd8.out rfl
        obtain rfl := cd7.out rfl
        clear hf hd
        have W_g := f_g.out
        have W_t := f_t.out rfl
        try simp only [List.setIfInBounds_toArray, List.set_cons_zero, List.set_cons_succ]
        intro K hK
        rw [if_pos (by rfl)]
        go_simp
        go_at_call 86
        refine (HRo _ hb).mono ?_
        rintro e w' ⟨g3, c3, rfl, i1, bx, q1⟩
        have e_11 : b11 = false := by cases hq : b11 with | false => rfl | true => exact absurd (w_11_9.out hq) (by simp)
        subst e_11
        exact hK.out _ _ ⟨b0, b1, b2, b3, b4, b5, b6, true, true, true, b10, false, b12, x16, x17, x18, x19, x20, x21, x22, .agg #[.string (bsOf l), .slice co2 cn cc2, .int .i64 (ky : Nat), .bool only, .slice ro2 R2 rc2], .agg #[.string (bsOf l), .slice co cn cc, .int .i64 (ky : Nat), .bool only, .slice ro rn rc, .int .i64 (N : Nat), .bool true], (.slice (some ⟨g3, 0, none⟩) LN c3), x5, x6, A1, c1, A2, c2, gq, co2, cc2, ro2, rc2, g3, c3, (by simp only [Act.put, List.setIfInBounds_toArray, List.set_cons_zero, List.set_cons_succ]), (by simp only [Act.put, List.setIfInBounds_toArray, List.set_cons_zero, List.set_cons_succ]), hb.trans (bx.mono (Nat.le_trans hB0 hb.size)), cd0, cd1, cd2, cd3, cd4, cd5, cd6, (fun _ => rfl), (fun _ => rfl), (fun _ => rfl), (fun h => by cases h), cd12, (f_g.out.past bx), (fun h0 h1 => (f_a.out h0 h1).past bx), (fun h0 h1 => (f_b.out h0 h1).past bx), (fun _ h => by cases h), (fun h0 => (f_t.out h0).past bx), (fun _ => i1), (fun _ => Nat.le_trans hb.size q1), (fun h1 => (f_r.out h1).past bx), (fun h0 => (f_rs.out h0).past bx), f_o10, (fun _ => rfl)⟩
      · rintro L a w ⟨b0, b1, b2, b3, b4, b5, b6, b7, b8, b9, b10, b11, b12, x16, x17, x18, x19, x20, x21, x22, x23, x24, x25, x5, x6, A1, c1, A2, c2, gq, co2, cc2, ro2, rc2, gx, cx, rfl, rfl, hb, cd0, cd1, cd2, cd3, cd4, cd5, cd6, cd7, cd8, cd9, cd11, cd12, f_g, f_a, f_b, f_q, f_t, f_o, f_lx, f_r, f_rs, f_o10, w_11_9⟩ hf hd
        have hf' : b10 = false := hf
        subst hf'
        have d7 : b7 = true := hd ⟨7, .data⟩ (by simp) rfl
        subst d7
        have d9 : b9 = true := hd ⟨9, .chain⟩ (by simp) rfl
        subst d9
        have d0 : b0 = true := hd ⟨0, .phase⟩ (by simp) rfl
        subst d0
        have d1 : b1 = true := hd ⟨1, .phase⟩ (by simp) rfl
        subst d1
        have d2 : b2 = true := hd ⟨2, .phase⟩ (by simp) rfl
        subst d2
        have d3 : b3 = true := hd ⟨3, .phase⟩ (by simp) rfl
        subst d3
        have d4 : b4 = true := hd ⟨4, .phase⟩ (by simp) rfl
        subst d4
        have d5 : b5 = true := hd ⟨5, .phase⟩ (by simp) rfl
        subst d5
        have d6 : b6 = true := hd ⟨6, .phase⟩ (by simp) rfl
        subst d6
        obtain rfl := cd7.out rfl
        obtain rfl := cd9.out rfl
        obtain rfl := cd0.out rfl
        obtain rfl := cd1.out rfl
        obtain rfl := cd2.out rfl
        obtain rfl := cd3.out rfl
        obtain rfl := cd4.out rfl
        obtain rfl := cd5.out rfl
        obtain rfl := cd6.out rfl
        clear hf hd
        have W_g := f_g.out
        have W_t := f_t.out rfl
        have W_o := f_o.out rfl
        have W_lx := f_lx.out rfl
        have W_r := f_r.out rfl
        try simp only [List.setIfInBounds_toArray, List.set_cons_zero, List.set_cons_succ]
        intro K hK
        rw [if_pos (by rfl)]
        refine wp_store_blkT 47 _ _ rfl r _ (tbC l co2 cn cc2 (ky : Nat) only ro2 R2 rc2) rfl rfl _ (Lib.hid W_r) 5 szTb (tbC_size ..) (tbC_size ..) (tbC_all ..) fun w2 h8 g8 => ?_
        have hb2 := hb.grown g8 (Nat.le_trans hB0 hb.size) (fun z hz => by cases hz; exact hpr)
        exact hK.out _ _ ⟨true, true, true, true, true, true, true, true, b8, true, true, b11, b12, .pointer (some ⟨gp, 0, none⟩), .agg #[.string (bsOf l), .slice co cn cc, .int .i64 (ky : Nat), .bool only, .slice ro rn rc], .agg #[.string (bsOf l), .slice co cn cc, .int .i64 (ky : Nat), .bool only, .slice ro rn rc, .int .i64 (N : Nat), .bool true], .slice A1 N c1, .agg #[.string (bsOf l), .slice co cn cc, .int .i64 (ky : Nat), .bool only, .slice ro rn rc, .int .i64 (N : Nat), .bool true], .slice A2 M c2, .slice (some ⟨gq, 0, none⟩) 2 2, .agg #[.string (bsOf l), .slice co2 cn cc2, .int .i64 (ky : Nat), .bool only, .slice ro2 R2 rc2], x24, .slice (some ⟨gx, 0, none⟩) LN cx, x5, x6, A1, c1, A2, c2, gq, co2, cc2, ro2, rc2, gx, cx, (by simp only [Act.put, List.setIfInBounds_toArray, List.set_cons_zero, List.set_cons_succ]), (by simp only [Act.put, List.setIfInBounds_toArray, List.set_cons_zero, List.set_cons_succ]), hb2, (fun _ => rfl), (fun _ => rfl), (fun _ => rfl), (fun _ => rfl), (fun _ => rfl), (fun _ => rfl), (fun _ => rfl), (fun _ => rfl), cd8, (fun _ => rfl), cd11, cd12, (Bk.grown f_g.out g8 hgpr), (fun _ h => by cases h), (fun _ h => by cases h), (fun _ h => by cases h), (fun h0 => IsT.grown (f_t.out h0) g8 hrW), (fun h0 => OwnR.grown (f_o.out h0) g8 (ne_of_ge hrW W_lx)), f_lx, (fun h => by cases h), (fun _ => h8.out), (fun _ => rfl), (fun _ => rfl)⟩
      · rintro L a w ⟨b0, b1, b2, b3, b4, b5, b6, b7, b8, b9, b10, b11, b12, x16, x17, x18, x19, x20, x21, x22, x23, x24, x25, x5, x6, A1, c1, A2, c2, gq, co2, cc2, ro2, rc2, gx, cx, rfl, rfl, hb, cd0, cd1, cd2, cd3, cd4, cd5, cd6, cd7, cd8, cd9, cd11, cd12, f_g, f_a, f_b, f_q, f_t, f_o, f_lx, f_r, f_rs, f_o10, w_11_9⟩ hf hd
        have hf' : b11 = false := hf
        subst hf'
        have d9 : b9 = true := hd ⟨9, .data⟩ (by simp) rfl
        subst d9
        have d10 : b10 = true := hd ⟨10, .chain⟩ (by simp) rfl
        subst d10
        have d0 : b0 = true := hd ⟨0, .phase⟩ (by simp) rfl
        subst d0
        have d1 : b1 = true := hd ⟨1, .phase⟩ (by simp) rfl
        subst d1
        have d2 : b2 = true := hd ⟨2, .phase⟩ (by simp) rfl
        subst d2
        have d3 : b3 = true := hd ⟨3, .phase⟩ (by simp) rfl
        subst d3
        have d4 : b4 = true := hd ⟨4, .phase⟩ (by simp) rfl
        subst d4
        have d5 : b5 = true := hd ⟨5, .phase⟩ (by simp) rfl
        subst d5
        have d6 : b6 = true := hd ⟨6, .phase⟩ (by simp) rfl
        subst d6
        have d7 : b7 = true := hd ⟨7, .phase⟩ (by simp) rfl
        subst d7
        have d8 : b8 = true := hd ⟨8, .phase⟩ (by simp) rfl
        subst d8
        obtain rfl := cd9.out rfl
        obtain rfl := cd0.out rfl
        obtain rfl := cd1.out rfl
        obtain rfl := cd2.out rfl
        obtain rfl := cd3.out rfl
        obtain rfl := cd4.out rfl
        obtain rfl := cd5.out rfl
        obtain rfl := cd6.out rfl
        obtain rfl := cd7.out rfl
        obtain rfl := cd8.out rfl
        clear hf hd
        have W_g := f_g.out
        have W_t := f_t.out rfl
        have W_o := f_o.out rfl
        have W_lx := f_lx.out rfl
        have W_rs := f_rs.out rfl
        have W_o10 := f_o10.out rfl
        try simp only [List.setIfInBounds_toArray, List.set_cons_zero, List.set_cons_succ]
        intro K hK
        rw [if_pos (by rfl)]
        go_simp
        exact hK.out _ _ ⟨true, true, true, true, true, true, true, true, true, true, true, true, b12, .pointer (some ⟨gp, 0, none⟩), .agg #[.string (bsOf l), .slice co cn cc, .int .i64 (ky : Nat), .bool only, .slice ro rn rc], .agg #[.string (bsOf l), .slice co cn cc, .int .i64 (ky : Nat), .bool only, .slice ro rn rc, .int .i64 (N : Nat), .bool true], .slice A1 N c1, .agg #[.string (bsOf l), .slice co cn cc, .int .i64 (ky : Nat), .bool only, .slice ro rn rc, .int .i64 (N : Nat), .bool true], .slice A2 M c2, .slice (some ⟨gq, 0, none⟩) 2 2, .agg #[.string (bsOf l), .slice co2 cn cc2, .int .i64 (ky : Nat), .bool only, .slice ro2 R2 rc2], .agg #[.string (bsOf l), .slice co cn cc, .int .i64 (ky : Nat), .bool only, .slice ro rn rc, .int .i64 (N : Nat), .bool true], .slice (some ⟨gx, 0, none⟩) LN cx, (.slice (some ⟨gx, 0, none⟩) LN cx), x6, A1, c1, A2, c2, gq, co2, cc2, ro2, rc2, gx, cx, (by simp only [Act.put, List.setIfInBounds_toArray, List.set_cons_zero, List.set_cons_succ]), (by simp only [Act.put, List.setIfInBounds_toArray, List.set_cons_zero, List.set_cons_succ]), hb, (fun _ => rfl), (fun _ => rfl), (fun _ => rfl), (fun _ => rfl), (fun _ => rfl), (fun _ => rfl), (fun _ => rfl), (fun _ => rfl), (fun _ => rfl), (fun _ => rfl), (fun _ => rfl), cd12, f_g, (fun _ h => by cases h), (fun _ h => by cases h), (fun _ h => by cases h), f_t, f_o, f_lx, (fun h => by cases h), f_rs, f_o10, (fun _ => rfl)⟩
      · rintro L a w ⟨b0, b1, b2, b3, b4, b5, b6, b7, b8, b9, b10, b11, b12, x16, x17, x18, x19, x20, x21, x22, x23, x24, x25, x5, x6, A1, c1, A2, c2, gq, co2, cc2, ro2, rc2, gx, cx, rfl, rfl, hb, cd0, cd1, cd2, cd3, cd4, cd5, cd6, cd7, cd8, cd9, cd11, cd12, f_g, f_a, f_b, f_q, f_t, f_o, f_lx, f_r, f_rs, f_o10, w_11_9⟩ hf hd
        have hf' : b12 = false := hf
        subst hf'
        have d11 : b11 = true := hd ⟨11, .chain⟩ (by simp) rfl
        subst d11
        have d0 : b0 = true := hd ⟨0, .phase⟩ (by simp) rfl
        subst d0
        have d1 : b1 = true := hd ⟨1, .phase⟩ (by simp) rfl
        subst d1
        have d2 : b2 = true := hd ⟨2, .phase⟩ (by simp) rfl
        subst d2
        have d3 : b3 = true := hd ⟨3, .phase⟩ (by simp) rfl
        subst d3
        have d4 : b4 = true := hd ⟨4, .phase⟩ (by simp) rfl
        subst d4
        have d5 : b5 = true := hd ⟨5, .phase⟩ (by simp) rfl
        subst d5
        have d6 : b6 = true := hd ⟨6, .phase⟩ (by simp) rfl
        subst d6
        have d7 : b7 = true := hd ⟨7, .phase⟩ (by simp) rfl
        subst d7
        have d8 : b8 = true := hd ⟨8, .phase⟩ (by simp) rfl
        subst d8
        have d9 : b9 = true := hd ⟨9, .phase⟩ (by simp) rfl
        subst d9
        have d10 : b10 = true := hd ⟨10, .phase⟩ (by simp) rfl
        subst d10
        obtain rfl := cd11.out rfl
        obtain rfl := cd0.out rfl
        obtain rfl := cd1.out rfl
        obtain rfl := cd2.out rfl
        obtain rfl := cd3.out rfl
        obtain rfl := cd4.out rfl
        obtain rfl := cd5.out rfl
        obtain rfl := cd6.out rfl
        obtain rfl := cd7.out rfl
        obtain rfl := cd8.out rfl
        obtain rfl := cd9.out rfl
        clear hf hd
        have W_g := f_g.out
        have W_t := f_t.out rfl
        have W_o := f_o.out rfl
        have W_lx := f_lx.out rfl
        have W_rs := f_rs.out rfl
        have W_o10 := f_o10.out rfl
        try simp only [List.setIfInBounds_toArray, List.set_cons_zero, List.set_cons_succ]
        intro K hK
        rw [if_pos (by rfl)]
        go_simp
        exact hK.out _ _ ⟨true, true, true, true, true, true, true, true, true, true, true, true, true, .pointer (some ⟨gp, 0, none⟩), .agg #[.string (bsOf l), .slice co cn cc, .int .i64 (ky : Nat), .bool only, .slice ro rn rc], .agg #[.string (bsOf l), .slice co cn cc, .int .i64 (ky : Nat), .bool only, .slice ro rn rc, .int .i64 (N : Nat), .bool true], .slice A1 N c1, .agg #[.string (bsOf l), .slice co cn cc, .int .i64 (ky : Nat), .bool only, .slice ro rn rc, .int .i64 (N : Nat), .bool true], .slice A2 M c2, .slice (some ⟨gq, 0, none⟩) 2 2, .agg #[.string (bsOf l), .slice co2 cn cc2, .int .i64 (ky : Nat), .bool only, .slice ro2 R2 rc2], .agg #[.string (bsOf l), .slice co cn cc, .int .i64 (ky : Nat), .bool only, .slice ro rn rc, .int .i64 (N : Nat), .bool true], .slice (some ⟨gx, 0, none⟩) LN cx, .slice (some ⟨gx, 0, none⟩) LN cx, (.int .i64 0), A1, c1, A2, c2, gq, co2, cc2, ro2, rc2, gx, cx, (by simp only [Act.put, List.setIfInBounds_toArray, List.set_cons_zero, List.set_cons_succ]), (by simp only [Act.put, List.setIfInBounds_toArray, List.set_cons_zero, List.set_cons_succ]), hb, (fun _ => rfl), (fun _ => rfl), (fun _ => rfl), (fun _ => rfl), (fun _ => rfl), (fun _ => rfl), (fun _ => rfl), (fun _ => rfl), (fun _ => rfl), (fun _ => rfl), (fun _ => rfl), (fun _ => rfl), f_g, (fun _ h => by cases h), (fun _ h => by cases h), (fun _ h => by cases h), f_t, f_o, f_lx, (fun h => by cases h), f_rs, f_o10, (fun _ => rfl)⟩
    · rintro act X ⟨b0, b1, b2, b3, b4, b5, b6, b7, b8, b9, b10, b11, b12, x16, x17, x18, x19, x20, x21, x22, x23, x24, x25, x5, x6, A1, c1, A2, c2, gq, co2, cc2, ro2, rc2, gx, cx, hL, rfl, hb, cd0, cd1, cd2, cd3, cd4, cd5, cd6, cd7, cd8, cd9, cd11, cd12, f_g, f_a, f_b, f_q, f_t, f_o, f_lx, f_r, f_rs, f_o10, w_11_9⟩
      have hL' : [true, true, true, true, true, true, true, true, true, true, true, true, true] = [b0, b1, b2, b3, b4, b5, b6, b7, b8, b9, b10, b11, b12] := congrArg Array.toList hL
      simp only [List.cons.injEq, and_true] at hL'
      obtain ⟨rfl, rfl, rfl, rfl, rfl, rfl, rfl, rfl, rfl, rfl, rfl, rfl, rfl⟩ := hL'
      obtain rfl := cd0.out rfl
      obtain rfl := cd1.out rfl
      obtain rfl := cd2.out rfl
      obtain rfl := cd3.out rfl
      obtain rfl := cd4.out rfl
      obtain rfl := cd5.out rfl
      obtain rfl := cd6.out rfl
      obtain rfl := cd7.out rfl
      obtain rfl := cd8.out rfl
      obtain rfl := cd9.out rfl
      obtain rfl := cd11.out rfl
      obtain rfl := cd12.out rfl
      have W_g := f_g.out
      have W_t := f_t.out rfl
      have W_o := f_o.out rfl
      have W_lx := f_lx.out rfl
      have W_rs := f_rs.out rfl
      have W_o10 := f_o10.out rfl
      clear hL f_g f_a f_b f_q f_t f_o f_lx f_r f_rs f_o10 cd0 cd1 cd2 cd3 cd4 cd5 cd6 cd7 cd8 cd9 cd11 cd12 w_11_9
      simp only [List.setIfInBounds_toArray, List.set_cons_zero, List.set_cons_succ]
      obtain ⟨r0, r1, r2, r3, r4⟩ := tb_cells W_rs
      have BX : Below p w X := BV.trans ((Below.refl _ _).drew.trans hb)
      clear hb
      go_wp2_with fail
      refine bodyPost_ret (v := .tuple #[tbV l co2 cn cc2 (ky : Nat) only ro2 R2 rc2, .slice (some ⟨gx, 0, none⟩) LN cx, .int .i64 0]) (by simp [results, Try.results23, go_sem, tbV, r0, r1, r2, r3, r4]) rfl ?_
      refine ⟨(fun q => by cases q), fun x _ hx => ?_, by rw [HP.out]; exact BX⟩
      obtain rfl : rv = x := Option.some.inj (HOx.out.symm.trans hx)
      rw [HL.out]
      exact ⟨co2, cc2, ro2, R2, rc2, gx, cx, rfl, W_t.mono (by rw [HP.out]; exact hpV), W_o, by rw [HP.out]; exact Nat.le_trans hpV W_lx⟩
end Go.Proofs.Ytllijeciodmckaa
