/-
  ledger: Root (by gen_lgt.py).
-/
import Derived.Test.YtdmnjjknkcnkgaaDoorLgS
import Derived.Test.YtdmnjjknkcnkgaaDoorMg8
namespace Go.Proofs.YtdmnjjknkcnkgaaDoor
open Go.RowKit
set_option linter.unusedSimpArgs false
/-- A whole element is stored into a row of the call's own. -/
theorem wpList_store_el {β : Type} {E : Enc β} {P : Program} {ops : Array Oper} {rest : List Oper} {o : Oper} {a : Act} {w : World} {Q : Exit → Act → World → Prop} (hgd : o.guard = none) (ty : TypeId) (x y : Operand) (ho : o.op = .store ty x y)
    (g i n c : Nat) (e : TypeId) (l : List β) (b : β) (h : OwnR E w e g n c l) (hi : i < n) (hx : a.eval x = .pointer (some ⟨g, i * E.sz, none⟩)) (hy : a.eval y = .agg (E.f b).toArray) (hs : (P.info? ty).map (·.size) = some E.sz)
    (hK : ∀ w', OwnR E w' e g n c (l.set i b) → w.grownBy w' (some g) → wpList P ops Q rest (a.put o.dst undef) w') : wpList P ops Q (o :: rest) a w := by
  obtain ⟨cur, hg, -, -⟩ := h.row
  have hr := h.room hi hg
  refine wpList_store_in hgd ty x y ho g (i * E.sz) (E.f b) cur.toList e hx hy (by simpa using hg) E.sz hs (E.len b) hr (Array.all_eq_true_iff_forall_mem.2 fun v hv => E.one b v (by simpa using hv)) fun w' h1 h2 => hK w' (h.setAll i b hi _ w' h1 fun cur' hg' => ?_) h2
  rw [hg] at hg'
  obtain rfl : cur = cur' := by simpa using hg'
  simp
theorem mix_next {α : Type} {R Z : List α} {j : Nat} {x : α} (hx : R[j]? = some x) (hz : Z.length = R.length) : (R.take j ++ Z.drop j).set j x = R.take (j + 1) ++ Z.drop (j + 1) := by
  obtain ⟨hj, rfl⟩ := List.getElem?_eq_some_iff.1 hx
  rw [List.set_append_right _ _ (by rw [List.length_take]; omega), List.length_take, Nat.min_eq_left (by omega), Nat.sub_self, List.drop_eq_getElem_cons (show j < Z.length by omega), List.set_cons_zero, List.take_succ_eq_append_getElem hj, List.append_assoc]
  rfl
/-- A row of sums is what merkle's functions take. -/
theorem IsR.hs {w : World} {ao : Option Addr} {n c : Nat} {l : List H32} (h : IsR EHs w ao n c l) : IsH w ao n c (l.map (·.l)) :=
  ⟨by rw [List.length_map]; exact h.len, h.le, h.max, h.nil, fun x hx => by
    obtain ⟨y, -, rfl⟩ := List.mem_map.1 hx
    exact y.len, fun a ha i hi j u hu => by
    have hl := h.len
    obtain ⟨y, hy⟩ : ∃ y, l[i]? = some y := ⟨l[i]'(by omega), List.getElem?_eq_getElem _⟩
    have e : (l.map (·.l)).getD i [] = y.l := by rw [List.getD_eq_getElem?_getD, List.getElem?_map, hy]; rfl
    rw [e] at hu
    have hj : j < 32 := by have := (List.getElem?_eq_some_iff.1 hu).1; rw [y.len] at this; exact this
    rw [Addr.add_add]
    refine h.cell a ha _ _ ?_
    refine (EHs.all_get l i j y hy hj).trans ?_
    show (bcs y.l)[j]? = _
    simp only [bcs, List.getElem?_map, hu]
    rfl⟩
def rowsH (x : Txn) : List H32 := x.2.zipIdx.map fun c => ⟨rowS x.1 (c.2 : Nat) c.1, rowS_len _ _ _⟩
theorem rowsH_l (x : Txn) : (rowsH x).map (·.l) = rowsS x := by simp [rowsH, rowsS]
theorem rowsH_len (x : Txn) : (rowsH x).length = x.2.length := by simp [rowsH]
theorem rowsH_get (x : Txn) (i : Nat) (c : Chg) (h : x.2[i]? = some c) : (rowsH x)[i]? = some ⟨rowS x.1 (i : Nat) c, rowS_len _ _ _⟩ := by
  simp [rowsH, List.getElem?_zipIdx, h]
theorem rootX_len (x : Txn) : (rootX x).length = 32 := rootS_length _ (rowsS_all x)
theorem sizeEHs : (Tryd.prog.info? 47).map (·.size) = some EHs.sz := sizeHash
set_option maxRecDepth 100000 in
set_option maxHeartbeats 2000000 in
theorem rootx_any (w : World) (hC : RC w) (Q : Nat → Prop) (id : Int) (cs : List Chg) (ca : Option Addr) (cn cc : Nat) (h : IsD DC w Q ca cn cc cs) (hok : TxOk (id, cs)) :
    Calls Tryd.prog 64 #[.agg #[.int .i64 id, .slice ca cn cc]] w fun e w' => e = .returned (.agg (bcs (rootX (id, cs))).toArray) ∧ Below w.heap.size w w' := by
  have hln := h.len
  have hcn : cn ≤ 100 := by have := hok.1; simp only at this; omega
  have B0 : Below w.heap.size w (w.alloc (.cells #[.int .i64 id, .slice ca cn cc] 32)) := (Below.refl _ _).alloc (Nat.le_refl _) _
  have hP0 : Bk (w.alloc (.cells #[.int .i64 id, .slice ca cn cc] 32)) w.heap.size #[.int .i64 id, .slice ca cn cc] 32 := Bk.new w _ _
  obtain ⟨H, hH⟩ : ∃ x, rootX (id, cs) = x := ⟨_, rfl⟩
  have HH0 : H.length = 32 := by rw [← hH]; exact rootX_len _
  obtain ⟨HA, hHA⟩ : ∃ z, (bcs H).toArray = z := ⟨_, rfl⟩
  have HA0 : Hid (HA.size = 32) := Lib.hid (by rw [← hHA]; simp [bcs_length, HH0])
  have HA1 : Hid (HA.all (·.oneCell') = true) := Lib.hid (by rw [← hHA]; exact bcs_all _)
  have HRH : Hid ((bcs (rootS ((rowsH (id, cs)).map (·.l)))).toArray = HA) := Lib.hid (by rw [rowsH_l, ← hHA, ← hH]; rfl)
  rw [hH, hHA]
  clear hH hHA HH0
  obtain ⟨RL, hRL⟩ : ∃ r, rowsH (id, cs) = r := ⟨_, rfl⟩
  have hRg : Hid (∀ (j : Nat) (c : Chg), cs[j]? = some c → RL[j]? = some ⟨rowS id (j : Nat) c, rowS_len _ _ _⟩) := Lib.hid fun j c hc => by rw [← hRL]; exact rowsH_get (id, cs) j c hc
  have hRn : Hid (RL.length = cn) := Lib.hid (by rw [← hRL, rowsH_len]; exact hln)
  have hRa : Hid (∀ x ∈ RL.map (·.l), x.length = 32) := Lib.hid fun x hx => by
    obtain ⟨y, -, rfl⟩ := List.mem_map.1 hx
    exact y.len
  rw [hRL] at HRH
  clear hRL
  go_enter Tryd.func64, Tryd.ntmps64
  go_upto_region 1 with (with_reducible refine wpList_alloc_blk (o := ⟨some 2, _, _, _, _, _⟩) rfl 47 rfl _ zeroHash ?_; intro W q hq b1 q1)
  have hP1 := hP0.past b1
  have B1' := B0.trans (b1.mono B0.size)
  have hq1 : w.heap.size < q := by rw [World.size_alloc] at q1; omega
  obtain ⟨Z0, hZ0⟩ : ∃ z, (bcs (List.replicate 32 0)).toArray = z := ⟨_, rfl⟩
  have HZ0 : Hid (Z0.size = 32) := Lib.hid (by rw [← hZ0]; simp [bcs_length])
  have hQ : Bk W q Z0 47 := by rw [← hZ0]; exact hq.out
  clear hZ0
  have h1 := h.past B1'
  have hC1 := hC.past B1'
  obtain ⟨p, hp⟩ : ∃ p, w.heap.size = p := ⟨_, rfl⟩
  have HG := Lib.hid hp
  rw [hp] at hP1 hq1 B1'
  simp only [hp]
  have hP : Bk W p #[.int .i64 id, .slice ca cn cc] 32 := hP1
  have B1 : Below p w W := B1'
  clear hq b1 q1 hp hP0 hP1 B0 B1' hC h
  have hpW := hP.lt
  have hqW := hQ.lt
  obtain ⟨c0, c1⟩ : W.cell? ⟨p, 0, none⟩ = some (.int .i64 id) ∧ W.cell? ⟨p, 1, none⟩ = some (.slice ca cn cc) := ⟨hP.c rfl, hP.c rfl⟩
  simp only [Act.put, List.setIfInBounds_toArray, List.set_cons_zero, List.set_cons_succ]
  go_upto_region 2 with (at_make; refine wpList_make_or (E := EHs) rfl _ _ 97 rfl 47 rowTyHs .i64 .i64 _ _ cn rfl rfl rfl rfl (by omega) ?_; intro w2 o2 b2)
  have hP2 := hP.past b2
  clear c0 c1
  obtain ⟨c0, c1⟩ : w2.cell? ⟨p, 0, none⟩ = some (.int .i64 id) ∧ w2.cell? ⟨p, 1, none⟩ = some (.slice ca cn cc) := ⟨hP2.c rfl, hP2.c rfl⟩
  obtain ⟨gr, hgr⟩ : ∃ g, W.heap.size = g := ⟨_, rfl⟩
  have hgW : W.heap.size ≤ gr := Nat.le_of_eq hgr
  rw [hgr] at o2
  simp only [hgr]
  clear hgr
  have o3 : OwnR EHs w2 47 gr cn cn (RL.take 0 ++ (List.replicate cn H0s).drop 0) := by simpa using o2
  clear o2
  go_wp2_with fail
  go_loopw [13] (fun i wr => ∃ j : Nat, j ≤ cn ∧ i = .int .i64 (j : Nat) ∧ OwnR EHs wr 47 gr cn cn (RL.take j ++ (List.replicate cn H0s).drop j) ∧ Below W.heap.size W wr) (fun i _ => cn - (intOf i).toNat)
  case atStart => exact ⟨0, Nat.zero_le _, rfl, o3, b2⟩
  case round =>
    clear o3 b2 c0 c1 hP2
    obtain ⟨j, hj, rfl, o4, B2⟩ := hrel
    have hP2 := hP.past B2
    have hpwr := hP2.lt
    obtain ⟨c0, c1⟩ : wr.cell? ⟨p, 0, none⟩ = some (.int .i64 id) ∧ wr.cell? ⟨p, 1, none⟩ = some (.slice ca cn cc) := ⟨hP2.c rfl, hP2.c rfl⟩
    by_cases hlt : j < cn
    · have hlti : (j : Int) < (cn : Int) := by omega
      obtain ⟨x, hx⟩ : ∃ x, cs[j]? = some x := ⟨cs[j]'(by omega), List.getElem?_eq_getElem _⟩
      have hxm := List.mem_of_getElem? hx
      obtain ⟨gb, goff, b, rfl, hgl, -, hcl, hr⟩ := (h1.past B2).at hx
      obtain ⟨⟨bt, bo⟩, ⟨ba, bn, bc⟩⟩ := b
      obtain ⟨⟨xt, xo⟩, xl⟩ := x
      obtain ⟨hE, hr2⟩ := hr
      obtain ⟨rfl, rfl⟩ : bt = xt ∧ bo = xo := by simpa using hE
      have hcl : ∀ k u, (ECh.f ((bt, bo), ⟨ba, bn, bc⟩))[k]? = some u → wr.cell? ⟨gb, goff + (j * 3 + k), none⟩ = some u := hcl
      have y0 : wr.cell? ⟨gb, goff + j * 3, none⟩ = some (.string bt) := hcl 0 _ rfl
      have y1 : wr.cell? ⟨gb, goff + j * 3 + 1, none⟩ = some (.int .i64 bo) := by have := hcl 1 _ rfl; rwa [← Nat.add_assoc] at this
      have y2 : wr.cell? ⟨gb, goff + j * 3 + 2, none⟩ = some (.slice ba bn bc) := by have := hcl 2 _ rfl; rwa [← Nat.add_assoc] at this
      have bA : Below wr.heap.size wr (wr.alloc (.cells #[.string bt, .int .i64 bo, .slice ba bn bc] 39)) := (Below.refl _ _).alloc (Nat.le_refl _) _
      have HF := row_any (wr.alloc (.cells #[.string bt, .int .i64 bo, .slice ba bn bc] 39)) (hC1.past (B2.trans (bA.mono B2.size))) id (j : Nat) ((bt, bo), xl) ba bn bc (hr2.flat.past bA) (hok.2 _ hxm)
      have HX := hRg.out j _ hx
      obtain ⟨rh, hrh⟩ : ∃ r : H32, ⟨rowS id (j : Nat) ((bt, bo), xl), rowS_len _ _ _⟩ = r := ⟨_, rfl⟩
      have HF2 : Calls Tryd.prog 11 #[.int .i64 id, .int .i64 (j : Nat), .agg #[.string bt, .int .i64 bo, .slice ba bn bc]] (wr.alloc (.cells #[.string bt, .int .i64 bo, .slice ba bn bc] 39)) fun e w' => e = .returned (.agg (EHs.f rh).toArray) ∧ Below (wr.alloc (.cells #[.string bt, .int .i64 bo, .slice ba bn bc] 39)).heap.size (wr.alloc (.cells #[.string bt, .int .i64 bo, .slice ba bn bc] 39)) w' := by rw [← hrh]; exact HF
      rw [hrh] at HX
      have HXX := Lib.hid HX
      clear HF hx HX hrh hcl hE hr2 hxm
      go_wp2_with (first
        | (go_at_call 11; refine HF2.mono ?_; rintro e w3 ⟨rfl, b3⟩; have o5 := o4.past (bA.trans (b3.mono bA.size)))
        | ((with_reducible refine wpList_store_el rfl 47 _ _ rfl gr j cn cn 47 _ rh o5 hlt ?_ ?_ sizeEHs ?_); (rfl); (rfl); (intro w4 o6 g6)))
      go_roundw
      case rel => exact ⟨j + 1, by omega, by go_num, by rw [← mix_next HXX.out (by rw [List.length_replicate]; exact hRn.out.symm)]; exact o6, (B2.trans ((bA.trans (b3.mono bA.size)).mono B2.size)).grown g6 (Nat.le_trans B2.size (Nat.le_trans bA.size b3.size)) (fun z hz => by cases hz; exact hgW)⟩
      case measure => simp [intOf]; omega
    · have hlti : ¬ ((j : Int) < (cn : Int)) := by omega
      obtain rfl : j = cn := by omega
      have o5 : OwnR EHs wr 47 gr j j RL := by
        have := o4
        rwa [List.take_of_length_le (Nat.le_of_eq hRn.out), List.drop_of_length_le (by simp), List.append_nil] at this
      have HRt := root_any (some ⟨gr, 0, none⟩) j j _ wr (hC1.past B2) o5.isR.hs (by omega)
      rw [HRH.out] at HRt
      go_wp2_with (first
        | (go_at_call 47; refine HRt.mono ?_; rintro e w3 ⟨rfl, b3⟩; have R3 : Hid (w3.heap[q]? = some (.cells Z0 47 (0, 0))) := Lib.hid ((hQ.past B2).past b3))
        | ((with_reducible refine wpList_store_blk rfl 47 _ _ rfl q Z0 HA ?_ ?_ _ R3 32 sizeHash HZ0.out HA0.out HA1.out ?_); (rfl); (rfl); (intro w8 h8 b8)))
      refine bodyPost_ret (v := .agg HA) (results_cell_row rfl _ _ q _ _ (0, 0) _ rfl h8.out Tryd.underlying47 rfl (by rw [sizeHash, HA0.out])) rfl ⟨rfl, ?_⟩
      rw [HG.out]
      exact (B1.trans ((B2.trans (b3.mono B2.size)).mono (Nat.le_of_lt hpW))).grown b8 (by have := B2.size; have := b3.size; omega) (fun k hk => by cases hk; omega)
end Go.Proofs.YtdmnjjknkcnkgaaDoor
