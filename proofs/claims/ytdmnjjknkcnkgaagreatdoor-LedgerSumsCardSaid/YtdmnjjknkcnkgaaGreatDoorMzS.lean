/-
 What comes in: changes, a transaction, a block (by gen_lsums.py).
-/
import Derived.Test.YtdmnjjknkcnkgaaGreatDoorMzA
import Derived.Test.YtdmnjjknkcnkgaaGreatDoorMz8
import Derived.Test.YtdmnjjknkcnkgaaGreatDoorMz10
namespace Go.Proofs.YtdmnjjknkcnkgaaGreatDoor
open Go.ChangeShapes Go.WideShapes Go.ChangeAt Go.RowKit Go.Joins Go.Deep
section
variable {H : Type} {enc : TypeId × Value → H} {W : World} {held : Bool}
def ChIn (W : World) (b : (ByteArray × Int) × HdR) : Prop := ∃ vs : List V, IsR EV W b.2.a b.2.n b.2.c vs
theorem ch_cells {n : Nat} {cs : List Value} {x : DataW H × List MemPlace} (h : DataW.trod enc Tryz.prog W 0 (fun _ => true) held n 67 cs = some x) : ∃ b : (ByteArray × Int) × HdR,cs = ECh.f b ∧ ChIn W b := by
 obtain ⟨c0, c1, c2, y0, y1, y2, m, rfl, h0, h1, h2⟩ := trod3 Tryz.underlying67 (by kernel_rfl) (by kernel_rfl) h
 obtain ⟨s, hs, _, ws⟩ := DataW.trod_string Tryz.underlying9 h0
 obtain ⟨k, hk, _, wk⟩ := DataW.trod_int Tryz.underlying3 h1
 obtain rfl : c0 = .string s := by simpa using hs
 obtain rfl : c1 = .int .i64 k := by simpa using hk
 obtain ⟨ao, n, c, rfl⟩ := slice_in Tryz.underlying35 h2
 obtain ⟨vs, hvs, _⟩ := open_vals_b (held := held) (enc := enc) (W := W) (ao := ao) (n := n) (c := c) (d := y2.1) (p := y2.2) ⟨m, by simpa [Value.cells] using h2⟩
 exact ⟨((s, k), ⟨ao, n, c⟩), rfl, vs, hvs⟩
theorem open_chs {n0 : Nat} {ao : Option Addr} {n c : Nat} {d : DataW H × List MemPlace} (hf : DataW.trod enc Tryz.prog W 0 (fun _ => true) held n0 43 [.slice ao n c] = some d) : ∃ cl : List Chg,IsD DC W (fun _ => True) ao n c cl := by
 obtain ⟨l, hl, hp⟩ := open_rows_g ECh Tryz.underlying43 (by kernel_rfl) (by decide) (ChIn W) (fun m cs x hx => ch_cells hx) hf
 have hch : ∀ b : {b // b ∈ l}, ∃ vs : List V, IsR EV W b.1.2.a b.1.2.n b.1.2.c vs := fun b => hp b.1 b.2
 refine ⟨l.attach.map fun b => (b.1.1, Classical.choose (hch b)), l, hl, fun _ _ _ => trivial, by rw [List.length_map, List.length_attach]; rfl, fun j b x hb hx => ?_⟩
 have hb2 : l[j]? = some b := hb
 rw [List.getElem?_map, List.getElem?_attach] at hx
 obtain ⟨hj, hbj⟩ := List.getElem?_eq_some_iff.1 hb2
 simp only [List.getElem?_eq_getElem hj, Option.pmap_some, Option.map_some, Option.some.injEq] at hx
 subst hx
 subst hbj
 refine ⟨rfl, ?_⟩
 exact (Classical.choose_spec (hch ⟨l[j], List.getElem_mem hj⟩)).deepT (by decide)
set_option maxRecDepth 100000 in
theorem tx_cells {n : Nat} {cs : List Value} {x : DataW H × List MemPlace} (h : DataW.trod enc Tryz.prog W 0 (fun _ => true) held n 45 cs = some x) : ∃ (id : Int) (ca : Option Addr) (cn cc : Nat) (cl : List Chg),cs = [.int .i64 id,.slice ca cn cc] ∧ IsD DC W (fun _ => True) ca cn cc cl := by
 obtain ⟨y0, y1, m, _, hl, h0, h1⟩ := trod_struct2 Tryz.underlying45 h
 rw [show Tryz.prog.cellsOf 45 = 2 by kernel_rfl] at hl
 match cs, hl with
 | [c0, c1], _ =>
  have h0' : DataW.trod enc Tryz.prog W 0 (fun _ => true) held m 3 [c0] = some y0 := by
   have e : Tryz.prog.cellsOf 3 = 1 := by kernel_rfl
   simpa [e] using h0
  have h1' : DataW.trod enc Tryz.prog W 0 (fun _ => true) held m 43 [c1] = some y1 := by
   have e : Tryz.prog.cellsOf 43 = 1 := by kernel_rfl
   simpa [e] using h1
  obtain ⟨k, hk, _, wk⟩ := DataW.trod_int Tryz.underlying3 h0'
  obtain rfl : c0 = .int .i64 k := by simpa using hk
  obtain ⟨ao, n, c, rfl⟩ := slice_in Tryz.underlying43 h1'
  obtain ⟨cl, hcl⟩ := open_chs h1'
  exact ⟨k, ao, n, c, cl, rfl, hcl⟩
set_option maxRecDepth 100000 in
theorem open_tx {base : Nat} {r : Reach} {v : Value} {d : DataW H} {p : List MemPlace} (hval : Value.okWide Tryz.prog W r base 45 v) (h : DataW.Trod enc Tryz.prog W 0 (fun _ => true) held 45 v d p) : ∃ (id : Int) (ca : Option Addr) (cn cc : Nat) (cl : List Chg),v = .agg #[.int .i64 id,.slice ca cn cc] ∧ IsD DC W (fun _ => True) ca cn cc cl := by
 have hu := Tryz.underlying45
 simp only [Value.okWide, hu] at hval
 obtain ⟨cs, rfl, hsz, _⟩ := hval
 obtain ⟨fuel, hf⟩ := h
 obtain ⟨id, ca, cn, cc, cl, he, hcl⟩ := tx_cells hf
 refine ⟨id, ca, cn, cc, cl, congrArg Value.agg (Array.toList_inj.1 ?_), hcl⟩
 simpa [Value.cells] using he
set_option maxRecDepth 100000 in
theorem hash_cells {n : Nat} {cs : List Value} {x : DataW H × List MemPlace} (hl : cs.length = 32) (h : DataW.trod enc Tryz.prog W 0 (fun _ => true) held n 53 cs = some x) : ∃ l : H32,cs = bcs l.l := by
 obtain ⟨xs, m, rfl, _, _, hlen, hel⟩ := DataW.trod_array Tryz.underlying53 h
 have ce : Tryz.prog.cellsOf 5 = 1 := by kernel_rfl
 simp only [ce, Nat.mul_one] at hel
 refine ⟨⟨cs.map fun v => match v with | .int _ n => UInt8.ofNat n.toNat | _ => 0, by simp [hl]⟩, ?_⟩
 simp only [bcs, List.map_map]
 refine (List.map_id _).symm.trans (List.map_congr_left fun v hv => ?_)
 obtain ⟨i, hi, rfl⟩ := List.getElem_of_mem hv
 have hi32 : i < 32 := by omega
 have h1 := hel i hi32
 have hx : xs[i]? = some (xs[i]'(by omega)) := List.getElem?_eq_getElem (by omega)
 rw [hx] at h1
 obtain ⟨n, hn, _, hw⟩ := DataW.trod_int Tryz.underlying5 h1
 have he : (cs.drop i).take 1 = [cs[i]] := by
  rw [List.take_one, List.head?_drop, List.getElem?_eq_getElem hi]
  rfl
 rw [he] at hn
 have hv2 : cs[i] = .int .u8 n := by simpa using hn
 rw [hv2]
 have hb := bounds_u8 hw
 simp only [Function.comp_apply, id_eq, bc, Value.int.injEq, true_and]
 rw [UInt8.toNat_ofNat']
 omega
theorem four_parts {α : Type} (cs : List α) (h : cs.length = 66) : cs = cs.take 1 ++ ((cs.drop 1).take 32 ++ ((cs.drop 33).take 32 ++ (cs.drop 65).take 1)) := by
 have e3 : (cs.drop 65).take 1 = cs.drop 65 := List.take_of_length_le (by rw [List.length_drop]; omega)
 have e2 : (cs.drop 33).take 32 ++ cs.drop 65 = cs.drop 33 := by rw [← List.drop_drop (i := 32) (j := 33)]; exact List.take_append_drop 32 _
 have e1 : (cs.drop 1).take 32 ++ cs.drop 33 = cs.drop 1 := by rw [← List.drop_drop (i := 32) (j := 1)]; exact List.take_append_drop 32 _
 rw [e3, e2, e1]
 exact (List.take_append_drop 1 cs).symm
set_option maxRecDepth 100000 in
theorem open_blk {base : Nat} {r : Reach} {v : Value} {d : DataW H} {p : List MemPlace} (hval : Value.okWide Tryz.prog W r base 64 v) (h : DataW.Trod enc Tryz.prog W 0 (fun _ => true) held 64 v d p) : ∃ b : Blk,v = .agg b.cs.toArray := by
 have hu := Tryz.underlying64
 simp only [Value.okWide, hu] at hval
 obtain ⟨cs, rfl, hsz, _⟩ := hval
 obtain ⟨fuel, hf⟩ := h
 obtain ⟨y0, y1, y2, y3, m, _, hl, h0, h1, h2, h3⟩ := trod_struct4 hu hf
 have hL : cs.toList.length = 66 := by
  have e : Tryz.prog.cellsOf 64 = 66 := by kernel_rfl
  simpa [Value.cells, e] using hl
 have ei : Tryz.prog.cellsOf 3 = 1 := by kernel_rfl
 have eh : Tryz.prog.cellsOf 53 = 32 := by kernel_rfl
 simp only [Value.cells, ei, eh, List.drop_zero] at h0 h1 h2 h3
 obtain ⟨n, hn, _, wn⟩ := DataW.trod_int Tryz.underlying3 h0
 obtain ⟨c, hc, _, wc⟩ := DataW.trod_int Tryz.underlying3 h3
 obtain ⟨l1, e1⟩ := hash_cells (by rw [List.length_take, List.length_drop]; omega) h1
 obtain ⟨l2, e2⟩ := hash_cells (by rw [List.length_take, List.length_drop]; omega) h2
 refine ⟨⟨n, l1, l2, c⟩, congrArg Value.agg (Array.toList_inj.1 ?_)⟩
 rw [four_parts cs.toList hL, hn, e1, e2, hc]
 rfl
end
end Go.Proofs.YtdmnjjknkcnkgaaGreatDoor
