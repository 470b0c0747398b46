/-
  SchemaSames, walked.
-/
import Derived.Test.YtpfhggalbdjjmaaDoorSSame
import Derived.Test.YtpfhggalbdjjmaaDoorLSTwice
import Derived.Test.YtpfhggalbdjjmaaDoorOpenSc
import Derived.Deep.QuietTactic
import Derived.BigQuiet
namespace Go.Proofs.YtpfhggalbdjjmaaDoor
open Go.RowKit
set_option linter.unusedSimpArgs false

def Ltw (w : World) (p : Nat) : Prop := p < w.heap.size
theorem Ltw.past {w w' : World} {p : Nat} (h : Ltw w p) (hb : Below w.heap.size w w') : Ltw w' p := Nat.lt_of_lt_of_le h hb.size
theorem Ltw.grown {w w' : World} {p : Nat} {row : Option Nat} (h : Ltw w p) (hb : w.grownBy w' row) : Ltw w' p := Nat.lt_of_lt_of_le h hb.size
theorem ScB.grown {w w' : World} {p q : Nat} {l : List UInt8} {ao : Option Addr} {n c : Nat} {key : Int} {only : Bool} (h : ScB w p l ao n c key only) (hb : w.grownBy w' (some q)) (hne : p ≠ q) : ScB w' p l ao n c key only :=
  (hb.block p h.lt (fun e => hne (Option.some.inj e))).trans h
theorem ne_blk {w : World} {g p n cap : Nat} {F : List Co} {l : List UInt8} {ao : Option Addr} {m c : Nat} {key : Int} {only : Bool} (h : OwnR encCo w 35 g n cap F) (k : ScB w p l ao m c key only) : some g ≠ some p := by
  intro e
  obtain rfl := Option.some.inj e
  obtain ⟨cur, hg, _⟩ := h.row
  have k' : w.heap[g]? = some (.cells #[.string (bsOf l), .slice ao m c, .int .i64 key, .bool only] 24 (0, 0)) := k
  rw [hg] at k'
  simp at k'
theorem sameS_self (l : List UInt8) (cs : List Co) (k : Int) (o : Bool) : sameS l l cs cs k k o o = true := by simp [sameS]
theorem bs_x (l : List UInt8) : bsOf l ++ (⟨#[120]⟩ : ByteArray) = bsOf (l ++ [120]) := by
  have h : (bsOf l ++ (⟨#[120]⟩ : ByteArray)).data = (bsOf (l ++ [120])).data := by
    rw [ByteArray.data_append, ← Array.toList_inj, Array.toList_append, bsOf_toList, bsOf_toList]
  cases h2 : bsOf l ++ (⟨#[120]⟩ : ByteArray)
  cases h3 : bsOf (l ++ [120])
  rw [h2, h3] at h
  exact congrArg ByteArray.mk h
theorem sameS_l {la lb : List UInt8} (cs ds : List Co) (ka kb : Int) (oa ob : Bool) (h : la ≠ lb) : sameS la lb cs ds ka kb oa ob = false := by simp [sameS, h]
theorem sameS_c (la lb : List UInt8) {cs ds : List Co} (ka kb : Int) (oa ob : Bool) (h : cs ≠ ds) : sameS la lb cs ds ka kb oa ob = false := by simp [sameS, h]
theorem sameS_o (la lb : List UInt8) (cs ds : List Co) (ka kb : Int) {oa ob : Bool} (h : oa ≠ ob) : sameS la lb cs ds ka kb oa ob = false := by simp [sameS, h]
theorem set_ne {F : List Co} {i : Nat} {x y : Co} (hx : F[i]? = some x) (h : x ≠ y) : F ≠ F.set i y := by
  intro e
  have h1 : F[i]? = (F.set i y)[i]? := congrArg (fun l : List Co => l[i]?) e
  rw [hx, List.getElem?_set_self (List.getElem?_eq_some_iff.1 hx).1] at h1
  exact h (Option.some.inj h1)
theorem all_set_kind : ∀ (l : List Co) (k : Nat) (x : Co) (kd : Int), l[k]? = some x → (encCo.all l).set (k * 3 + 1) (.int .i64 kd) = encCo.all (l.set k ⟨x.name, kd, x.null⟩)
  | [], k, x, kd, h => by simp at h
  | y :: l, 0, x, kd, h => by
    obtain rfl : y = x := by simpa using h
    rw [encCo.all_cons, List.set_cons_zero, encCo.all_cons]
    rfl
  | y :: l, k + 1, x, kd, h => by
    have ih := all_set_kind l k x kd (by simpa using h)
    rw [encCo.all_cons, List.set_cons_succ, encCo.all_cons, ← ih, show (k + 1) * 3 + 1 = k * 3 + 1 + 3 by omega]
    show ([_, _, _] ++ encCo.all l).set (k * 3 + 1 + 3) _ = _
    rfl
theorem all_set_nul2 : ∀ (l : List Co) (k : Nat) (x : Co) (b : Bool), l[k]? = some x → (encCo.all l).set (k * 3 + 2) (.bool b) = encCo.all (l.set k ⟨x.name, x.kind, b⟩)
  | [], k, x, b, h => by simp at h
  | y :: l, 0, x, b, h => by
    obtain rfl : y = x := by simpa using h
    rw [encCo.all_cons, List.set_cons_zero, encCo.all_cons]
    rfl
  | y :: l, k + 1, x, b, h => by
    have ih := all_set_nul2 l k x b (by simpa using h)
    rw [encCo.all_cons, List.set_cons_succ, encCo.all_cons, ← ih, show (k + 1) * 3 + 2 = k * 3 + 2 + 3 by omega]
    show ([_, _, _] ++ encCo.all l).set (k * 3 + 2 + 3) _ = _
    rfl
theorem OwnR.field {w : World} {e : TypeId} {g n cap : Nat} {l l' : List Co} (h : OwnR encCo w e g n cap l) (j : Nat) (v : Value) (hl' : l'.length = l.length) (hj : (encCo.all l).set j v = encCo.all l') : OwnR encCo (w.setCell ⟨g, j, none⟩ v) e g n cap l' := by
  obtain ⟨cur, h1, h2, h3⟩ := h.row
  refine ⟨by rw [hl']; exact h.len, h.le, h.max, cur.setIfInBounds j v, heap_setCell_same h1, by simpa using h2, ?_⟩
  rw [Array.toList_setIfInBounds, List.take_set, h3]
  exact hj
theorem IsR.taken {w : World} {ao : Option Addr} {n cap : Nat} {l : List Co} (h : IsR encCo w ao n cap l) (k : Nat) (hk : k ≤ n) : IsR encCo w ao k cap (l.take k) := by
  refine ⟨by rw [List.length_take, h.len]; omega, Nat.le_trans hk h.le, h.max, h.nil, fun a ha j u hu => h.cell a ha j u ?_⟩
  rw [← List.take_append_drop k l, encCo.all_append]
  rw [List.getElem?_append_left (List.getElem?_eq_some_iff.1 hu).1]
  exact hu
/-- What stands while the region's operations come up. -/
inductive SSames5 (B : Nat) (l : List UInt8) (ao : Option Addr) (n : Nat) (c : Nat) (key : Int) (only : Bool) (nn : Int) (NM : List UInt8) (N : Nat) (KI : Nat) (F : List Co) (a0 : Act) (w0 : World) (L : Array Bool) (a : Act) (w : World) : Prop
  | mk (b0 b1 b2 b3 b4 b5 b6 b7 b8 b9 : Bool) (x15 x16 x17 x18 x19 x20 x7 x8 : Value) (ga : Nat) (ca : Nat) (gb : Nat) (cb : Nat) (pa : Nat) (pb : Nat) (hL : L = #[b0, b1, b2, b3, b4, b5, b6, b7, b8, b9]) (ha : a = ⟨((((((((a0.tmps.setIfInBounds 15 x15).setIfInBounds 16 x16).setIfInBounds 17 x17).setIfInBounds 18 x18).setIfInBounds 19 x19).setIfInBounds 20 x20).setIfInBounds 7 x7).setIfInBounds 8 x8), a0.defers⟩) (hb : Below B w0 w) (cd0 : Hid (b0 = true → x15 = .agg #[.string (bsOf l), .slice ao n c, .int .i64 key, .bool only])) (cd1 : Hid (b1 = true → x16 = .int .i64 nn)) (cd2 : Hid (b2 = true → x17 = .agg #[.string (bsOf NM), .slice (some ⟨ga, 0, none⟩) N ca, .int .i64 (KI : Nat), .bool only])) (cd3 : Hid (b3 = true → x18 = .agg #[.string (bsOf l), .slice ao n c, .int .i64 key, .bool only])) (cd4 : Hid (b4 = true → x19 = .int .i64 nn)) (cd5 : Hid (b5 = true → x20 = .agg #[.string (bsOf NM), .slice (some ⟨gb, 0, none⟩) N cb, .int .i64 (KI : Nat), .bool only])) (cd6 : Hid (b6 = true → x7 = .pointer (some ⟨pa, 0, none⟩))) (cd7 : Hid (b7 = true → x8 = .pointer (some ⟨pb, 0, none⟩))) (f_oa : Hid (b2 = true → OwnR encCo w 35 ga N ca F)) (f_ob : Hid (b5 = true → OwnR encCo w 35 gb N cb F)) (f_za : Hid (b6 = true → b8 = false → ScB w pa [] none 0 0 0 false)) (f_zb : Hid (b7 = true → b9 = false → ScB w pb [] none 0 0 0 false)) (f_sa : Hid (b8 = true → ScB w pa NM (some ⟨ga, 0, none⟩) N ca (KI : Nat) only)) (f_sb : Hid (b9 = true → ScB w pb NM (some ⟨gb, 0, none⟩) N cb (KI : Nat) only)) (f_ta : Hid (b6 = true → Ltw w pa)) (f_tb : Hid (b7 = true → Ltw w pb)) (f_la : Hid (b2 = true → w0.heap.size ≤ ga)) (f_lb : Hid (b5 = true → w0.heap.size ≤ gb)) (f_lpa : Hid (b6 = true → w0.heap.size ≤ pa)) (f_lpb : Hid (b7 = true → w0.heap.size ≤ pb)) (f_ng : Hid (b2 = true → (b5 = true → ga ≠ gb))) (f_np : Hid (b6 = true → (b7 = true → pa ≠ pb))) (f_o8 : Hid (b8 = true → (b2 = true ∧ b6 = true))) (f_o9 : Hid (b9 = true → b7 = true)) (f_o9d : Hid (b9 = true → b8 = true)) (f_o9e : Hid (b9 = true → b5 = true)) : SSames5 B l ao n c key only nn NM N KI F a0 w0 L a w
set_option maxRecDepth 100000 in
set_option maxHeartbeats 4000000 in
theorem schemaSames_walk (l : List UInt8) (ao : Option Addr) (n c : Nat) (key : Int) (only : Bool) (cs : List Co) (nn wh : Int) (w : World) (hW : WL w) (_hl : l.length ≤ maxLen) (_hkey : (Lit.int .i64 key).wf = true) (h : IsR encCo w ao n c cs) (_hcs : ∀ x ∈ cs, (Lit.int .i64 x.kind).wf = true ∧ x.name.length ≤ maxLen) (_hn : (Lit.int .i64 nn).wf = true) (_ha : (Lit.int .i64 wh).wf = true) :
    Calls Tryd.prog 6 #[scV l ao n c key only, .int .i64 nn, .int .i64 wh] w (Told w true) := by
  have hln := h.len
  unfold scV
  have X := ScB.new w l ao n c key only
  have B := (Below.refl w.heap.size w).alloc (Nat.le_refl _) (.cells #[.string (bsOf l), .slice ao n c, .int .i64 key, .bool only] 24)
  go_enter Tryd.func6, Tryd.ntmps6
  go_upto_region 1 with fail
  generalize w.alloc (.cells #[.string (bsOf l), .slice ao n c, .int .i64 key, .bool only] 24) = w1 at X B ⊢
  obtain ⟨p, hp⟩ : ∃ p, w.heap.size = p := ⟨_, rfl⟩
  have hW1 := hW.past B
  have h1 := h.past B
  rw [hp] at X B
  simp only [hp]
  have HP := Lib.hid hp
  clear hp hW h
  go_wp2_with fail
  refine (known9 w1 hW1).mono ?_
  rintro e w2 ⟨rfl, b2⟩
  have X2 := X.past b2
  have B2 : Below p w w2 := B.trans (b2.mono (by have := B.size; rw [HP.out] at this; exact this))
  have h2 := h1.past b2
  have y0 : w2.cell? ⟨p, 0, none⟩ = some (.string (bsOf l)) := cell_blk X2 rfl
  have y1 : w2.cell? ⟨p, 1, none⟩ = some (.slice ao n c) := cell_blk X2 rfl
  have y2 : w2.cell? ⟨p, 2, none⟩ = some (.int .i64 key) := cell_blk X2 rfl
  have y3 : w2.cell? ⟨p, 3, none⟩ = some (.bool only) := cell_blk X2 rfl
  have HF := few9_any w2 l ao n c cs key only h2
  unfold scV at HF
  clear X B b2 h1 hW1
  obtain ⟨f, hf⟩ : ∃ f, fewS l cs = f := ⟨_, rfl⟩
  rw [hf] at HF
  cases f with
  | false =>
    clear hf
    go_wp2_with fail
    refine HF.mono ?_
    rintro e w3 ⟨rfl, b3⟩
    go_wp2_with fail
    go_ret
    rw [Told, HP.out]
    exact ⟨rfl, B2.trans (b3.mono (by have := B2.size; rw [HP.out] at this; exact this))⟩
  | true =>
    have hn9 : n ≤ 9 := by
      unfold fewS at hf
      simp at hf
      omega
    clear hf y0 y1 y2 y3
    have y0 : w2.cell? ⟨p, 0, none⟩ = some (.string (bsOf l)) := cell_blk X2 rfl
    have y1 : w2.cell? ⟨p, 1, none⟩ = some (.slice ao n c) := cell_blk X2 rfl
    have y2 : w2.cell? ⟨p, 2, none⟩ = some (.int .i64 key) := cell_blk X2 rfl
    have y3 : w2.cell? ⟨p, 3, none⟩ = some (.bool only) := cell_blk X2 rfl
    go_wp2_with fail
    refine HF.mono ?_
    rintro e w3 ⟨rfl, b3⟩
    have X3 := X2.past b3
    have B3 : Below p w w3 := B2.trans (b3.mono (by have := B2.size; rw [HP.out] at this; exact this))
    have h3 := h2.past b3
    have hG : ∀ w, IsR encCo w ao n c cs → Calls Tryd.prog 16 #[scV l ao n c key only, .int .i64 nn] w (GoodIs w nn cs key only) := fun w h => good9_any w l ao n c cs key nn only h (by omega)
    unfold GoodIs scV at hG
    clear X2 B2 h2 b3 y0 y1 y2 y3 HF
    have hNp := gN_pos cs
    have hlen := gFin_len cs key
    have hget := fun (j : Nat) (hj : j < gN cs) => gFin_get cs key j hj
    have hNl := gNm_len nn
    generalize gFin cs key = F at hG hget hlen
    generalize gN cs = N at hG hNp hget hlen
    generalize gKey cs key = KI at hG hget
    generalize gNm nn = NM at hG hNl
    have HG := Lib.hid hG
    have h3d := h3.past (Below.refl w3.heap.size w3).drew
    have hb0 : w3.heap.size ≤ w3.heap.size := Nat.le_refl _
    have hB0 := hb0
    have hpB : p < w3.heap.size := X3.lt
    have y0 : w3.cell? ⟨p, 0, none⟩ = some (.string (bsOf l)) := cell_blk X3 rfl
    have y1 : w3.cell? ⟨p, 1, none⟩ = some (.slice ao n c) := cell_blk X3 rfl
    have y2 : w3.cell? ⟨p, 2, none⟩ = some (.int .i64 key) := cell_blk X3 rfl
    have y3 : w3.cell? ⟨p, 3, none⟩ = some (.bool only) := cell_blk X3 rfl
    clear hG hb0
    go_upto_region 5 with fail
    refine region_inv (SSames5 w3.heap.size l ao n c key only nn NM N KI F) (by kernel_rfl) (by kernel_rfl) ?_ ?_ ?_
    · exact ⟨false, false, false, false, false, false, false, false, false, false, undef, undef, undef, undef, undef, undef, undef, undef, 0, 0, 0, 0, 0, 0, rfl, (by simp only [Act.put, List.setIfInBounds_toArray, List.set_cons_zero, List.set_cons_succ]), Below.refl _ _, (fun h => by cases h), (fun h => by cases h), (fun h => by cases h), (fun h => by cases h), (fun h => by cases h), (fun h => by cases h), (fun h => by cases h), (fun h => by cases h), (fun h => by cases h), (fun h => by cases h), (fun h => by cases h), (fun h => by cases h), (fun h => by cases h), (fun h => by cases h), (fun h => by cases h), (fun h => by cases h), (fun h => by cases h), (fun h => by cases h), (fun h => by cases h), (fun h => by cases h), (fun h => by cases h), (fun h => by cases h), (fun h => by cases h), (fun h => by cases h), (fun h => by cases h), (fun h => by cases h)⟩
    · refine ⟨?_, ?_, ?_, ?_, ?_, ?_, ?_, ?_, ?_, ?_, trivial⟩
      · rintro L a w ⟨b0, b1, b2, b3, b4, b5, b6, b7, b8, b9, x15, x16, x17, x18, x19, x20, x7, x8, ga, ca, gb, cb, pa, pb, rfl, rfl, hb, cd0, cd1, cd2, cd3, cd4, cd5, cd6, cd7, f_oa, f_ob, f_za, f_zb, f_sa, f_sb, f_ta, f_tb, f_la, f_lb, f_lpa, f_lpb, f_ng, f_np, f_o8, f_o9, f_o9d, f_o9e⟩ hf hd
        have hf' : b0 = false := hf
        subst hf'
        clear hf hd
        try simp only [List.setIfInBounds_toArray, List.set_cons_zero, List.set_cons_succ]
        have z0 := (hb.cell hpB).trans y0
        have z1 := (hb.cell hpB).trans y1
        have z2 := (hb.cell hpB).trans y2
        have z3 := (hb.cell hpB).trans y3
        intro K hK
        rw [if_pos (by rfl)]
        go_simp
        exact hK.out _ _ ⟨true, b1, b2, b3, b4, b5, b6, b7, b8, b9, (.agg #[.string (bsOf l), .slice ao n c, .int .i64 key, .bool only]), x16, x17, x18, x19, x20, x7, x8, ga, ca, gb, cb, pa, pb, (by simp only [Act.put, List.setIfInBounds_toArray, List.set_cons_zero, List.set_cons_succ]), (by simp only [Act.put, List.setIfInBounds_toArray, List.set_cons_zero, List.set_cons_succ]), hb, (fun _ => rfl), cd1, cd2, cd3, cd4, cd5, cd6, cd7, f_oa, f_ob, f_za, f_zb, f_sa, f_sb, f_ta, f_tb, f_la, f_lb, f_lpa, f_lpb, f_ng, f_np, f_o8, f_o9, f_o9d, f_o9e⟩
      · rintro L a w ⟨b0, b1, b2, b3, b4, b5, b6, b7, b8, b9, x15, x16, x17, x18, x19, x20, x7, x8, ga, ca, gb, cb, pa, pb, rfl, rfl, hb, cd0, cd1, cd2, cd3, cd4, cd5, cd6, cd7, f_oa, f_ob, f_za, f_zb, f_sa, f_sb, f_ta, f_tb, f_la, f_lb, f_lpa, f_lpb, f_ng, f_np, f_o8, f_o9, f_o9d, f_o9e⟩ hf hd
        have hf' : b1 = false := hf
        subst hf'
        clear hf hd
        try simp only [List.setIfInBounds_toArray, List.set_cons_zero, List.set_cons_succ]
        intro K hK
        rw [if_pos (by rfl)]
        go_simp
        exact hK.out _ _ ⟨b0, true, b2, b3, b4, b5, b6, b7, b8, b9, x15, (.int .i64 nn), x17, x18, x19, x20, x7, x8, ga, ca, gb, cb, pa, pb, (by simp only [Act.put, List.setIfInBounds_toArray, List.set_cons_zero, List.set_cons_succ]), (by simp only [Act.put, List.setIfInBounds_toArray, List.set_cons_zero, List.set_cons_succ]), hb, cd0, (fun _ => rfl), cd2, cd3, cd4, cd5, cd6, cd7, f_oa, f_ob, f_za, f_zb, f_sa, f_sb, f_ta, f_tb, f_la, f_lb, f_lpa, f_lpb, f_ng, f_np, f_o8, f_o9, f_o9d, f_o9e⟩
      · rintro L a w ⟨b0, b1, b2, b3, b4, b5, b6, b7, b8, b9, x15, x16, x17, x18, x19, x20, x7, x8, ga, ca, gb, cb, pa, pb, rfl, rfl, hb, cd0, cd1, cd2, cd3, cd4, cd5, cd6, cd7, f_oa, f_ob, f_za, f_zb, f_sa, f_sb, f_ta, f_tb, f_la, f_lb, f_lpa, f_lpb, f_ng, f_np, f_o8, f_o9, f_o9d, f_o9e⟩ hf hd
        have hf' : b2 = false := hf
        subst hf'
        have d0 : b0 = true := hd ⟨0, .data⟩ (by simp) rfl
        subst d0
        have d1 : b1 = true := hd ⟨1, .data⟩ (by simp) rfl
        subst d1
        obtain rfl := cd0.out rfl
        obtain rfl := cd1.out rfl
        clear hf hd
        try simp only [List.setIfInBounds_toArray, List.set_cons_zero, List.set_cons_succ]
        intro K hK
        rw [if_pos (by rfl)]
        go_simp
        go_at_call 16
        refine (HG.out _ (h3d.past hb)).mono ?_
        rintro e w' ⟨g2, c2, rfl, O2, bx, q2⟩
        exact hK.out _ _ ⟨true, true, true, b3, b4, b5, b6, b7, b8, b9, .agg #[.string (bsOf l), .slice ao n c, .int .i64 key, .bool only], .int .i64 nn, (.agg #[.string (bsOf NM), .slice (some ⟨g2, 0, none⟩) N c2, .int .i64 (KI : Nat), .bool only]), x18, x19, x20, x7, x8, g2, c2, gb, cb, pa, pb, (by simp only [Act.put, List.setIfInBounds_toArray, List.set_cons_zero, List.set_cons_succ]), (by simp only [Act.put, List.setIfInBounds_toArray, List.set_cons_zero, List.set_cons_succ]), hb.trans (bx.mono (Nat.le_trans hB0 hb.size)), (fun _ => rfl), (fun _ => rfl), (fun _ => rfl), cd3, cd4, cd5, cd6, cd7, (fun _ => O2), (fun h0 => (f_ob.out h0).past bx), (fun h0 h1 => (f_za.out h0 h1).past bx), (fun h0 h1 => (f_zb.out h0 h1).past bx), (fun h0 => absurd (f_o8.out h0) (by simp)), (fun h0 => (f_sb.out h0).past bx), (fun h0 => (f_ta.out h0).past bx), (fun h0 => (f_tb.out h0).past bx), (fun _ => Nat.le_trans hb.size q2), f_lb, f_lpa, f_lpb, (fun _ => fun h => Nat.ne_of_gt (Nat.lt_of_lt_of_le (f_ob.out h).lt q2)), f_np, (fun h0 => absurd (f_o8.out h0) (by simp)), f_o9, f_o9d, f_o9e⟩
      · rintro L a w ⟨b0, b1, b2, b3, b4, b5, b6, b7, b8, b9, x15, x16, x17, x18, x19, x20, x7, x8, ga, ca, gb, cb, pa, pb, rfl, rfl, hb, cd0, cd1, cd2, cd3, cd4, cd5, cd6, cd7, f_oa, f_ob, f_za, f_zb, f_sa, f_sb, f_ta, f_tb, f_la, f_lb, f_lpa, f_lpb, f_ng, f_np, f_o8, f_o9, f_o9d, f_o9e⟩ hf hd
        have hf' : b3 = false := hf
        subst hf'
        clear hf hd
        try simp only [List.setIfInBounds_toArray, List.set_cons_zero, List.set_cons_succ]
        have z0 := (hb.cell hpB).trans y0
        have z1 := (hb.cell hpB).trans y1
        have z2 := (hb.cell hpB).trans y2
        have z3 := (hb.cell hpB).trans y3
        intro K hK
        rw [if_pos (by rfl)]
        go_simp
        exact hK.out _ _ ⟨b0, b1, b2, true, b4, b5, b6, b7, b8, b9, x15, x16, x17, (.agg #[.string (bsOf l), .slice ao n c, .int .i64 key, .bool only]), x19, x20, x7, x8, ga, ca, gb, cb, pa, pb, (by simp only [Act.put, List.setIfInBounds_toArray, List.set_cons_zero, List.set_cons_succ]), (by simp only [Act.put, List.setIfInBounds_toArray, List.set_cons_zero, List.set_cons_succ]), hb, cd0, cd1, cd2, (fun _ => rfl), cd4, cd5, cd6, cd7, f_oa, f_ob, f_za, f_zb, f_sa, f_sb, f_ta, f_tb, f_la, f_lb, f_lpa, f_lpb, f_ng, f_np, f_o8, f_o9, f_o9d, f_o9e⟩
      · rintro L a w ⟨b0, b1, b2, b3, b4, b5, b6, b7, b8, b9, x15, x16, x17, x18, x19, x20, x7, x8, ga, ca, gb, cb, pa, pb, rfl, rfl, hb, cd0, cd1, cd2, cd3, cd4, cd5, cd6, cd7, f_oa, f_ob, f_za, f_zb, f_sa, f_sb, f_ta, f_tb, f_la, f_lb, f_lpa, f_lpb, f_ng, f_np, f_o8, f_o9, f_o9d, f_o9e⟩ hf hd
        have hf' : b4 = false := hf
        subst hf'
        clear hf hd
        try simp only [List.setIfInBounds_toArray, List.set_cons_zero, List.set_cons_succ]
        intro K hK
        rw [if_pos (by rfl)]
        go_simp
        exact hK.out _ _ ⟨b0, b1, b2, b3, true, b5, b6, b7, b8, b9, x15, x16, x17, x18, (.int .i64 nn), x20, x7, x8, ga, ca, gb, cb, pa, pb, (by simp only [Act.put, List.setIfInBounds_toArray, List.set_cons_zero, List.set_cons_succ]), (by simp only [Act.put, List.setIfInBounds_toArray, List.set_cons_zero, List.set_cons_succ]), hb, cd0, cd1, cd2, cd3, (fun _ => rfl), cd5, cd6, cd7, f_oa, f_ob, f_za, f_zb, f_sa, f_sb, f_ta, f_tb, f_la, f_lb, f_lpa, f_lpb, f_ng, f_np, f_o8, f_o9, f_o9d, f_o9e⟩
      · rintro L a w ⟨b0, b1, b2, b3, b4, b5, b6, b7, b8, b9, x15, x16, x17, x18, x19, x20, x7, x8, ga, ca, gb, cb, pa, pb, rfl, rfl, hb, cd0, cd1, cd2, cd3, cd4, cd5, cd6, cd7, f_oa, f_ob, f_za, f_zb, f_sa, f_sb, f_ta, f_tb, f_la, f_lb, f_lpa, f_lpb, f_ng, f_np, f_o8, f_o9, f_o9d, f_o9e⟩ hf hd
        have hf' : b5 = false := hf
        subst hf'
        have d3 : b3 = true := hd ⟨3, .data⟩ (by simp) rfl
        subst d3
        have d4 : b4 = true := hd ⟨4, .data⟩ (by simp) rfl
        subst d4
        have d2 : b2 = true := hd ⟨2, .chain⟩ (by simp) rfl
        subst d2
        obtain rfl := cd3.out rfl
        obtain rfl := cd4.out rfl
        obtain rfl := cd2.out rfl
        clear hf hd
        have W_oa := f_oa.out rfl
        have W_la := f_la.out rfl
        have W_ng := f_ng.out rfl
        try simp only [List.setIfInBounds_toArray, List.set_cons_zero, List.set_cons_succ]
        intro K hK
        rw [if_pos (by rfl)]
        go_simp
        go_at_call 16
        refine (HG.out _ (h3d.past hb)).mono ?_
        rintro e w' ⟨g2, c2, rfl, O2, bx, q2⟩
        exact hK.out _ _ ⟨b0, b1, true, true, true, true, b6, b7, b8, b9, x15, x16, .agg #[.string (bsOf NM), .slice (some ⟨ga, 0, none⟩) N ca, .int .i64 (KI : Nat), .bool only], .agg #[.string (bsOf l), .slice ao n c, .int .i64 key, .bool only], .int .i64 nn, (.agg #[.string (bsOf NM), .slice (some ⟨g2, 0, none⟩) N c2, .int .i64 (KI : Nat), .bool only]), x7, x8, ga, ca, g2, c2, pa, pb, (by simp only [Act.put, List.setIfInBounds_toArray, List.set_cons_zero, List.set_cons_succ]), (by simp only [Act.put, List.setIfInBounds_toArray, List.set_cons_zero, List.set_cons_succ]), hb.trans (bx.mono (Nat.le_trans hB0 hb.size)), cd0, cd1, (fun _ => rfl), (fun _ => rfl), (fun _ => rfl), (fun _ => rfl), cd6, cd7, (fun h0 => (f_oa.out h0).past bx), (fun _ => O2), (fun h0 h1 => (f_za.out h0 h1).past bx), (fun h0 h1 => (f_zb.out h0 h1).past bx), (fun h0 => (f_sa.out h0).past bx), (fun h0 => absurd (f_o9e.out h0) (by simp)), (fun h0 => (f_ta.out h0).past bx), (fun h0 => (f_tb.out h0).past bx), f_la, (fun _ => Nat.le_trans hb.size q2), f_lpa, f_lpb, (fun _ _ => Nat.ne_of_lt (Nat.lt_of_lt_of_le W_oa.lt q2)), f_np, f_o8, f_o9, f_o9d, (fun _ => rfl)⟩
      · rintro L a w ⟨b0, b1, b2, b3, b4, b5, b6, b7, b8, b9, x15, x16, x17, x18, x19, x20, x7, x8, ga, ca, gb, cb, pa, pb, rfl, rfl, hb, cd0, cd1, cd2, cd3, cd4, cd5, cd6, cd7, f_oa, f_ob, f_za, f_zb, f_sa, f_sb, f_ta, f_tb, f_la, f_lb, f_lpa, f_lpb, f_ng, f_np, f_o8, f_o9, f_o9d, f_o9e⟩ hf hd
        have hf' : b6 = false := hf
        subst hf'
        clear hf hd
        try simp only [List.setIfInBounds_toArray, List.set_cons_zero, List.set_cons_succ]
        intro K hK
        rw [if_pos (by rfl)]
        go_simp
        have bx : Below w.heap.size w (w.alloc (.cells #[.string ⟨#[]⟩, .slice none 0 0, .int .i64 0, .bool false] 24)) := (Below.refl _ _).alloc (Nat.le_refl _) _
        have i2 : ScB (w.alloc (.cells #[.string ⟨#[]⟩, .slice none 0 0, .int .i64 0, .bool false] 24)) w.heap.size [] none 0 0 0 false := heap_alloc_new w _
        have j2 : Ltw (w.alloc (.cells #[.string ⟨#[]⟩, .slice none 0 0, .int .i64 0, .bool false] 24)) w.heap.size := by unfold Ltw; rw [World.size_alloc]; omega
        exact hK.out _ _ ⟨b0, b1, b2, b3, b4, b5, true, b7, b8, b9, x15, x16, x17, x18, x19, x20, (.pointer (some ⟨(w.heap.size), 0, none⟩)), x8, ga, ca, gb, cb, w.heap.size, pb, (by simp only [Act.put, List.setIfInBounds_toArray, List.set_cons_zero, List.set_cons_succ]), (by simp only [Act.put, List.setIfInBounds_toArray, List.set_cons_zero, List.set_cons_succ]), hb.trans (bx.mono (Nat.le_trans hB0 hb.size)), cd0, cd1, cd2, cd3, cd4, cd5, (fun _ => rfl), cd7, (fun h0 => (f_oa.out h0).past bx), (fun h0 => (f_ob.out h0).past bx), (fun _ _ => i2), (fun h0 h1 => (f_zb.out h0 h1).past bx), (fun h0 => absurd (f_o8.out h0) (by simp)), (fun h0 => (f_sb.out h0).past bx), (fun _ => j2), (fun h0 => (f_tb.out h0).past bx), f_la, f_lb, (fun _ => hb.size), f_lpb, f_ng, (fun _ => fun h => Nat.ne_of_gt (show pb < w.heap.size from f_tb.out h)), (fun h0 => absurd (f_o8.out h0) (by simp)), f_o9, f_o9d, f_o9e⟩
      · rintro L a w ⟨b0, b1, b2, b3, b4, b5, b6, b7, b8, b9, x15, x16, x17, x18, x19, x20, x7, x8, ga, ca, gb, cb, pa, pb, rfl, rfl, hb, cd0, cd1, cd2, cd3, cd4, cd5, cd6, cd7, f_oa, f_ob, f_za, f_zb, f_sa, f_sb, f_ta, f_tb, f_la, f_lb, f_lpa, f_lpb, f_ng, f_np, f_o8, f_o9, f_o9d, f_o9e⟩ hf hd
        have hf' : b7 = false := hf
        subst hf'
        clear hf hd
        try simp only [List.setIfInBounds_toArray, List.set_cons_zero, List.set_cons_succ]
        intro K hK
        rw [if_pos (by rfl)]
        go_simp
        have bx : Below w.heap.size w (w.alloc (.cells #[.string ⟨#[]⟩, .slice none 0 0, .int .i64 0, .bool false] 24)) := (Below.refl _ _).alloc (Nat.le_refl _) _
        have i2 : ScB (w.alloc (.cells #[.string ⟨#[]⟩, .slice none 0 0, .int .i64 0, .bool false] 24)) w.heap.size [] none 0 0 0 false := heap_alloc_new w _
        have j2 : Ltw (w.alloc (.cells #[.string ⟨#[]⟩, .slice none 0 0, .int .i64 0, .bool false] 24)) w.heap.size := by unfold Ltw; rw [World.size_alloc]; omega
        exact hK.out _ _ ⟨b0, b1, b2, b3, b4, b5, b6, true, b8, b9, x15, x16, x17, x18, x19, x20, x7, (.pointer (some ⟨(w.heap.size), 0, none⟩)), ga, ca, gb, cb, pa, w.heap.size, (by simp only [Act.put, List.setIfInBounds_toArray, List.set_cons_zero, List.set_cons_succ]), (by simp only [Act.put, List.setIfInBounds_toArray, List.set_cons_zero, List.set_cons_succ]), hb.trans (bx.mono (Nat.le_trans hB0 hb.size)), cd0, cd1, cd2, cd3, cd4, cd5, cd6, (fun _ => rfl), (fun h0 => (f_oa.out h0).past bx), (fun h0 => (f_ob.out h0).past bx), (fun h0 h1 => (f_za.out h0 h1).past bx), (fun _ _ => i2), (fun h0 => (f_sa.out h0).past bx), (fun h0 => absurd (f_o9.out h0) (by simp)), (fun h0 => (f_ta.out h0).past bx), (fun _ => j2), f_la, f_lb, f_lpa, (fun _ => hb.size), f_ng, (fun h _ => Nat.ne_of_lt (show pa < w.heap.size from f_ta.out h)), f_o8, (fun _ => rfl), f_o9d, f_o9e⟩
      · rintro L a w ⟨b0, b1, b2, b3, b4, b5, b6, b7, b8, b9, x15, x16, x17, x18, x19, x20, x7, x8, ga, ca, gb, cb, pa, pb, rfl, rfl, hb, cd0, cd1, cd2, cd3, cd4, cd5, cd6, cd7, f_oa, f_ob, f_za, f_zb, f_sa, f_sb, f_ta, f_tb, f_la, f_lb, f_lpa, f_lpb, f_ng, f_np, f_o8, f_o9, f_o9d, f_o9e⟩ hf hd
        have hf' : b8 = false := hf
        subst hf'
        have d6 : b6 = true := hd ⟨6, .data⟩ (by simp) rfl
        subst d6
        have d2 : b2 = true := hd ⟨2, .data⟩ (by simp) rfl
        subst d2
        have d5 : b5 = true := hd ⟨5, .chain⟩ (by simp) rfl
        subst d5
        have d0 : b0 = true := hd ⟨0, .phase⟩ (by simp) rfl
        subst d0
        have d1 : b1 = true := hd ⟨1, .phase⟩ (by simp) rfl
        subst d1
        have d7 : b7 = true := hd ⟨7, .phase⟩ (by simp) rfl
        subst d7
        obtain rfl := cd6.out rfl
        obtain rfl := cd2.out rfl
        obtain rfl := cd5.out rfl
        obtain rfl := cd0.out rfl
        obtain rfl := cd1.out rfl
        obtain rfl := cd7.out rfl
        clear hf hd
        have W_oa := f_oa.out rfl
        have W_ob := f_ob.out rfl
        have W_za := f_za.out rfl rfl
        have W_ta := f_ta.out rfl
        have W_tb := f_tb.out rfl
        have W_la := f_la.out rfl
        have W_lb := f_lb.out rfl
        have W_lpa := f_lpa.out rfl
        have W_lpb := f_lpb.out rfl
        have W_ng := f_ng.out rfl
        have W_np := f_np.out rfl
        try simp only [List.setIfInBounds_toArray, List.set_cons_zero, List.set_cons_succ]
        intro K hK
        rw [if_pos (by rfl)]
        refine wp_store_blk 24 _ _ rfl pa _ #[.string (bsOf NM), .slice (some ⟨ga, 0, none⟩) N ca, .int .i64 (KI : Nat), .bool only] rfl rfl _ (Lib.hid W_za) 4 szS rfl rfl (by simp only [List.all_toArray, List.all_cons, List.all_nil]; rfl) fun w2 h8 b8 => ?_
        have hb2 := hb.trans (grown_below b8 (Nat.le_trans hB0 W_lpa) (Nat.le_trans hB0 hb.size))
        exact hK.out _ _ ⟨true, true, true, b3, b4, true, true, true, true, b9, .agg #[.string (bsOf l), .slice ao n c, .int .i64 key, .bool only], .int .i64 nn, .agg #[.string (bsOf NM), .slice (some ⟨ga, 0, none⟩) N ca, .int .i64 (KI : Nat), .bool only], x18, x19, .agg #[.string (bsOf NM), .slice (some ⟨gb, 0, none⟩) N cb, .int .i64 (KI : Nat), .bool only], .pointer (some ⟨pa, 0, none⟩), .pointer (some ⟨pb, 0, none⟩), ga, ca, gb, cb, pa, pb, (by simp only [Act.put, List.setIfInBounds_toArray, List.set_cons_zero, List.set_cons_succ]), (by simp only [Act.put, List.setIfInBounds_toArray, List.set_cons_zero, List.set_cons_succ]), hb2, (fun _ => rfl), (fun _ => rfl), (fun _ => rfl), cd3, cd4, (fun _ => rfl), (fun _ => rfl), (fun _ => rfl), (fun h0 => ((f_oa.out h0)).grown b8 (ne_blk ((f_oa.out h0)) (W_za))), (fun h0 => ((f_ob.out h0)).grown b8 (ne_blk ((f_ob.out h0)) (W_za))), (fun _ h => by cases h), (fun h0 h1 => (ScB.grown (f_zb.out h0 h1) b8 (Ne.symm (W_np h0)))), (fun _ => h8.out), (fun h0 => absurd (f_o9d.out h0) (by simp)), (fun h0 => Ltw.grown (f_ta.out h0) b8), (fun h0 => Ltw.grown (f_tb.out h0) b8), f_la, f_lb, f_lpa, f_lpb, f_ng, f_np, (fun _ => ⟨rfl, rfl⟩), f_o9, (fun _ => rfl), f_o9e⟩
      · rintro L a w ⟨b0, b1, b2, b3, b4, b5, b6, b7, b8, b9, x15, x16, x17, x18, x19, x20, x7, x8, ga, ca, gb, cb, pa, pb, rfl, rfl, hb, cd0, cd1, cd2, cd3, cd4, cd5, cd6, cd7, f_oa, f_ob, f_za, f_zb, f_sa, f_sb, f_ta, f_tb, f_la, f_lb, f_lpa, f_lpb, f_ng, f_np, f_o8, f_o9, f_o9d, f_o9e⟩ hf hd
        have hf' : b9 = false := hf
        subst hf'
        have d7 : b7 = true := hd ⟨7, .data⟩ (by simp) rfl
        subst d7
        have d5 : b5 = true := hd ⟨5, .data⟩ (by simp) rfl
        subst d5
        have d8 : b8 = true := hd ⟨8, .chain⟩ (by simp) rfl
        subst d8
        have d0 : b0 = true := hd ⟨0, .phase⟩ (by simp) rfl
        subst d0
        have d1 : b1 = true := hd ⟨1, .phase⟩ (by simp) rfl
        subst d1
        have d2 : b2 = true := hd ⟨2, .phase⟩ (by simp) rfl
        subst d2
        have d3 : b3 = true := hd ⟨3, .phase⟩ (by simp) rfl
        subst d3
        have d4 : b4 = true := hd ⟨4, .phase⟩ (by simp) rfl
        subst d4
        have d6 : b6 = true := hd ⟨6, .phase⟩ (by simp) rfl
        subst d6
        obtain rfl := cd7.out rfl
        obtain rfl := cd5.out rfl
        obtain rfl := cd0.out rfl
        obtain rfl := cd1.out rfl
        obtain rfl := cd2.out rfl
        obtain rfl := cd3.out rfl
        obtain rfl := cd4.out rfl
        obtain rfl := cd6.out rfl
        clear hf hd
        have W_oa := f_oa.out rfl
        have W_ob := f_ob.out rfl
        have W_zb := f_zb.out rfl rfl
        have W_sa := f_sa.out rfl
        have W_ta := f_ta.out rfl
        have W_tb := f_tb.out rfl
        have W_la := f_la.out rfl
        have W_lb := f_lb.out rfl
        have W_lpa := f_lpa.out rfl
        have W_lpb := f_lpb.out rfl
        have W_ng := f_ng.out rfl
        have W_np := f_np.out rfl
        have W_o8 := f_o8.out rfl
        try simp only [List.setIfInBounds_toArray, List.set_cons_zero, List.set_cons_succ]
        intro K hK
        rw [if_pos (by rfl)]
        refine wp_store_blk 24 _ _ rfl pb _ #[.string (bsOf NM), .slice (some ⟨gb, 0, none⟩) N cb, .int .i64 (KI : Nat), .bool only] rfl rfl _ (Lib.hid W_zb) 4 szS rfl rfl (by simp only [List.all_toArray, List.all_cons, List.all_nil]; rfl) fun w2 h8 b8 => ?_
        have hb2 := hb.trans (grown_below b8 (Nat.le_trans hB0 W_lpb) (Nat.le_trans hB0 hb.size))
        exact hK.out _ _ ⟨true, true, true, true, true, true, true, true, true, true, .agg #[.string (bsOf l), .slice ao n c, .int .i64 key, .bool only], .int .i64 nn, .agg #[.string (bsOf NM), .slice (some ⟨ga, 0, none⟩) N ca, .int .i64 (KI : Nat), .bool only], .agg #[.string (bsOf l), .slice ao n c, .int .i64 key, .bool only], .int .i64 nn, .agg #[.string (bsOf NM), .slice (some ⟨gb, 0, none⟩) N cb, .int .i64 (KI : Nat), .bool only], .pointer (some ⟨pa, 0, none⟩), .pointer (some ⟨pb, 0, none⟩), ga, ca, gb, cb, pa, pb, (by simp only [Act.put, List.setIfInBounds_toArray, List.set_cons_zero, List.set_cons_succ]), (by simp only [Act.put, List.setIfInBounds_toArray, List.set_cons_zero, List.set_cons_succ]), hb2, (fun _ => rfl), (fun _ => rfl), (fun _ => rfl), (fun _ => rfl), (fun _ => rfl), (fun _ => rfl), (fun _ => rfl), (fun _ => rfl), (fun h0 => ((f_oa.out h0)).grown b8 (ne_blk ((f_oa.out h0)) (W_zb))), (fun h0 => ((f_ob.out h0)).grown b8 (ne_blk ((f_ob.out h0)) (W_zb))), (fun _ h => by cases h), (fun _ h => by cases h), (fun h0 => (ScB.grown (f_sa.out h0) b8 (W_np rfl))), (fun _ => h8.out), (fun h0 => Ltw.grown (f_ta.out h0) b8), (fun h0 => Ltw.grown (f_tb.out h0) b8), f_la, f_lb, f_lpa, f_lpb, f_ng, f_np, f_o8, (fun _ => rfl), (fun _ => rfl), (fun _ => rfl)⟩
    · rintro act V ⟨b0, b1, b2, b3, b4, b5, b6, b7, b8, b9, x15, x16, x17, x18, x19, x20, x7, x8, ga, ca, gb, cb, pa, pb, hL, rfl, hb, cd0, cd1, cd2, cd3, cd4, cd5, cd6, cd7, f_oa, f_ob, f_za, f_zb, f_sa, f_sb, f_ta, f_tb, f_la, f_lb, f_lpa, f_lpb, f_ng, f_np, f_o8, f_o9, f_o9d, f_o9e⟩
      have hL' : [true, true, true, true, true, true, true, true, true, true] = [b0, b1, b2, b3, b4, b5, b6, b7, b8, b9] := congrArg Array.toList hL
      simp only [List.cons.injEq, and_true] at hL'
      obtain ⟨rfl, rfl, rfl, rfl, rfl, rfl, rfl, rfl, rfl, rfl⟩ := hL'
      obtain rfl := cd0.out rfl
      obtain rfl := cd1.out rfl
      obtain rfl := cd2.out rfl
      obtain rfl := cd3.out rfl
      obtain rfl := cd4.out rfl
      obtain rfl := cd5.out rfl
      obtain rfl := cd6.out rfl
      obtain rfl := cd7.out rfl
      have W_oa := f_oa.out rfl
      have W_ob := f_ob.out rfl
      have W_sa := f_sa.out rfl
      have W_sb := f_sb.out rfl
      have W_ta := f_ta.out rfl
      have W_tb := f_tb.out rfl
      have W_la := f_la.out rfl
      have W_lb := f_lb.out rfl
      have W_lpa := f_lpa.out rfl
      have W_lpb := f_lpb.out rfl
      have W_ng := f_ng.out rfl
      have W_np := f_np.out rfl
      have W_o8 := f_o8.out rfl
      have W_o9 := f_o9.out rfl
      have W_o9d := f_o9d.out rfl
      have W_o9e := f_o9e.out rfl
      clear hL f_oa f_ob f_za f_zb f_sa f_sb f_ta f_tb f_la f_lb f_lpa f_lpb f_ng f_np f_o8 f_o9 f_o9d f_o9e cd0 cd1 cd2 cd3 cd4 cd5 cd6 cd7
      simp only [List.setIfInBounds_toArray, List.set_cons_zero, List.set_cons_succ]
      have hbV : Below w3.heap.size w3 V := (Below.refl _ _).drew.trans hb
      have hp3 : p ≤ w3.heap.size := Nat.le_of_lt hpB
      have BV : Below p w V := B3.trans (hbV.mono hp3)
      have hgbp : p ≤ gb := Nat.le_trans hp3 (show w3.heap.size ≤ gb from W_lb)
      have hpbp : p ≤ pb := Nat.le_trans hp3 (show w3.heap.size ≤ pb from W_lpb)
      have hgg : ga ≠ gb := W_ng rfl
      have hpp : pa ≠ pb := W_np rfl
      have n1 : ga ≠ pb := fun e => ne_blk W_oa W_sb (by rw [e])
      have n2 : gb ≠ pa := fun e => ne_blk W_ob W_sa (by rw [e])
      have n3 : gb ≠ pb := fun e => ne_blk W_ob W_sb (by rw [e])
      have hpV : p ≤ V.heap.size := Nat.le_trans hp3 hbV.size
      clear hb hbV W_ta W_tb W_la W_lb W_lpa W_lpb W_ng W_np W_o8 W_o9 W_o9d W_o9e HG h3d h3 X3 B3 y0 y1 y2 y3 hpB hB0 hp3
      have HS0 := same_any V NM NM (some ⟨ga, 0, none⟩) (some ⟨gb, 0, none⟩) N N ca cb F F (KI : Nat) (KI : Nat) only only W_oa.isR W_ob.isR
      rw [sameS_self] at HS0
      unfold scV at HS0
      have a0 : V.cell? ⟨pa, 0, none⟩ = some (.string (bsOf NM)) := cell_blk W_sa rfl
      have a1 : V.cell? ⟨pa, 1, none⟩ = some (.slice (some ⟨ga, 0, none⟩) N ca) := cell_blk W_sa rfl
      have a2 : V.cell? ⟨pa, 2, none⟩ = some (.int .i64 (KI : Nat)) := cell_blk W_sa rfl
      have a3 : V.cell? ⟨pa, 3, none⟩ = some (.bool only) := cell_blk W_sa rfl
      have c0 : V.cell? ⟨pb, 0, none⟩ = some (.string (bsOf NM)) := cell_blk W_sb rfl
      have c1 : V.cell? ⟨pb, 1, none⟩ = some (.slice (some ⟨gb, 0, none⟩) N cb) := cell_blk W_sb rfl
      have c2 : V.cell? ⟨pb, 2, none⟩ = some (.int .i64 (KI : Nat)) := cell_blk W_sb rfl
      have c3 : V.cell? ⟨pb, 3, none⟩ = some (.bool only) := cell_blk W_sb rfl
      go_upto_region 8 with (go_at_call 23; refine HS0.mono ?_; rintro e V2 ⟨rfl, bs⟩)
      clear HS0 a0 a1 a2 a3 c0 c1 c2 c3
      have OA := W_oa.past bs
      have OB := W_ob.past bs
      have SA := W_sa.past bs
      have SB := W_sb.past bs
      have B2 : Below p w V2 := BV.trans (bs.mono hpV)
      clear W_oa W_ob W_sa W_sb BV bs hpV
      obtain ⟨ia, haN, HWa⟩ : ∃ ia : Nat, ia < N ∧ ∀ w, Calls Tryd.prog 17 #[.int .i64 nn, .int .i64 (N : Nat)] w fun e w' => e = .returned (.int .i64 (ia : Nat)) ∧ w = w' := by
        have h1 := wth_lo nn (N : Nat) (by omega)
        have h2 := wth_hi nn (N : Nat) (by omega)
        refine ⟨(wth nn (N : Nat)).toNat, by omega, fun w => (within9_any nn (N : Nat) w (by omega) (by omega)).mono ?_⟩
        rintro e w' ⟨rfl, h⟩
        exact ⟨by rw [Int.toNat_of_nonneg h1], h⟩
      obtain ⟨wj, hw6, HWw⟩ : ∃ wj : Nat, wj < 6 ∧ ∀ w, Calls Tryd.prog 17 #[.int .i64 wh, .int .i64 6] w fun e w' => e = .returned (.int .i64 (wj : Nat)) ∧ w = w' := by
        have h1 := wth_lo wh 6 (by omega)
        have h2 := wth_hi wh 6 (by omega)
        refine ⟨(wth wh 6).toNat, by omega, fun w => (within9_any wh 6 w (by omega) (by omega)).mono ?_⟩
        rintro e w' ⟨rfl, h⟩
        exact ⟨by rw [Int.toNat_of_nonneg h1], h⟩
      obtain ⟨x, hx, hxn, hk1, hk2, -⟩ := hget ia haN
      clear hget
      have hcb := OB.le
      have hmb := OB.max
      have hai : (ia : Int) < (N : Int) := by omega
      have hac : (ia : Int) ≤ (cb : Int) := by omega
      have e0 : V2.cell? ⟨pb, 0, none⟩ = some (.string (bsOf NM)) := cell_blk SB rfl
      have e1 : V2.cell? ⟨pb, 1, none⟩ = some (.slice (some ⟨gb, 0, none⟩) N cb) := cell_blk SB rfl
      have e3 : V2.cell? ⟨pb, 3, none⟩ = some (.bool only) := cell_blk SB rfl
      have hNs : (bsOf NM).size = 2 := by rw [← hNl]; rfl
      have ef := fun i => free_blk (i := i) SB
      obtain ⟨x0, x1, x2⟩ := OB.cell3 ia x hx
      have xf := fun i => OB.free i
      have hcase : wj = 0 ∨ wj = 1 ∨ wj = 2 ∨ wj = 3 ∨ wj = 4 ∨ wj = 5 := by omega
      clear hw6
      go_upto_region 9 with (go_at_call 17; refine (HWa _).mono ?_; rintro e w' ⟨rfl, rfl⟩)
      clear HWa
      rcases hcase with rfl | rfl | rfl | rfl | rfl | rfl
      · have HWj : ∀ w, Calls Tryd.prog 17 #[.int .i64 wh, .int .i64 6] w fun e w' => e = .returned (.int .i64 0) ∧ w = w' := HWw
        clear HWw
        have UX : ScB (V2.setCell ⟨pb, 0, none⟩ (.string (bsOf NM ++ ⟨#[120]⟩))) pa NM (some ⟨ga, 0, none⟩) N ca (KI : Nat) only := (heap_setCell_other _ _ pa _ (by simpa using hpp)).trans SA
        have UY : ScB (V2.setCell ⟨pb, 0, none⟩ (.string (bsOf NM ++ ⟨#[120]⟩))) pb (NM ++ [120]) (some ⟨gb, 0, none⟩) N cb (KI : Nat) only := (heap_setCell_same (i := 0) SB).trans (by rw [← bs_x NM]; rfl)
        have UA : IsR encCo (V2.setCell ⟨pb, 0, none⟩ (.string (bsOf NM ++ ⟨#[120]⟩))) (some ⟨ga, 0, none⟩) N ca F := (OA.kept (w' := (V2.setCell ⟨pb, 0, none⟩ (.string (bsOf NM ++ ⟨#[120]⟩)))) (heap_setCell_other _ _ ga _ (by simpa using n1))).isR
        have UB : IsR encCo (V2.setCell ⟨pb, 0, none⟩ (.string (bsOf NM ++ ⟨#[120]⟩))) (some ⟨gb, 0, none⟩) N cb F := (OB.kept (w' := (V2.setCell ⟨pb, 0, none⟩ (.string (bsOf NM ++ ⟨#[120]⟩)))) (heap_setCell_other _ _ gb _ (by simpa using n3))).isR
        have UP : Below p w (V2.setCell ⟨pb, 0, none⟩ (.string (bsOf NM ++ ⟨#[120]⟩))) := B2.setCell (p := ⟨pb, 0, none⟩) hpbp _
        have UN : NM ≠ NM ++ [120] := fun e => by have := congrArg List.length e; simp at this
        have US1 := sameS_l F F (KI : Nat) (KI : Nat) only only UN
        have US2 := sameS_l F F (KI : Nat) (KI : Nat) only only UN.symm
        clear OA OB SA SB B2 UN
        go_upto_region 22 with (go_at_call 17; refine (HWj _).mono ?_; rintro e w' ⟨rfl, rfl⟩)
        generalize (V2.setCell ⟨pb, 0, none⟩ (.string (bsOf NM ++ ⟨#[120]⟩))) = V3 at UX UY UA UB UP ⊢
        have HA := same_any V3 NM (NM ++ [120]) (some ⟨ga, 0, none⟩) (some ⟨gb, 0, none⟩) N N ca cb F F (KI : Nat) (KI : Nat) only only UA UB
        rw [US1] at HA
        have HB : Hid (∀ w, Below V3.heap.size V3 w → Calls Tryd.prog 23 #[scV (NM ++ [120]) (some ⟨gb, 0, none⟩) N cb (KI : Nat) only, scV NM (some ⟨ga, 0, none⟩) N ca (KI : Nat) only] w fun e w' => e = .returned (.bool false) ∧ Below w.heap.size w w') := fun w b => by
          have := same_any w (NM ++ [120]) NM (some ⟨gb, 0, none⟩) (some ⟨ga, 0, none⟩) N N cb ca F F (KI : Nat) (KI : Nat) only only (UB.past b) (UA.past b)
          rw [US2] at this
          exact this
        unfold scV at HA HB
        have hp3 : p ≤ V3.heap.size := by
          have := UP.size
          rw [HP.out] at this
          exact this
        clear UA UB US1 US2 hx hxn
        have r0 : V3.cell? ⟨pa, 0, none⟩ = some (.string (bsOf NM)) := cell_blk UX rfl
        have r1 : V3.cell? ⟨pa, 1, none⟩ = some (.slice (some ⟨ga, 0, none⟩) N ca) := cell_blk UX rfl
        have r2 : V3.cell? ⟨pa, 2, none⟩ = some (.int .i64 (KI : Nat)) := cell_blk UX rfl
        have r3 : V3.cell? ⟨pa, 3, none⟩ = some (.bool only) := cell_blk UX rfl
        have s0 : V3.cell? ⟨pb, 0, none⟩ = some (.string (bsOf (NM ++ [120]))) := cell_blk UY rfl
        have s1 : V3.cell? ⟨pb, 1, none⟩ = some (.slice (some ⟨gb, 0, none⟩) N cb) := cell_blk UY rfl
        have s2 : V3.cell? ⟨pb, 2, none⟩ = some (.int .i64 (KI : Nat)) := cell_blk UY rfl
        have s3 : V3.cell? ⟨pb, 3, none⟩ = some (.bool only) := cell_blk UY rfl
        go_wp2_with fail
        refine HA.mono ?_
        rintro e V4 ⟨rfl, b4⟩
        have TX := UX.past b4
        have TY := UY.past b4
        have P4 := UP.trans (b4.mono hp3)
        have H4 := HB.out V4 b4
        have hp4 : p ≤ V4.heap.size := Nat.le_trans hp3 b4.size
        clear r0 r1 r2 r3 s0 s1 s2 s3 HA HB UX UY UP b4
        have r0 : V4.cell? ⟨pa, 0, none⟩ = some (.string (bsOf NM)) := cell_blk TX rfl
        have r1 : V4.cell? ⟨pa, 1, none⟩ = some (.slice (some ⟨ga, 0, none⟩) N ca) := cell_blk TX rfl
        have r2 : V4.cell? ⟨pa, 2, none⟩ = some (.int .i64 (KI : Nat)) := cell_blk TX rfl
        have r3 : V4.cell? ⟨pa, 3, none⟩ = some (.bool only) := cell_blk TX rfl
        have s0 : V4.cell? ⟨pb, 0, none⟩ = some (.string (bsOf (NM ++ [120]))) := cell_blk TY rfl
        have s1 : V4.cell? ⟨pb, 1, none⟩ = some (.slice (some ⟨gb, 0, none⟩) N cb) := cell_blk TY rfl
        have s2 : V4.cell? ⟨pb, 2, none⟩ = some (.int .i64 (KI : Nat)) := cell_blk TY rfl
        have s3 : V4.cell? ⟨pb, 3, none⟩ = some (.bool only) := cell_blk TY rfl
        go_wp2_with (go_at_call 23; refine H4.mono ?_; rintro e V5 ⟨rfl, b5⟩)
        go_ret
        rw [Told, HP.out]
        exact ⟨rfl, P4.trans (b5.mono hp4)⟩
      · have HWj : ∀ w, Calls Tryd.prog 17 #[.int .i64 wh, .int .i64 6] w fun e w' => e = .returned (.int .i64 1) ∧ w = w' := HWw
        clear HWw
        have UX : ScB (V2.setCell ⟨gb, ia * 3, none⟩ (.string ⟨#[111, 116, 104, 101, 114]⟩)) pa NM (some ⟨ga, 0, none⟩) N ca (KI : Nat) only := (heap_setCell_other _ _ pa _ (by simpa using n2.symm)).trans SA
        have UY : ScB (V2.setCell ⟨gb, ia * 3, none⟩ (.string ⟨#[111, 116, 104, 101, 114]⟩)) pb NM (some ⟨gb, 0, none⟩) N cb (KI : Nat) only := (heap_setCell_other _ _ pb _ (by simpa using n3.symm)).trans SB
        have UA : IsR encCo (V2.setCell ⟨gb, ia * 3, none⟩ (.string ⟨#[111, 116, 104, 101, 114]⟩)) (some ⟨ga, 0, none⟩) N ca F := ((OA.kept (w' := (V2.setCell ⟨gb, ia * 3, none⟩ (.string ⟨#[111, 116, 104, 101, 114]⟩))) (heap_setCell_other _ _ ga _ (by simpa using hgg)))).isR
        have UB : IsR encCo (V2.setCell ⟨gb, ia * 3, none⟩ (.string ⟨#[111, 116, 104, 101, 114]⟩)) (some ⟨gb, 0, none⟩) N cb (F.set ia (renamed x [111, 116, 104, 101, 114])) := ((OB.field (l' := (F.set ia (renamed x [111, 116, 104, 101, 114]))) (ia * 3) (.string ⟨#[111, 116, 104, 101, 114]⟩) (by rw [List.length_set]) (all_set_name F ia x [111, 116, 104, 101, 114] hx))).isR
        have UP : Below p w (V2.setCell ⟨gb, ia * 3, none⟩ (.string ⟨#[111, 116, 104, 101, 114]⟩)) := (B2.setCell (p := ⟨gb, ia * 3, none⟩) hgbp _)
        have UN : F ≠ (F.set ia (renamed x [111, 116, 104, 101, 114])) := set_ne hx (fun e => by have h1 := congrArg Co.name e; rw [hxn] at h1; simp [renamed] at h1)
        have US1 := sameS_c NM NM (KI : Nat) (KI : Nat) only only UN
        have US2 := sameS_c NM NM (KI : Nat) (KI : Nat) only only UN.symm
        clear OA OB SA SB B2 UN
        go_upto_region 22 with (go_at_call 17; refine (HWj _).mono ?_; rintro e w' ⟨rfl, rfl⟩)
        generalize (V2.setCell ⟨gb, ia * 3, none⟩ (.string ⟨#[111, 116, 104, 101, 114]⟩)) = V3 at UX UY UA UB UP ⊢
        have HA := same_any V3 NM NM (some ⟨ga, 0, none⟩) (some ⟨gb, 0, none⟩) N N ca cb F (F.set ia (renamed x [111, 116, 104, 101, 114])) (KI : Nat) (KI : Nat) only only UA UB
        rw [US1] at HA
        have HB : Hid (∀ w, Below V3.heap.size V3 w → Calls Tryd.prog 23 #[scV NM (some ⟨gb, 0, none⟩) N cb (KI : Nat) only, scV NM (some ⟨ga, 0, none⟩) N ca (KI : Nat) only] w fun e w' => e = .returned (.bool false) ∧ Below w.heap.size w w') := fun w b => by
          have := same_any w NM NM (some ⟨gb, 0, none⟩) (some ⟨ga, 0, none⟩) N N cb ca (F.set ia (renamed x [111, 116, 104, 101, 114])) F (KI : Nat) (KI : Nat) only only (UB.past b) (UA.past b)
          rw [US2] at this
          exact this
        unfold scV at HA HB
        have hp3 : p ≤ V3.heap.size := by
          have := UP.size
          rw [HP.out] at this
          exact this
        clear UA UB US1 US2 hx hxn
        have r0 : V3.cell? ⟨pa, 0, none⟩ = some (.string (bsOf NM)) := cell_blk UX rfl
        have r1 : V3.cell? ⟨pa, 1, none⟩ = some (.slice (some ⟨ga, 0, none⟩) N ca) := cell_blk UX rfl
        have r2 : V3.cell? ⟨pa, 2, none⟩ = some (.int .i64 (KI : Nat)) := cell_blk UX rfl
        have r3 : V3.cell? ⟨pa, 3, none⟩ = some (.bool only) := cell_blk UX rfl
        have s0 : V3.cell? ⟨pb, 0, none⟩ = some (.string (bsOf NM)) := cell_blk UY rfl
        have s1 : V3.cell? ⟨pb, 1, none⟩ = some (.slice (some ⟨gb, 0, none⟩) N cb) := cell_blk UY rfl
        have s2 : V3.cell? ⟨pb, 2, none⟩ = some (.int .i64 (KI : Nat)) := cell_blk UY rfl
        have s3 : V3.cell? ⟨pb, 3, none⟩ = some (.bool only) := cell_blk UY rfl
        go_wp2_with fail
        refine HA.mono ?_
        rintro e V4 ⟨rfl, b4⟩
        have TX := UX.past b4
        have TY := UY.past b4
        have P4 := UP.trans (b4.mono hp3)
        have H4 := HB.out V4 b4
        have hp4 : p ≤ V4.heap.size := Nat.le_trans hp3 b4.size
        clear r0 r1 r2 r3 s0 s1 s2 s3 HA HB UX UY UP b4
        have r0 : V4.cell? ⟨pa, 0, none⟩ = some (.string (bsOf NM)) := cell_blk TX rfl
        have r1 : V4.cell? ⟨pa, 1, none⟩ = some (.slice (some ⟨ga, 0, none⟩) N ca) := cell_blk TX rfl
        have r2 : V4.cell? ⟨pa, 2, none⟩ = some (.int .i64 (KI : Nat)) := cell_blk TX rfl
        have r3 : V4.cell? ⟨pa, 3, none⟩ = some (.bool only) := cell_blk TX rfl
        have s0 : V4.cell? ⟨pb, 0, none⟩ = some (.string (bsOf NM)) := cell_blk TY rfl
        have s1 : V4.cell? ⟨pb, 1, none⟩ = some (.slice (some ⟨gb, 0, none⟩) N cb) := cell_blk TY rfl
        have s2 : V4.cell? ⟨pb, 2, none⟩ = some (.int .i64 (KI : Nat)) := cell_blk TY rfl
        have s3 : V4.cell? ⟨pb, 3, none⟩ = some (.bool only) := cell_blk TY rfl
        go_wp2_with (go_at_call 23; refine H4.mono ?_; rintro e V5 ⟨rfl, b5⟩)
        go_ret
        rw [Told, HP.out]
        exact ⟨rfl, P4.trans (b5.mono hp4)⟩
      · have HWj : ∀ w, Calls Tryd.prog 17 #[.int .i64 wh, .int .i64 6] w fun e w' => e = .returned (.int .i64 2) ∧ w = w' := HWw
        clear HWw
        have UX : ScB (V2.setCell ⟨gb, ia * 3 + 1, none⟩ (.int .i64 (x.kind + 1))) pa NM (some ⟨ga, 0, none⟩) N ca (KI : Nat) only := (heap_setCell_other _ _ pa _ (by simpa using n2.symm)).trans SA
        have UY : ScB (V2.setCell ⟨gb, ia * 3 + 1, none⟩ (.int .i64 (x.kind + 1))) pb NM (some ⟨gb, 0, none⟩) N cb (KI : Nat) only := (heap_setCell_other _ _ pb _ (by simpa using n3.symm)).trans SB
        have UA : IsR encCo (V2.setCell ⟨gb, ia * 3 + 1, none⟩ (.int .i64 (x.kind + 1))) (some ⟨ga, 0, none⟩) N ca F := ((OA.kept (w' := (V2.setCell ⟨gb, ia * 3 + 1, none⟩ (.int .i64 (x.kind + 1)))) (heap_setCell_other _ _ ga _ (by simpa using hgg)))).isR
        have UB : IsR encCo (V2.setCell ⟨gb, ia * 3 + 1, none⟩ (.int .i64 (x.kind + 1))) (some ⟨gb, 0, none⟩) N cb (F.set ia ⟨x.name, x.kind + 1, x.null⟩) := ((OB.field (l' := (F.set ia ⟨x.name, x.kind + 1, x.null⟩)) (ia * 3 + 1) (.int .i64 (x.kind + 1)) (by rw [List.length_set]) (all_set_kind F ia x (x.kind + 1) hx))).isR
        have UP : Below p w (V2.setCell ⟨gb, ia * 3 + 1, none⟩ (.int .i64 (x.kind + 1))) := (B2.setCell (p := ⟨gb, ia * 3 + 1, none⟩) hgbp _)
        have UN : F ≠ (F.set ia ⟨x.name, x.kind + 1, x.null⟩) := set_ne hx (fun e => by have h1 := congrArg Co.kind e; simp only at h1; omega)
        have US1 := sameS_c NM NM (KI : Nat) (KI : Nat) only only UN
        have US2 := sameS_c NM NM (KI : Nat) (KI : Nat) only only UN.symm
        clear OA OB SA SB B2 UN
        go_upto_region 22 with (go_at_call 17; refine (HWj _).mono ?_; rintro e w' ⟨rfl, rfl⟩)
        generalize (V2.setCell ⟨gb, ia * 3 + 1, none⟩ (.int .i64 (x.kind + 1))) = V3 at UX UY UA UB UP ⊢
        have HA := same_any V3 NM NM (some ⟨ga, 0, none⟩) (some ⟨gb, 0, none⟩) N N ca cb F (F.set ia ⟨x.name, x.kind + 1, x.null⟩) (KI : Nat) (KI : Nat) only only UA UB
        rw [US1] at HA
        have HB : Hid (∀ w, Below V3.heap.size V3 w → Calls Tryd.prog 23 #[scV NM (some ⟨gb, 0, none⟩) N cb (KI : Nat) only, scV NM (some ⟨ga, 0, none⟩) N ca (KI : Nat) only] w fun e w' => e = .returned (.bool false) ∧ Below w.heap.size w w') := fun w b => by
          have := same_any w NM NM (some ⟨gb, 0, none⟩) (some ⟨ga, 0, none⟩) N N cb ca (F.set ia ⟨x.name, x.kind + 1, x.null⟩) F (KI : Nat) (KI : Nat) only only (UB.past b) (UA.past b)
          rw [US2] at this
          exact this
        unfold scV at HA HB
        have hp3 : p ≤ V3.heap.size := by
          have := UP.size
          rw [HP.out] at this
          exact this
        clear UA UB US1 US2 hx hxn
        have r0 : V3.cell? ⟨pa, 0, none⟩ = some (.string (bsOf NM)) := cell_blk UX rfl
        have r1 : V3.cell? ⟨pa, 1, none⟩ = some (.slice (some ⟨ga, 0, none⟩) N ca) := cell_blk UX rfl
        have r2 : V3.cell? ⟨pa, 2, none⟩ = some (.int .i64 (KI : Nat)) := cell_blk UX rfl
        have r3 : V3.cell? ⟨pa, 3, none⟩ = some (.bool only) := cell_blk UX rfl
        have s0 : V3.cell? ⟨pb, 0, none⟩ = some (.string (bsOf NM)) := cell_blk UY rfl
        have s1 : V3.cell? ⟨pb, 1, none⟩ = some (.slice (some ⟨gb, 0, none⟩) N cb) := cell_blk UY rfl
        have s2 : V3.cell? ⟨pb, 2, none⟩ = some (.int .i64 (KI : Nat)) := cell_blk UY rfl
        have s3 : V3.cell? ⟨pb, 3, none⟩ = some (.bool only) := cell_blk UY rfl
        go_wp2_with fail
        refine HA.mono ?_
        rintro e V4 ⟨rfl, b4⟩
        have TX := UX.past b4
        have TY := UY.past b4
        have P4 := UP.trans (b4.mono hp3)
        have H4 := HB.out V4 b4
        have hp4 : p ≤ V4.heap.size := Nat.le_trans hp3 b4.size
        clear r0 r1 r2 r3 s0 s1 s2 s3 HA HB UX UY UP b4
        have r0 : V4.cell? ⟨pa, 0, none⟩ = some (.string (bsOf NM)) := cell_blk TX rfl
        have r1 : V4.cell? ⟨pa, 1, none⟩ = some (.slice (some ⟨ga, 0, none⟩) N ca) := cell_blk TX rfl
        have r2 : V4.cell? ⟨pa, 2, none⟩ = some (.int .i64 (KI : Nat)) := cell_blk TX rfl
        have r3 : V4.cell? ⟨pa, 3, none⟩ = some (.bool only) := cell_blk TX rfl
        have s0 : V4.cell? ⟨pb, 0, none⟩ = some (.string (bsOf NM)) := cell_blk TY rfl
        have s1 : V4.cell? ⟨pb, 1, none⟩ = some (.slice (some ⟨gb, 0, none⟩) N cb) := cell_blk TY rfl
        have s2 : V4.cell? ⟨pb, 2, none⟩ = some (.int .i64 (KI : Nat)) := cell_blk TY rfl
        have s3 : V4.cell? ⟨pb, 3, none⟩ = some (.bool only) := cell_blk TY rfl
        go_wp2_with (go_at_call 23; refine H4.mono ?_; rintro e V5 ⟨rfl, b5⟩)
        go_ret
        rw [Told, HP.out]
        exact ⟨rfl, P4.trans (b5.mono hp4)⟩
      · have HWj : ∀ w, Calls Tryd.prog 17 #[.int .i64 wh, .int .i64 6] w fun e w' => e = .returned (.int .i64 3) ∧ w = w' := HWw
        clear HWw
        have UX : ScB ((V2.setCell ⟨gb, ia * 3 + 2, none⟩ (.bool (!x.null))).drew) pa NM (some ⟨ga, 0, none⟩) N ca (KI : Nat) only := (heap_setCell_other _ _ pa _ (by simpa using n2.symm)).trans SA
        have UY : ScB ((V2.setCell ⟨gb, ia * 3 + 2, none⟩ (.bool (!x.null))).drew) pb NM (some ⟨gb, 0, none⟩) N cb (KI : Nat) only := (heap_setCell_other _ _ pb _ (by simpa using n3.symm)).trans SB
        have UA : IsR encCo ((V2.setCell ⟨gb, ia * 3 + 2, none⟩ (.bool (!x.null))).drew) (some ⟨ga, 0, none⟩) N ca F := ((OA.kept (w' := (V2.setCell ⟨gb, ia * 3 + 2, none⟩ (.bool (!x.null)))) (heap_setCell_other _ _ ga _ (by simpa using hgg))).drew).isR
        have UB : IsR encCo ((V2.setCell ⟨gb, ia * 3 + 2, none⟩ (.bool (!x.null))).drew) (some ⟨gb, 0, none⟩) N cb (F.set ia ⟨x.name, x.kind, !x.null⟩) := ((OB.field (l' := (F.set ia ⟨x.name, x.kind, !x.null⟩)) (ia * 3 + 2) (.bool (!x.null)) (by rw [List.length_set]) (all_set_nul2 F ia x (!x.null) hx)).drew).isR
        have UP : Below p w ((V2.setCell ⟨gb, ia * 3 + 2, none⟩ (.bool (!x.null))).drew) := (B2.setCell (p := ⟨gb, ia * 3 + 2, none⟩) hgbp _).drew
        have UN : F ≠ (F.set ia ⟨x.name, x.kind, !x.null⟩) := set_ne hx (fun e => by have h1 := congrArg Co.null e; simp at h1)
        have US1 := sameS_c NM NM (KI : Nat) (KI : Nat) only only UN
        have US2 := sameS_c NM NM (KI : Nat) (KI : Nat) only only UN.symm
        clear OA OB SA SB B2 UN
        go_upto_region 17 with (go_at_call 17; refine (HWj _).mono ?_; rintro e w' ⟨rfl, rfl⟩)
        go_region
        all_goals
          go_upto_region 22 with fail
          generalize ((V2.setCell ⟨gb, ia * 3 + 2, none⟩ (.bool (!x.null))).drew) = V3 at UX UY UA UB UP ⊢
          have HA := same_any V3 NM NM (some ⟨ga, 0, none⟩) (some ⟨gb, 0, none⟩) N N ca cb F (F.set ia ⟨x.name, x.kind, !x.null⟩) (KI : Nat) (KI : Nat) only only UA UB
          rw [US1] at HA
          have HB : Hid (∀ w, Below V3.heap.size V3 w → Calls Tryd.prog 23 #[scV NM (some ⟨gb, 0, none⟩) N cb (KI : Nat) only, scV NM (some ⟨ga, 0, none⟩) N ca (KI : Nat) only] w fun e w' => e = .returned (.bool false) ∧ Below w.heap.size w w') := fun w b => by
            have := same_any w NM NM (some ⟨gb, 0, none⟩) (some ⟨ga, 0, none⟩) N N cb ca (F.set ia ⟨x.name, x.kind, !x.null⟩) F (KI : Nat) (KI : Nat) only only (UB.past b) (UA.past b)
            rw [US2] at this
            exact this
          unfold scV at HA HB
          have hp3 : p ≤ V3.heap.size := by
            have := UP.size
            rw [HP.out] at this
            exact this
          clear UA UB US1 US2 hx hxn
          have r0 : V3.cell? ⟨pa, 0, none⟩ = some (.string (bsOf NM)) := cell_blk UX rfl
          have r1 : V3.cell? ⟨pa, 1, none⟩ = some (.slice (some ⟨ga, 0, none⟩) N ca) := cell_blk UX rfl
          have r2 : V3.cell? ⟨pa, 2, none⟩ = some (.int .i64 (KI : Nat)) := cell_blk UX rfl
          have r3 : V3.cell? ⟨pa, 3, none⟩ = some (.bool only) := cell_blk UX rfl
          have s0 : V3.cell? ⟨pb, 0, none⟩ = some (.string (bsOf NM)) := cell_blk UY rfl
          have s1 : V3.cell? ⟨pb, 1, none⟩ = some (.slice (some ⟨gb, 0, none⟩) N cb) := cell_blk UY rfl
          have s2 : V3.cell? ⟨pb, 2, none⟩ = some (.int .i64 (KI : Nat)) := cell_blk UY rfl
          have s3 : V3.cell? ⟨pb, 3, none⟩ = some (.bool only) := cell_blk UY rfl
          go_wp2_with fail
          refine HA.mono ?_
          rintro e V4 ⟨rfl, b4⟩
          have TX := UX.past b4
          have TY := UY.past b4
          have P4 := UP.trans (b4.mono hp3)
          have H4 := HB.out V4 b4
          have hp4 : p ≤ V4.heap.size := Nat.le_trans hp3 b4.size
          clear r0 r1 r2 r3 s0 s1 s2 s3 HA HB UX UY UP b4
          have r0 : V4.cell? ⟨pa, 0, none⟩ = some (.string (bsOf NM)) := cell_blk TX rfl
          have r1 : V4.cell? ⟨pa, 1, none⟩ = some (.slice (some ⟨ga, 0, none⟩) N ca) := cell_blk TX rfl
          have r2 : V4.cell? ⟨pa, 2, none⟩ = some (.int .i64 (KI : Nat)) := cell_blk TX rfl
          have r3 : V4.cell? ⟨pa, 3, none⟩ = some (.bool only) := cell_blk TX rfl
          have s0 : V4.cell? ⟨pb, 0, none⟩ = some (.string (bsOf NM)) := cell_blk TY rfl
          have s1 : V4.cell? ⟨pb, 1, none⟩ = some (.slice (some ⟨gb, 0, none⟩) N cb) := cell_blk TY rfl
          have s2 : V4.cell? ⟨pb, 2, none⟩ = some (.int .i64 (KI : Nat)) := cell_blk TY rfl
          have s3 : V4.cell? ⟨pb, 3, none⟩ = some (.bool only) := cell_blk TY rfl
          go_wp2_with (go_at_call 23; refine H4.mono ?_; rintro e V5 ⟨rfl, b5⟩)
          go_ret
          rw [Told, HP.out]
          exact ⟨rfl, P4.trans (b5.mono hp4)⟩
      · have HWj : ∀ w, Calls Tryd.prog 17 #[.int .i64 wh, .int .i64 6] w fun e w' => e = .returned (.int .i64 4) ∧ w = w' := HWw
        clear HWw
        have UX : ScB (V2.setCell ⟨pb, 3, none⟩ (.bool (!only))) pa NM (some ⟨ga, 0, none⟩) N ca (KI : Nat) only := (heap_setCell_other _ _ pa _ (by simpa using hpp)).trans SA
        have UY : ScB (V2.setCell ⟨pb, 3, none⟩ (.bool (!only))) pb NM (some ⟨gb, 0, none⟩) N cb (KI : Nat) (!only) := (heap_setCell_same (i := 3) SB).trans rfl
        have UA : IsR encCo (V2.setCell ⟨pb, 3, none⟩ (.bool (!only))) (some ⟨ga, 0, none⟩) N ca F := (OA.kept (w' := (V2.setCell ⟨pb, 3, none⟩ (.bool (!only)))) (heap_setCell_other _ _ ga _ (by simpa using n1))).isR
        have UB : IsR encCo (V2.setCell ⟨pb, 3, none⟩ (.bool (!only))) (some ⟨gb, 0, none⟩) N cb F := (OB.kept (w' := (V2.setCell ⟨pb, 3, none⟩ (.bool (!only)))) (heap_setCell_other _ _ gb _ (by simpa using n3))).isR
        have UP : Below p w (V2.setCell ⟨pb, 3, none⟩ (.bool (!only))) := B2.setCell (p := ⟨pb, 3, none⟩) hpbp _
        have UN : only ≠ !only := by cases only <;> simp
        have US1 := sameS_o NM NM F F (KI : Nat) (KI : Nat) UN
        have US2 := sameS_o NM NM F F (KI : Nat) (KI : Nat) UN.symm
        clear OA OB SA SB B2 UN
        go_upto_region 22 with (go_at_call 17; refine (HWj _).mono ?_; rintro e w' ⟨rfl, rfl⟩)
        generalize (V2.setCell ⟨pb, 3, none⟩ (.bool (!only))) = V3 at UX UY UA UB UP ⊢
        have HA := same_any V3 NM NM (some ⟨ga, 0, none⟩) (some ⟨gb, 0, none⟩) N N ca cb F F (KI : Nat) (KI : Nat) only (!only) UA UB
        rw [US1] at HA
        have HB : Hid (∀ w, Below V3.heap.size V3 w → Calls Tryd.prog 23 #[scV NM (some ⟨gb, 0, none⟩) N cb (KI : Nat) (!only), scV NM (some ⟨ga, 0, none⟩) N ca (KI : Nat) only] w fun e w' => e = .returned (.bool false) ∧ Below w.heap.size w w') := fun w b => by
          have := same_any w NM NM (some ⟨gb, 0, none⟩) (some ⟨ga, 0, none⟩) N N cb ca F F (KI : Nat) (KI : Nat) (!only) only (UB.past b) (UA.past b)
          rw [US2] at this
          exact this
        unfold scV at HA HB
        have hp3 : p ≤ V3.heap.size := by
          have := UP.size
          rw [HP.out] at this
          exact this
        clear UA UB US1 US2 hx hxn
        have r0 : V3.cell? ⟨pa, 0, none⟩ = some (.string (bsOf NM)) := cell_blk UX rfl
        have r1 : V3.cell? ⟨pa, 1, none⟩ = some (.slice (some ⟨ga, 0, none⟩) N ca) := cell_blk UX rfl
        have r2 : V3.cell? ⟨pa, 2, none⟩ = some (.int .i64 (KI : Nat)) := cell_blk UX rfl
        have r3 : V3.cell? ⟨pa, 3, none⟩ = some (.bool only) := cell_blk UX rfl
        have s0 : V3.cell? ⟨pb, 0, none⟩ = some (.string (bsOf NM)) := cell_blk UY rfl
        have s1 : V3.cell? ⟨pb, 1, none⟩ = some (.slice (some ⟨gb, 0, none⟩) N cb) := cell_blk UY rfl
        have s2 : V3.cell? ⟨pb, 2, none⟩ = some (.int .i64 (KI : Nat)) := cell_blk UY rfl
        have s3 : V3.cell? ⟨pb, 3, none⟩ = some (.bool (!only)) := cell_blk UY rfl
        go_wp2_with fail
        refine HA.mono ?_
        rintro e V4 ⟨rfl, b4⟩
        have TX := UX.past b4
        have TY := UY.past b4
        have P4 := UP.trans (b4.mono hp3)
        have H4 := HB.out V4 b4
        have hp4 : p ≤ V4.heap.size := Nat.le_trans hp3 b4.size
        clear r0 r1 r2 r3 s0 s1 s2 s3 HA HB UX UY UP b4
        have r0 : V4.cell? ⟨pa, 0, none⟩ = some (.string (bsOf NM)) := cell_blk TX rfl
        have r1 : V4.cell? ⟨pa, 1, none⟩ = some (.slice (some ⟨ga, 0, none⟩) N ca) := cell_blk TX rfl
        have r2 : V4.cell? ⟨pa, 2, none⟩ = some (.int .i64 (KI : Nat)) := cell_blk TX rfl
        have r3 : V4.cell? ⟨pa, 3, none⟩ = some (.bool only) := cell_blk TX rfl
        have s0 : V4.cell? ⟨pb, 0, none⟩ = some (.string (bsOf NM)) := cell_blk TY rfl
        have s1 : V4.cell? ⟨pb, 1, none⟩ = some (.slice (some ⟨gb, 0, none⟩) N cb) := cell_blk TY rfl
        have s2 : V4.cell? ⟨pb, 2, none⟩ = some (.int .i64 (KI : Nat)) := cell_blk TY rfl
        have s3 : V4.cell? ⟨pb, 3, none⟩ = some (.bool (!only)) := cell_blk TY rfl
        go_wp2_with (go_at_call 23; refine H4.mono ?_; rintro e V5 ⟨rfl, b5⟩)
        go_ret
        rw [Told, HP.out]
        exact ⟨rfl, P4.trans (b5.mono hp4)⟩
      · have HWj : ∀ w, Calls Tryd.prog 17 #[.int .i64 wh, .int .i64 6] w fun e w' => e = .returned (.int .i64 5) ∧ w = w' := HWw
        clear HWw
        have UX : ScB (V2.setCell ⟨pb, 1, none⟩ (.slice (some ⟨gb, 0, none⟩) ia cb)) pa NM (some ⟨ga, 0, none⟩) N ca (KI : Nat) only := (heap_setCell_other _ _ pa _ (by simpa using hpp)).trans SA
        have UY : ScB (V2.setCell ⟨pb, 1, none⟩ (.slice (some ⟨gb, 0, none⟩) ia cb)) pb NM (some ⟨gb, 0, none⟩) ia cb (KI : Nat) only := (heap_setCell_same (i := 1) SB).trans rfl
        have UA : IsR encCo (V2.setCell ⟨pb, 1, none⟩ (.slice (some ⟨gb, 0, none⟩) ia cb)) (some ⟨ga, 0, none⟩) N ca F := (OA.kept (w' := (V2.setCell ⟨pb, 1, none⟩ (.slice (some ⟨gb, 0, none⟩) ia cb))) (heap_setCell_other _ _ ga _ (by simpa using n1))).isR
        have UB : IsR encCo (V2.setCell ⟨pb, 1, none⟩ (.slice (some ⟨gb, 0, none⟩) ia cb)) (some ⟨gb, 0, none⟩) ia cb (F.take ia) := ((OB.kept (w' := (V2.setCell ⟨pb, 1, none⟩ (.slice (some ⟨gb, 0, none⟩) ia cb))) (heap_setCell_other _ _ gb _ (by simpa using n3))).isR).taken ia (by omega)
        have UP : Below p w (V2.setCell ⟨pb, 1, none⟩ (.slice (some ⟨gb, 0, none⟩) ia cb)) := B2.setCell (p := ⟨pb, 1, none⟩) hpbp _
        have UN : F ≠ F.take ia := fun e => by have := congrArg List.length e; simp only [List.length_take] at this; omega
        have US1 := sameS_c NM NM (KI : Nat) (KI : Nat) only only UN
        have US2 := sameS_c NM NM (KI : Nat) (KI : Nat) only only UN.symm
        clear OA OB SA SB B2 UN
        go_upto_region 22 with (go_at_call 17; refine (HWj _).mono ?_; rintro e w' ⟨rfl, rfl⟩)
        generalize (V2.setCell ⟨pb, 1, none⟩ (.slice (some ⟨gb, 0, none⟩) ia cb)) = V3 at UX UY UA UB UP ⊢
        have HA := same_any V3 NM NM (some ⟨ga, 0, none⟩) (some ⟨gb, 0, none⟩) N ia ca cb F (F.take ia) (KI : Nat) (KI : Nat) only only UA UB
        rw [US1] at HA
        have HB : Hid (∀ w, Below V3.heap.size V3 w → Calls Tryd.prog 23 #[scV NM (some ⟨gb, 0, none⟩) ia cb (KI : Nat) only, scV NM (some ⟨ga, 0, none⟩) N ca (KI : Nat) only] w fun e w' => e = .returned (.bool false) ∧ Below w.heap.size w w') := fun w b => by
          have := same_any w NM NM (some ⟨gb, 0, none⟩) (some ⟨ga, 0, none⟩) ia N cb ca (F.take ia) F (KI : Nat) (KI : Nat) only only (UB.past b) (UA.past b)
          rw [US2] at this
          exact this
        unfold scV at HA HB
        have hp3 : p ≤ V3.heap.size := by
          have := UP.size
          rw [HP.out] at this
          exact this
        clear UA UB US1 US2 hx hxn
        have r0 : V3.cell? ⟨pa, 0, none⟩ = some (.string (bsOf NM)) := cell_blk UX rfl
        have r1 : V3.cell? ⟨pa, 1, none⟩ = some (.slice (some ⟨ga, 0, none⟩) N ca) := cell_blk UX rfl
        have r2 : V3.cell? ⟨pa, 2, none⟩ = some (.int .i64 (KI : Nat)) := cell_blk UX rfl
        have r3 : V3.cell? ⟨pa, 3, none⟩ = some (.bool only) := cell_blk UX rfl
        have s0 : V3.cell? ⟨pb, 0, none⟩ = some (.string (bsOf NM)) := cell_blk UY rfl
        have s1 : V3.cell? ⟨pb, 1, none⟩ = some (.slice (some ⟨gb, 0, none⟩) ia cb) := cell_blk UY rfl
        have s2 : V3.cell? ⟨pb, 2, none⟩ = some (.int .i64 (KI : Nat)) := cell_blk UY rfl
        have s3 : V3.cell? ⟨pb, 3, none⟩ = some (.bool only) := cell_blk UY rfl
        go_wp2_with fail
        refine HA.mono ?_
        rintro e V4 ⟨rfl, b4⟩
        have TX := UX.past b4
        have TY := UY.past b4
        have P4 := UP.trans (b4.mono hp3)
        have H4 := HB.out V4 b4
        have hp4 : p ≤ V4.heap.size := Nat.le_trans hp3 b4.size
        clear r0 r1 r2 r3 s0 s1 s2 s3 HA HB UX UY UP b4
        have r0 : V4.cell? ⟨pa, 0, none⟩ = some (.string (bsOf NM)) := cell_blk TX rfl
        have r1 : V4.cell? ⟨pa, 1, none⟩ = some (.slice (some ⟨ga, 0, none⟩) N ca) := cell_blk TX rfl
        have r2 : V4.cell? ⟨pa, 2, none⟩ = some (.int .i64 (KI : Nat)) := cell_blk TX rfl
        have r3 : V4.cell? ⟨pa, 3, none⟩ = some (.bool only) := cell_blk TX rfl
        have s0 : V4.cell? ⟨pb, 0, none⟩ = some (.string (bsOf NM)) := cell_blk TY rfl
        have s1 : V4.cell? ⟨pb, 1, none⟩ = some (.slice (some ⟨gb, 0, none⟩) ia cb) := cell_blk TY rfl
        have s2 : V4.cell? ⟨pb, 2, none⟩ = some (.int .i64 (KI : Nat)) := cell_blk TY rfl
        have s3 : V4.cell? ⟨pb, 3, none⟩ = some (.bool only) := cell_blk TY rfl
        go_wp2_with (go_at_call 23; refine H4.mono ?_; rintro e V5 ⟨rfl, b5⟩)
        go_ret
        rw [Told, HP.out]
        exact ⟨rfl, P4.trans (b5.mono hp4)⟩
end Go.Proofs.YtpfhggalbdjjmaaDoor
