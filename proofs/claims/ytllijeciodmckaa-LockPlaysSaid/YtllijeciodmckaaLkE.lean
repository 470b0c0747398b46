/-
  Holds: slices' DeleteFunc; lock's without (by gen_lke.py).
-/
import Derived.Test.YtllijeciodmckaaLkD
namespace Go.Proofs.Ytllijeciodmckaa
open Go.RowKit
set_option linter.unusedSimpArgs false
theorem wpList_clear_r {P : Program} {ops : Array Oper} {rest : List Oper} {o : Oper} {a : Act} {w : World} {Q : Exit → Act → World → Prop} (hgd : o.guard = none) (s : Operand) (ts : TypeId)
    (ho : o.op = .call { callee := .builtin .clear, args := #[s], argTypes := #[ts] }) (X : Value) (hx : a.eval s = X) (w' : World) (hr : (Builtin.clear_ #[ts] o.type #[X]).run P w = .ok (.tuple #[]) w')
    (hK : wpList P ops Q rest (a.put o.dst (.tuple #[])) w') : wpList P ops Q (o :: rest) a w := by
  refine wpList_plain hgd fun K hK' => ?_
  unfold Oper.wp execOp
  simp only [ho, resolve, invoke, builtin, Sem.run_bind, Sem.run_pure, Result.andThen_ok, List.map_toArray, List.map_cons, List.map_nil, hx, hr]
  exact hK' _ _ hK
/-- The own row's s[i:], s[:i]. -/
theorem own_tail (g n c i : Nat) (hi : i < n) (_hn : n ≤ c) (w : World) : (Instr.slice 94 (.slice (some ⟨g, 0, none⟩) n c) (some (.int .i64 (i : Nat))) none none).run Try.prog w = .ok (.slice (some ⟨g, i * 3, none⟩) (n - i) (c - i)) w := by
  have hz : (sizeOf (Try.prog.elem 94)).run Try.prog w = .ok 3 w := by kernel_rfl
  rw [run_slice_l w 94 _ n c (by kernel_rfl) .i64 (i : Int) (by omega) (by omega), hz]
  simp only [Result.andThen, sliced, Int.toNat_natCast, Option.map_some, Addr.add_lit, Nat.zero_add]
  rw [if_neg (by omega)]
theorem own_front (g n c i : Nat) (hi : i ≤ n) (hn : n ≤ c) (w : World) : (Instr.slice 94 (.slice (some ⟨g, 0, none⟩) n c) none (some (.int .i64 (i : Nat))) none).run Try.prog w = .ok (.slice (some ⟨g, 0, none⟩) i c) w := by
  have hz : (sizeOf (Try.prog.elem 94)).run Try.prog w = .ok 3 w := by kernel_rfl
  rw [run_slice_h w 94 _ n c (by kernel_rfl) .i64 (i : Int) (by omega) (by omega), hz]
  simp only [Result.andThen, sliced, Int.toNat_natCast, Nat.sub_zero, Option.map_some, Addr.add_lit, Nat.zero_add, Nat.zero_mul]
  simp
theorem wo_take {l : List Hd} {s : Int} {j : Nat} {y : Hd} (hj : l[j]? = some y) : wo (l.take (j + 1)) s = wo (l.take j) s ++ (if y.s = s then [] else [y]) := by
  rw [List.take_add_one, hj]
  unfold wo
  rw [List.filter_append]
  by_cases h : y.s = s <;> simp [h]
theorem set_front {L l : List Hd} {i j : Nat} {y : Hd} (hij : i < j) (hL : L.length = l.length) (hy : l[j]? = some y) {K : List Hd} (ht : L.take i = K) (hd : L.drop j = l.drop j) : (L.set i y).take (i + 1) = K ++ [y] ∧ (L.set i y).drop (j + 1) = l.drop (j + 1) := by
  have hjl := (List.getElem?_eq_some_iff.1 hy).1
  constructor
  · rw [List.take_add_one, List.getElem?_set_self (by omega), List.take_set_of_le (Nat.le_refl _), ht]
    rfl
  · rw [List.drop_set_of_lt (by omega), ← List.drop_drop, hd, List.drop_drop]
theorem drop_get {L l : List Hd} {j : Nat} (hd : L.drop j = l.drop j) : L[j]? = l[j]? := by
  have := congrArg (fun x => x[0]?) hd
  simpa using this
theorem drop_more {L l : List Hd} {j : Nat} (hd : L.drop j = l.drop j) : L.drop (j + 1) = l.drop (j + 1) := by rw [← List.drop_drop, hd, List.drop_drop]
theorem idx_front {l : List Hd} {s : Int} {i : Nat} (hi : l.findIdx? (fun h => decide (h.s = s)) = some i) : i < l.length ∧ l.take i = wo (l.take (i + 1)) s ∧ fidx (fun h => decide (h.s = s)) l = (i : Nat) := by
  obtain ⟨hl, h1, h2⟩ := List.findIdx?_eq_some_iff_getElem.1 hi
  refine ⟨hl, ?_, by unfold fidx; rw [hi]⟩
  rw [wo_take (List.getElem?_eq_getElem hl), if_pos (of_decide_eq_true h1), List.append_nil]
  unfold wo
  refine (List.filter_eq_self.2 fun y hy => ?_).symm
  obtain ⟨q, hq, rfl⟩ := List.mem_take_iff_getElem.1 hy
  have := h2 q (by omega)
  simpa using this
theorem idx_front0 {l : List Hd} {s : Int} (hi : l.findIdx? (fun h => decide (h.s = s)) = none) : wo l s = l ∧ fidx (fun h => decide (h.s = s)) l = -1 := by
  refine ⟨?_, by unfold fidx; rw [hi]⟩
  unfold wo
  refine List.filter_eq_self.2 fun y hy => ?_
  have := List.findIdx?_eq_none_iff.1 hi y hy
  simpa using this
set_option maxRecDepth 100000 in
set_option maxHeartbeats 2000000 in
theorem deleteF_w (w : World) (B : Nat) (hBw : B ≤ w.heap.size) (ao : Option Addr) (n c : Nat) (l : List Hd) (h : TxtR EHd w 101 B ao n c l) (p : Nat) (s : Int) (hp : w.cell? ⟨p, 0, none⟩ = some (.int .i64 s)) (hpB : p < B) :
    Calls Try.prog 152 #[.slice ao n c, .func (.func 153) #[] #[.pointer (some ⟨p, 0, none⟩)]] w fun e w' => ∃ ao' k c', e = .returned (.slice ao' k c') ∧ TxtR EHd w' 101 B ao' k c' (wo l s) ∧ Below B w w' := by
  have HI := indexF_w w ao n c l h.isR p s hp
  cases hq : l.findIdx? (fun h => decide (h.s = s)) with
  | none =>
    obtain ⟨h1, h2⟩ := idx_front0 hq
    rw [h2] at HI
    rw [h1]
    clear h1 h2 hq
    go_enter Try.func152, Try.ntmps152
    go_wp2_with (go_at_call 156; refine HI.mono ?_; rintro e w1 ⟨rfl, b1⟩)
    go_ret
    exact ⟨ao, n, c, rfl, h.past b1, b1.mono hBw⟩
  | some i0 =>
    obtain ⟨h1, h2, h3⟩ := idx_front hq
    rw [h3] at HI
    clear h3 hq
    have hlen := h.len
    have hmx := h.isR.max
    unfold maxLen at hmx
    rcases h.either with ⟨_, _, _, rfl⟩ | ⟨g, rfl, o0, hg⟩
    · simp at h1
    have hle := o0.le
    have hpg : p ≠ g := by omega
    have hneg : ¬ ((i0 : Int) = -1) := by omega
    have hneg2 : ((i0 : Int) == -1) = false := by simp
    have hw1 : wrap64 ((i0 : Int) + 1) = ((i0 + 1 : Nat) : Int) := by rw [IntWalk.wrap64_in _ (by omega)]; omega
    have H2 := Lib.hid h2
    clear h2
    go_enter Try.func152, Try.ntmps152
    go_wp2_with (go_at_call 156; refine HI.mono ?_; rintro e w1 ⟨rfl, b1⟩)
    have o1 := o0.past b1
    have B1 := b1.mono hBw
    have hB1 := Nat.le_trans hBw b1.size
    clear HI
    go_loopw [5, 6] (fun zi zj wr => ∃ (i j : Nat) (L : List Hd), zi = .int .i64 (i : Nat) ∧ zj = .int .i64 (j : Nat) ∧ i < j ∧ j ≤ n ∧ OwnR EHd wr 101 g n c L ∧ Hid (L.take i = wo (l.take j) s) ∧ Hid (L.drop j = l.drop j) ∧ Below B w wr) (fun zi zj _ => n - (intOf zj).toNat)
    case atStart => exact ⟨i0, i0 + 1, l, rfl, by first | rfl | go_num, by omega, by omega, o1, H2, Lib.hid rfl, B1⟩
    case round =>
      obtain ⟨i, j, L, rfl, rfl, hij, hjn, oW, hT, hD, BW⟩ := hrel
      have hBr := Nat.le_trans hBw BW.size
      by_cases hlt : j < n
      · have hlti : (j : Int) < (n : Int) := by omega
        obtain ⟨y, hy⟩ : ∃ y, l[j]? = some y := ⟨l[j]'(by omega), List.getElem?_eq_getElem _⟩
        have hyL : L[j]? = some y := (drop_get hD.out).trans hy
        have hc0 := fun q hq u hu => oW.cell _ u ((Enc.all_get EHd L j q y hyL hq).trans hu)
        have p0 : wr.cell? ⟨g, j * 3, none⟩ = some (.int .i64 y.s) := hc0 0 (by decide) _ rfl
        have p1 : wr.cell? ⟨g, j * 3 + 1, none⟩ = some (.string (bsOf y.t)) := hc0 1 (by decide) _ rfl
        have p2 : wr.cell? ⟨g, j * 3 + 2, none⟩ = some (.bool y.x) := hc0 2 (by decide) _ rfl
        have hLl : L.length = l.length := by rw [oW.len, hlen]
        have S1 := Lib.hid (set_front hij hLl hy hT.out hD.out)
        have S2 := Lib.hid (drop_more hD.out)
        have S3 := Lib.hid (wo_take (s := s) hy)
        clear hc0 hyL hy
        obtain ⟨q, hq⟩ : ∃ q, decide (y.s = s) = q := ⟨_, rfl⟩
        have hq2 := Lib.hid hq
        clear hq
        have XB := HdB.new wr y 101
        have BX : Below wr.heap.size wr (wr.alloc (.cells #[.int .i64 y.s, .string (bsOf y.t), .bool y.x] 101)) := (Below.refl _ _).alloc (Nat.le_refl _) _
        obtain ⟨ys, yt, yb⟩ := y
        simp only at p0 p1 p2 XB BX hq2 S1 S3
        go_upto_region 8 with fail
        generalize wr.alloc (.cells #[.int .i64 ys, .string (bsOf yt), .bool yb] 101) = W at XB BX ⊢
        obtain ⟨v, hv⟩ : ∃ v, wr.heap.size = v := ⟨_, rfl⟩
        rw [hv] at XB BX hBr
        simp only [hv]
        have oX : OwnR EHd W 101 g n c L := oW.past (by rw [hv]; exact BX)
        have BXB : Below B w W := BW.trans (BX.mono hBr)
        have hBX := Nat.le_trans hBw BXB.size
        have HC := wo1_any W p s ⟨ys, yt, yb⟩ ((BXB.cell (show (⟨p, 0, none⟩ : Addr).block < B from hpB)).trans hp)
        rw [hq2.out] at HC
        unfold Hd.val at HC
        simp only at HC
        obtain ⟨x0, x1, x2⟩ := XB.c
        simp only at x0 x1 x2
        clear hv p0 p1 p2
        cases q
        · have hne : ¬ ys = s := of_decide_eq_false hq2.out
          have K1 := Lib.hid (show (L.set i ⟨ys, yt, yb⟩).take (i + 1) = wo (l.take (j + 1)) s by rw [S3.out, if_neg hne]; exact S1.out.1)
          have K2 := Lib.hid S1.out.2
          clear S1 S2 S3 hne
          go_wp2_with (go_at_call 153; refine HC.mono ?_; rintro en w2 ⟨rfl, b2⟩; have o2 := oX.past b2; obtain ⟨y0, y1, y2⟩ := (XB.past b2).c; simp only at y0 y1 y2; obtain ⟨ca, cb, cc, a0, a1, a2, f0, f1, f2⟩ := own_cells3 o2 rfl i (by omega))
          go_roundw
          case rel =>
            have o3 := own_set3 o2 rfl i (by omega) ⟨ys, yt, yb⟩ _ _ _ rfl
            have g3 := set3_grown w2 g i (.int .i64 ys) (.string (bsOf yt)) (.bool yb)
            have B2 := BXB.trans (b2.mono hBX)
            refine ⟨i + 1, j + 1, _, by go_num, by go_num, by omega, by omega, o3, K1, K2, B2.trans (grown_below g3 hg (Nat.le_trans hBw B2.size))⟩
          case measure => simp [intOf]; omega
        · have he : ys = s := of_decide_eq_true hq2.out
          have K1 := Lib.hid (show L.take i = wo (l.take (j + 1)) s by rw [S3.out, if_pos he, List.append_nil]; exact hT.out)
          clear S1 S3 he
          go_wp2_with (go_at_call 153; refine HC.mono ?_; rintro en w2 ⟨rfl, b2⟩)
          go_roundw
          case rel => exact ⟨i, j + 1, L, rfl, by go_num, by omega, by omega, oX.past b2, K1, S2, BXB.trans (b2.mono hBX)⟩
          case measure => simp [intOf]; omega
      · have hlti : ¬ ((j : Int) < (n : Int)) := by omega
        obtain rfl : j = n := by omega
        have K := hT.out
        rw [List.take_of_length_le (show l.length ≤ j by omega)] at K
        have HK := Lib.hid K
        clear K hT hD H2
        have F3 := fun w => own_front g j c i (by omega) hle w
        by_cases hi : i < j
        · have F1 := fun w => own_tail g j c i hi hle w
          have F2 := fun ty => run_clear_o (P := Try.prog) 94 101 ty rowTyHd oW i (j - i) (c - i) (by omega) (by omega)
          obtain ⟨w4, hr4, o4, g4⟩ := F2 0
          go_wp2_with (refine wpList_clear_r rfl _ 94 rfl _ rfl w4 hr4 ?_)
          go_ret
          refine ⟨_, i, c, rfl, ⟨.inr ⟨g, rfl, ?_, hg⟩⟩, BW.trans (grown_below g4 hg hBr)⟩
          rw [← HK.out]
          exact o4
        · omega
end Go.Proofs.Ytllijeciodmckaa
