/-
  LedgerIds (by gen_lids.py).
-/
import Derived.Test.YtdmnjjknkcnkgaaDoorMg17
namespace Go.Proofs.YtdmnjjknkcnkgaaDoor
open Go.RowKit
set_option linter.unusedSimpArgs false
def chN (k : Int) : Chg := ((⟨#[120]⟩, 1), [⟨2, k, ⟨#[]⟩⟩])
theorem txN (i k : Int) : TxOk (i, [chN k]) := ⟨by simp, fun c hc => by rw [List.mem_singleton.1 hc]; exact ⟨by simp [chN, ByteArray.size], by simp [chN], fun v hv => by simp only [chN, List.mem_singleton] at hv; rw [hv]; simp [ByteArray.size]⟩⟩
/-- Its transactions are numbered as they came. -/
def Nums (k : Nat) (M : Lgr) : Prop := (M.ts.flatten ++ M.op).map Prod.fst = (List.range k).map fun i => ((i : Nat) : Int)
theorem Nums.cls {k : Nat} {M : Lgr} (h : Nums k M) : Nums k (cls M) := by
  unfold Go.Proofs.YtdmnjjknkcnkgaaDoor.cls
  split
  · exact h
  · simpa [Nums] using h
theorem Nums.add {k : Nat} {M : Lgr} (h : Nums k M) (hn : M.next = k) (c : List Chg) : Nums (k + 1) (addL M c) := by
  have h1 : Nums (k + 1) ⟨M.next + 1, M.op ++ [(M.next, c)], M.bl, M.ts⟩ := by
    have h0 : (M.ts.flatten ++ M.op).map Prod.fst = (List.range k).map fun i => ((i : Nat) : Int) := h
    show (M.ts.flatten ++ (M.op ++ [(M.next, c)])).map Prod.fst = _
    rw [← List.append_assoc, List.map_append, h0, List.range_succ, List.map_append, hn]
    rfl
  simp only [addL]
  split
  · exact h1.cls
  · exact h1
theorem flat_take_le {α : Type} (L : List (List α)) (j : Nat) : (L.take j).flatten.length ≤ L.flatten.length := by
  have h : (L.take j).flatten ++ (L.drop j).flatten = L.flatten := by rw [← List.flatten_append, List.take_append_drop]
  rw [← h, List.length_append]
  omega
theorem flat_take_next {α : Type} {L : List (List α)} {j : Nat} {l : List α} (h : L[j]? = some l) : (L.take (j + 1)).flatten.length = (L.take j).flatten.length + l.length := by
  obtain ⟨hj, rfl⟩ := List.getElem?_eq_some_iff.1 h
  rw [List.take_succ_eq_append_getElem hj, List.flatten_append, List.length_append]
  simp
theorem flat_at {α : Type} {L : List (List α)} {j m : Nat} {l : List α} {x : α} (h : L[j]? = some l) (hx : l[m]? = some x) : L.flatten[(L.take j).flatten.length + m]? = some x := by
  obtain ⟨hj, rfl⟩ := List.getElem?_eq_some_iff.1 h
  have e : L.flatten = (L.take j).flatten ++ (L[j] ++ (L.drop (j + 1)).flatten) := by
    conv => lhs; rw [← List.take_append_drop j L, List.drop_eq_getElem_cons hj]
    rw [List.flatten_append, List.flatten_cons]
  have hm := (List.getElem?_eq_some_iff.1 hx).1
  rw [e, List.getElem?_append_right (Nat.le_add_right _ _), Nat.add_sub_cancel_left, List.getElem?_append_left hm]
  exact hx
theorem Nums.total {k : Nat} {M : Lgr} (h : Nums k M) : M.ts.flatten.length + M.op.length = k := by
  have := congrArg List.length (show (M.ts.flatten ++ M.op).map Prod.fst = (List.range k).map fun i => ((i : Nat) : Int) from h)
  rwa [List.length_map, List.length_append, List.length_map, List.length_range] at this
theorem Nums.at {k : Nat} {M : Lgr} (h : Nums k M) {j : Nat} {l : List Txn} (hl : M.ts[j]? = some l) (m : Nat) (x : Txn) (hx : l[m]? = some x) : x.1 = (((M.ts.take j).flatten.length + m : Nat) : Int) ∧ (M.ts.take j).flatten.length + m < k := by
  have h1 := flat_at hl hx
  have h2 : (M.ts.flatten ++ M.op)[(M.ts.take j).flatten.length + m]? = some x := by rw [List.getElem?_append_left (List.getElem?_eq_some_iff.1 h1).1]; exact h1
  have h3 := congrArg (fun L => L[(M.ts.take j).flatten.length + m]?) (show (M.ts.flatten ++ M.op).map Prod.fst = (List.range k).map fun i => ((i : Nat) : Int) from h)
  simp only [List.getElem?_map, h2, Option.map_some] at h3
  have h4 : (M.ts.take j).flatten.length + m < k := by
    have := h.total
    have := (List.getElem?_eq_some_iff.1 h1).1
    omega
  rw [List.getElem?_range h4] at h3
  exact ⟨Option.some.inj h3, h4⟩
theorem chN_is {w : World} {gv gc : Nat} {k : Int} (hv : Bk w gv #[.int .i64 2, .int .i64 k, .string ⟨#[]⟩] 36) (hc : Bk w gc #[.string ⟨#[120]⟩, .int .i64 1, .slice (some ⟨gv, 0, none⟩) 1 1] 39) : IsD DC w (fun _ => True) (some ⟨gc, 0, none⟩) 1 1 [chN k] :=
  ⟨[((⟨#[120]⟩, 1), ⟨some ⟨gv, 0, none⟩, 1, 1⟩)], (OwnR.ofBlk (E := ECh) (l := [((⟨#[120]⟩, 1), ⟨some ⟨gv, 0, none⟩, 1, 1⟩)]) (n := 1) hc rfl rfl (by omega)).isR, fun _ a ha => by cases ha; trivial,
    RdD.one ⟨rfl, (OwnR.ofBlk (E := EV) (l := [⟨2, k, ⟨#[]⟩⟩]) (n := 1) hv rfl rfl (by omega)).isR.deep (by decide) fun _ a ha => by cases ha; trivial⟩⟩
set_option maxRecDepth 100000 in
set_option maxHeartbeats 4000000 in
theorem ledgerIds_walk (a0 : Int) (a1 : Option Addr) (n1 m1 : Nat) (l1 : List Int) (w : World) (hC : RC w) (_w0 : (Lit.int .i64 a0).wf = true) (hZ : IsR EI w a1 n1 m1 l1) :
    Calls Tryd.prog 3 #[.int .i64 a0, .slice a1 n1 m1] w fun e w' => e = .returned (.bool true) ∧ Below w.heap.size w w' := by
  have hN := wth14_lt a0 30 (by omega)
  obtain ⟨N, hN1⟩ : ∃ N : Nat, wth14 a0 30 = (N : Int) := ⟨(wth14 a0 30).toNat, by omega⟩
  have hN7 : N < 30 := by omega
  have HK := fun a w' => within14_any a 30 w' (by omega) (by omega)
  go_enter Tryd.func3, Tryd.ntmps3
  go_upto_region 4 with (first | (go_at_call 6; refine (known14 w hC).mono ?_; rintro e w1 ⟨rfl, b1⟩) | (go_at_call 7; refine (HK a0 _).mono ?_; rintro e w9 ⟨rfl, rfl⟩))
  try simp only [hN1]
  clear hN
  have P0 : Bk (w1.alloc (.cells #[.int .i64 0, .slice none 0 0, .slice none 0 0, .slice none 0 0] 29)) w1.heap.size #[.int .i64 0, .slice none 0 0, .slice none 0 0, .slice none 0 0] 29 := Bk.new w1 _ _
  have B0 : Below w.heap.size w (w1.alloc (.cells #[.int .i64 0, .slice none 0 0, .slice none 0 0, .slice none 0 0] 29)) := b1.alloc b1.size _
  have hpw := b1.size
  go_upto_region 5 with fail
  obtain ⟨p, hp⟩ : ∃ p, w1.heap.size = p := ⟨_, rfl⟩
  rw [hp] at P0 hpw
  try simp only [hp]
  generalize w1.alloc (.cells #[.int .i64 0, .slice none 0 0, .slice none 0 0, .slice none 0 0] 29) = W at P0 B0 ⊢
  clear hp b1
  have V0 : LVar W p (p + 1) ⟨0, [], [], []⟩ := ⟨_, _, _, _, _, _, _, _, _, P0, ⟨IsD.nil _ _, IsD.nil _ _, IsD.nil _ _⟩⟩
  go_wp2_with fail
  go_loopw [6] (fun i wr => ∃ (k : Nat) (M : Lgr), k ≤ N ∧ i = .int .i64 (k : Nat) ∧ LVar wr p (p + 1) M ∧ LInv k M ∧ Nums k M ∧ Below p W wr) (fun i _ => N - (intOf i).toNat)
  case atStart => exact ⟨0, _, by omega, rfl, V0, LInv.zero, rfl, Below.refl _ _⟩
  case round =>
    obtain ⟨k, M, hk, rfl, ⟨oa, on, oc, ba, bn, bc, ta, tn, tc, P, R⟩, hI, hU, hB⟩ := hrel
    have hpr := P.lt
    have hnk := hI.next
    rw [hnk] at P
    by_cases hkN : k < N
    · have hki : ((k : Int) < (N : Int)) := by omega
      have B1 : Below w.heap.size w wr := B0.trans (hB.mono hpw)
      have BC : Below wr.heap.size wr ((wr.alloc (.cells #[.int .i64 2, .int .i64 (k : Int), .string ⟨#[]⟩] 36)).alloc (.cells #[.string ⟨#[120]⟩, .int .i64 1, .slice (some ⟨wr.heap.size, 0, none⟩) 1 1] 39)) := ((Below.refl _ _).alloc (Nat.le_refl _) _).alloc (by simp) _
      have hV : Bk ((wr.alloc (.cells #[.int .i64 2, .int .i64 k, .string ⟨#[]⟩] 36)).alloc (.cells #[.string ⟨#[120]⟩, .int .i64 1, .slice (some ⟨wr.heap.size, 0, none⟩) 1 1] 39)) wr.heap.size #[.int .i64 2, .int .i64 k, .string ⟨#[]⟩] 36 := (Bk.new wr _ _).alloc _
      have hc : Bk ((wr.alloc (.cells #[.int .i64 2, .int .i64 k, .string ⟨#[]⟩] 36)).alloc (.cells #[.string ⟨#[120]⟩, .int .i64 1, .slice (some ⟨wr.heap.size, 0, none⟩) 1 1] 39)) (wr.heap.size + 1) #[.string ⟨#[120]⟩, .int .i64 1, .slice (some ⟨wr.heap.size, 0, none⟩) 1 1] 39 := by
        have := Bk.new (wr.alloc (.cells #[.int .i64 2, .int .i64 k, .string ⟨#[]⟩] 36)) #[.string ⟨#[120]⟩, .int .i64 1, .slice (some ⟨wr.heap.size, 0, none⟩) 1 1] 39
        rwa [World.size_alloc] at this
      have HC := chN_is hV hc
      have P1 := P.past BC
      have R1 := R.past BC
      have hs1 := BC.size
      obtain ⟨c0, c1, c2, c3⟩ : wr.cell? ⟨p, 0, none⟩ = some (.int .i64 (k : Int)) ∧ wr.cell? ⟨p, 1, none⟩ = some (.slice oa on oc) ∧ wr.cell? ⟨p, 2, none⟩ = some (.slice ba bn bc) ∧ wr.cell? ⟨p, 3, none⟩ = some (.slice ta tn tc) := ⟨P.c rfl, P.c rfl, P.c rfl, P.c rfl⟩
      obtain ⟨f0, f1, f2, f3⟩ : wr.frozen? ⟨p, 0, none⟩ = false ∧ wr.frozen? ⟨p, 1, none⟩ = false ∧ wr.frozen? ⟨p, 2, none⟩ = false ∧ wr.frozen? ⟨p, 3, none⟩ = false := ⟨free_blk P, free_blk P, free_blk P, free_blk P⟩
      have HA := Lib.hid (add_any ((wr.alloc (.cells #[.int .i64 2, .int .i64 k, .string ⟨#[]⟩] 36)).alloc (.cells #[.string ⟨#[120]⟩, .int .i64 1, .slice (some ⟨wr.heap.size, 0, none⟩) 1 1] 39)) ((hC.past B1).past BC) (fun _ => True) (k : Int) oa on oc ba bn bc ta tn tc (some ⟨wr.heap.size + 1, 0, none⟩) 1 1 [chN k] M hnk (by omega) (by omega) (R1.imp fun _ _ _ => trivial) (hI.ok (by omega)) (txN _ _) HC)
      go_upto_region 9 with (go_at_call 8; refine HA.out.mono ?_; rintro e w3 ⟨k0, v, xa, xc, rfl, ⟨oa2, on2, oc2, ba2, bn2, bc2, ta2, tn2, tc2, rfl, L3⟩, o3, b3⟩)
      have hB3 : Below p W w3 := (hB.trans (BC.mono (Nat.le_of_lt hpr))).trans (b3.mono (Nat.le_trans (Nat.le_of_lt hpr) hs1))
      have P3 := P1.past b3
      have hX : p < ((wr.alloc (.cells #[.int .i64 2, .int .i64 (k : Int), .string ⟨#[]⟩] 36)).alloc (.cells #[.string ⟨#[120]⟩, .int .i64 1, .slice (some ⟨wr.heap.size, 0, none⟩) 1 1] 39)).heap.size := Nat.lt_of_lt_of_le hpr hs1
      have hnx : (addL M [chN (k : Int)]).next = (k : Int) + 1 := by rw [addL_next, hnk]
      have hI' : LInv (k + 1) (addL M [chN (k : Int)]) := hI.add _ (txN _ _)
      have hU' : Nums (k + 1) (addL M [chN (k : Int)]) := hU.add hnk _
      obtain ⟨M2, hM2⟩ : ∃ x, addL M [chN (k : Int)] = x := ⟨_, rfl⟩
      rw [hM2] at L3 hnx hI' hU'
      simp only [hM2, hnx]
      have hso := L3.op.len
      have ho4 : (on2 : Int) < 4 := by have := hI'.op; omega
      obtain ⟨X, hXX⟩ : ∃ x, ((wr.alloc (.cells #[.int .i64 2, .int .i64 (k : Int), .string ⟨#[]⟩] 36)).alloc (.cells #[.string ⟨#[120]⟩, .int .i64 1, .slice (some ⟨wr.heap.size, 0, none⟩) 1 1] 39)).heap.size = x := ⟨_, rfl⟩
      rw [hXX] at L3 hX
      obtain ⟨z, hz⟩ : ∃ z, w3.heap.size = z := ⟨_, rfl⟩
      have P4 : Bk ((w3.alloc (.cells #[.int .i64 ((k : Int) + 1), .slice oa2 on2 oc2, .slice ba2 bn2 bc2, .slice ta2 tn2 tc2] 29)).alloc (.cells #[.int .i64 (k : Int), .slice xa 1 xc] 32)) p #[.int .i64 (k : Int), .slice oa on oc, .slice ba bn bc, .slice ta tn tc] 29 := (P3.alloc _).alloc _
      have A4 : Bk ((w3.alloc (.cells #[.int .i64 ((k : Int) + 1), .slice oa2 on2 oc2, .slice ba2 bn2 bc2, .slice ta2 tn2 tc2] 29)).alloc (.cells #[.int .i64 (k : Int), .slice xa 1 xc] 32)) z #[.int .i64 ((k : Int) + 1), .slice oa2 on2 oc2, .slice ba2 bn2 bc2, .slice ta2 tn2 tc2] 29 := by rw [← hz]; exact (Bk.new w3 _ _).alloc _
      have T4 : Bk ((w3.alloc (.cells #[.int .i64 ((k : Int) + 1), .slice oa2 on2 oc2, .slice ba2 bn2 bc2, .slice ta2 tn2 tc2] 29)).alloc (.cells #[.int .i64 (k : Int), .slice xa 1 xc] 32)) (z + 1) #[.int .i64 (k : Int), .slice xa 1 xc] 32 := by
        have := Bk.new (w3.alloc (.cells #[.int .i64 ((k : Int) + 1), .slice oa2 on2 oc2, .slice ba2 bn2 bc2, .slice ta2 tn2 tc2] 29)) #[.int .i64 (k : Int), .slice xa 1 xc] 32
        rwa [World.size_alloc, hz] at this
      have BA : Below w3.heap.size w3 ((w3.alloc (.cells #[.int .i64 ((k : Int) + 1), .slice oa2 on2 oc2, .slice ba2 bn2 bc2, .slice ta2 tn2 tc2] 29)).alloc (.cells #[.int .i64 (k : Int), .slice xa 1 xc] 32)) := ((Below.refl _ _).alloc (Nat.le_refl _) _).alloc (by simp) _
      have L4 := L3.past BA
      have hB4 := hB3.trans (BA.mono (Nat.le_of_lt P3.lt))
      have hpz : p < z := hz ▸ P3.lt
      simp only [hz]
      clear c0 c1 c2 c3 f0 f1 f2 f3 HA HC hV hc P P1 P3 R R1 L3 BA hB hB3 b3 BC hXX hz hU hI hs1 B1 V0 hM2 hso
      generalize ((w3.alloc (.cells #[.int .i64 ((k : Int) + 1), .slice oa2 on2 oc2, .slice ba2 bn2 bc2, .slice ta2 tn2 tc2] 29)).alloc (.cells #[.int .i64 (k : Int), .slice xa 1 xc] 32)) = w4 at P4 A4 T4 L4 hB4 ⊢
      have hzz : some z ≠ some p := fun e => by have := Option.some.inj e; omega
      have hz1 : some (z + 1) ≠ some p := fun e => by have := Option.some.inj e; omega
      obtain ⟨c0, c1, c2, c3⟩ : w4.cell? ⟨p, 0, none⟩ = some (.int .i64 (k : Int)) ∧ w4.cell? ⟨p, 1, none⟩ = some (.slice oa on oc) ∧ w4.cell? ⟨p, 2, none⟩ = some (.slice ba bn bc) ∧ w4.cell? ⟨p, 3, none⟩ = some (.slice ta tn tc) := ⟨P4.c rfl, P4.c rfl, P4.c rfl, P4.c rfl⟩
      obtain ⟨f0, f1, f2, f3⟩ : w4.frozen? ⟨p, 0, none⟩ = false ∧ w4.frozen? ⟨p, 1, none⟩ = false ∧ w4.frozen? ⟨p, 2, none⟩ = false ∧ w4.frozen? ⟨p, 3, none⟩ = false := ⟨free_blk P4, free_blk P4, free_blk P4, free_blk P4⟩
      obtain ⟨e0, e1, e2, e3⟩ : w4.cell? ⟨z, 0, none⟩ = some (.int .i64 ((k : Int) + 1)) ∧ w4.cell? ⟨z, 1, none⟩ = some (.slice oa2 on2 oc2) ∧ w4.cell? ⟨z, 2, none⟩ = some (.slice ba2 bn2 bc2) ∧ w4.cell? ⟨z, 3, none⟩ = some (.slice ta2 tn2 tc2) := ⟨A4.c rfl, A4.c rfl, A4.c rfl, A4.c rfl⟩
      go_upto_region 10 with fail
      have HV := LVar.put (X' := p + 1) P4 L4 hX (by omega)
      rw [hnx] at HV
      obtain ⟨⟨oa5, on5, oc5, ba5, bn5, bc5, ta5, tn5, tc5, P5, R5⟩, HG5⟩ := HV
      rw [hnx] at P5
      have T5 := T4.grown HG5 hz1
      have hB5 := hB4.grown HG5 (Nat.le_of_lt P4.lt) (fun y hy => by cases hy; exact Nat.le_refl _)
      have V5 : LVar ((((w4.setCell ⟨p, 0, none⟩ (.int .i64 ((k : Int) + 1))).setCell ⟨p, 1, none⟩ (.slice oa2 on2 oc2)).setCell ⟨p, 2, none⟩ (.slice ba2 bn2 bc2)).setCell ⟨p, 3, none⟩ (.slice ta2 tn2 tc2)) p (p + 1) M2 := ⟨oa5, on5, oc5, ba5, bn5, bc5, ta5, tn5, tc5, by rw [hnx]; exact P5, R5⟩
      have hso5 := R5.op.len
      have ho5 : ¬ (4 ≤ (on5 : Int)) := by have := hI'.op; omega
      clear c0 c1 c2 c3 f0 f1 f2 f3 e0 e1 e2 e3 P4 A4 T4 L4 hB4 HG5 hso5
      generalize ((((w4.setCell ⟨p, 0, none⟩ (.int .i64 ((k : Int) + 1))).setCell ⟨p, 1, none⟩ (.slice oa2 on2 oc2)).setCell ⟨p, 2, none⟩ (.slice ba2 bn2 bc2)).setCell ⟨p, 3, none⟩ (.slice ta2 tn2 tc2)) = w5 at P5 R5 T5 hB5 V5 ⊢
      obtain ⟨c0, c1, t0⟩ : w5.cell? ⟨p, 0, none⟩ = some (.int .i64 ((k : Int) + 1)) ∧ w5.cell? ⟨p, 1, none⟩ = some (.slice oa5 on5 oc5) ∧ w5.cell? ⟨z + 1, 0, none⟩ = some (.int .i64 (k : Int)) := ⟨P5.c rfl, P5.c rfl, T5.c rfl⟩
      go_upto_region 13 with fail
      clear c0 c1 t0 T5 hk P5 R5
      go_loopw [9] (fun i wq => ∃ (j : Nat) (M3 : Lgr), j ≤ 5 ∧ j ≤ n1 ∧ i = .int .i64 (j : Nat) ∧ LVar wq p (p + 1) M3 ∧ LInv (k + 1) M3 ∧ Nums (k + 1) M3 ∧ Below p W wq) (fun i _ => 5 - (intOf i).toNat)
      case atStart => exact ⟨0, M2, by omega, by omega, rfl, V5, hI', hU', hB5⟩
      case round =>
        obtain ⟨j, M3, hj5, hjn, rfl, V6, hI6, hU6, hB6⟩ := hrel
        clear V5 hI' hU' hB5 ho5
        have hnk3 := hI6.next
        by_cases h1 : j < n1
        · have h1i : ((j : Int) < (n1 : Int)) := by omega
          by_cases h2 : j < 5
          · have h2i : ((j : Int) < 5) := by omega
            obtain ⟨v, hv⟩ : ∃ v, l1[j]? = some v := ⟨l1[j]'(by have := hZ.len; omega), List.getElem?_eq_getElem _⟩
            obtain ⟨gb, off, ha1, hlb, hcl⟩ := hZ.open (by omega) (by decide)
            have hBw := B0.trans (hB6.mono hpw)
            have y0 : wr.cell? ⟨gb, off + j, none⟩ = some (.int .i64 v) := (hBw.cell hlb).trans (hcl j _ (by have := EI.all_get l1 j 0 v hv (by decide); simpa [EI] using this))
            subst ha1
            have HKv := HK v
            obtain ⟨x, hx⟩ : ∃ x, wth14 v 30 = x := ⟨_, rfl⟩
            rw [hx] at HKv
            clear hx hv hcl
            by_cases h3 : x = (k : Int)
            · subst h3
              obtain ⟨oa6, on6, oc6, ba6, bn6, bc6, ta6, tn6, tc6, P6, R6⟩ := V6
              have hn6 : M3.next = (k : Int) + 1 := by rw [hnk3]; rfl
              have hcn : (cls M3).next = (k : Int) + 1 := by rw [hI6.cls.next]; rfl
              rw [hn6] at P6
              have hp6 := P6.lt
              have HCl := Lib.hid (close_any wr (hC.past hBw) (fun j => p + 1 ≤ j) ((k : Int) + 1) oa6 on6 oc6 ba6 bn6 bc6 ta6 tn6 tc6 M3 hn6 R6 (hI6.ok (by omega)))
              obtain ⟨c0, c1, c2, c3⟩ : wr.cell? ⟨p, 0, none⟩ = some (.int .i64 ((k : Int) + 1)) ∧ wr.cell? ⟨p, 1, none⟩ = some (.slice oa6 on6 oc6) ∧ wr.cell? ⟨p, 2, none⟩ = some (.slice ba6 bn6 bc6) ∧ wr.cell? ⟨p, 3, none⟩ = some (.slice ta6 tn6 tc6) := ⟨P6.c rfl, P6.c rfl, P6.c rfl, P6.c rfl⟩
              go_wp2_with (first
                | (go_at_call 7; refine (HKv _).mono ?_; rintro e w9 ⟨rfl, rfl⟩)
                | (go_at_call 9; refine HCl.out.mono ?_; rintro e w7 ⟨v7, rfl, oa7, on7, oc7, ba7, bn7, bc7, ta7, tn7, tc7, rfl, R7, b7⟩; rw [hcn]; have P7 := P6.past b7; obtain ⟨d0, d1, d2, d3⟩ : w7.cell? ⟨p, 0, none⟩ = some (.int .i64 ((k : Int) + 1)) ∧ w7.cell? ⟨p, 1, none⟩ = some (.slice oa6 on6 oc6) ∧ w7.cell? ⟨p, 2, none⟩ = some (.slice ba6 bn6 bc6) ∧ w7.cell? ⟨p, 3, none⟩ = some (.slice ta6 tn6 tc6) := ⟨P7.c rfl, P7.c rfl, P7.c rfl, P7.c rfl⟩; obtain ⟨f0, f1, f2, f3⟩ : w7.frozen? ⟨p, 0, none⟩ = false ∧ w7.frozen? ⟨p, 1, none⟩ = false ∧ w7.frozen? ⟨p, 2, none⟩ = false ∧ w7.frozen? ⟨p, 3, none⟩ = false := ⟨free_blk P7, free_blk P7, free_blk P7, free_blk P7⟩))
              have HV := LVar.put (X' := p + 1) (X := wr.heap.size) (k0 := w7.heap.size) P7 (R7.imp (fun _ hk h => ⟨h, hk⟩)) hp6 hp6
              rw [hcn] at HV
              have hB7 := (hB6.trans (b7.mono (Nat.le_of_lt hp6))).grown HV.2 (Nat.le_of_lt P7.lt) (fun y hy => by cases hy; exact Nat.le_refl _)
              go_roundw
              case rel => exact ⟨j + 1, cls M3, by omega, by omega, by go_num, HV.1, hI6.cls, hU6.cls, hB7⟩
              case measure => simp [intOf]; omega
            · have hbe : (x == (k : Int)) = false := by simpa using h3
              have h3' : ¬ (x = (k : Int)) := h3
              go_wp2_with (go_at_call 7; refine (HKv _).mono ?_; rintro e w9 ⟨rfl, rfl⟩)
              go_roundw
              case rel => exact ⟨j + 1, M3, by omega, by omega, by go_num, V6, hI6, hU6, hB6⟩
              case measure => simp [intOf]; omega
          · have h2i : ¬ ((j : Int) < 5) := by omega
            go_wp2_with fail
            go_roundw
            case rel => exact ⟨k + 1, M3, by omega, by go_num, V6, hI6, hU6, hB6⟩
            case measure => simp [intOf]; omega
        · have h1i : ¬ ((j : Int) < (n1 : Int)) := by omega
          go_wp2_with fail
          go_roundw
          case rel => exact ⟨k + 1, M3, by omega, by go_num, V6, hI6, hU6, hB6⟩
          case measure => simp [intOf]; omega
    · have hki : ¬ ((k : Int) < (N : Int)) := by omega
      obtain rfl : k = N := by omega
      obtain ⟨w5, rfl⟩ : ∃ x, x = wr := ⟨_, rfl⟩
      have B5 : Below w.heap.size w w5 := B0.trans (hB.mono hpw)
      have hC5 := hC.past B5
      clear V0 hB P0 B0 hki
      obtain ⟨d1, d3⟩ : w5.cell? ⟨p, 1, none⟩ = some (.slice oa on oc) ∧ w5.cell? ⟨p, 3, none⟩ = some (.slice ta tn tc) := ⟨P.c rfl, P.c rfl⟩
      have htn := R.ts.len
      have hon := R.op.len
      have hTot := hU.total
      have hts : tn ≤ 100 := by have := hI.ts; have := hI.bl; omega
      go_wp2_with fail
      go_loopw [10, 11] (fun v i wq => ∃ j T : Nat, j ≤ tn ∧ T = (M.ts.take j).flatten.length ∧ v = .int .i64 (T : Nat) ∧ i = .int .i64 (j : Nat) ∧ w5 = wq) (fun _ i _ => tn - (intOf i).toNat)
      case atStart => exact ⟨0, 0, by omega, rfl, rfl, rfl, rfl⟩
      case round =>
        obtain ⟨j, T, hj, hTj, rfl, rfl, hw⟩ := hrel
        subst hw
        have hTk : T ≤ k := by rw [hTj]; exact Nat.le_trans (flat_take_le _ _) (by omega)
        by_cases hjt : j < tn
        · have hji : ((j : Int) < (tn : Int)) := by omega
          obtain ⟨l, hl⟩ : ∃ l, M.ts[j]? = some l := ⟨M.ts[j]'(by omega), List.getElem?_eq_getElem _⟩
          obtain ⟨gt, ot, ⟨a2, n2, c2⟩, hta, hgl, -, hct, hbt⟩ := R.ts.at hl
          have y0 := hct 0 (.slice a2 n2 c2) rfl
          have hbt2 : IsD DT _ _ a2 n2 c2 l := hbt
          have hn2 := hbt2.len
          have hNA := hU.at hl
          rw [← hTj] at hNA
          have hfl := flat_take_next hl
          rw [← hTj] at hfl
          have HTj := Lib.hid hTj
          have HFL := Lib.hid hfl
          clear hTj hfl
          subst hta
          simp only [show DTs.E.sz = 1 from rfl, Nat.mul_one, Nat.add_zero] at y0
          clear hct hbt
          go_wp2_with fail
          go_loopw [10, 12] (fun v i wq => ∃ m U : Nat, m ≤ n2 ∧ U = T + m ∧ v = .int .i64 (U : Nat) ∧ i = .int .i64 (m : Nat) ∧ w5 = wq) (fun _ i _ => n2 - (intOf i).toNat)
          case atStart => exact ⟨0, T, by omega, rfl, rfl, rfl, rfl⟩
          case round =>
            obtain ⟨m, U, hm, hUm, rfl, rfl, hw⟩ := hrel
            subst hw
            by_cases hmn : m < n2
            · have hmi : ((m : Int) < (n2 : Int)) := by omega
              obtain ⟨x, hx⟩ : ∃ x, l[m]? = some x := ⟨l[m]'(by omega), List.getElem?_eq_getElem _⟩
              obtain ⟨hxi, hxk⟩ := hNA m x hx
              obtain ⟨gx, ox, ⟨i1, ⟨a3, n3, c3⟩⟩, hxa, hxl, -, hcx, hbx⟩ := hbt2.at hx
              have y1 := hcx 0 (.int .i64 i1) rfl
              have hi1 : i1 = (U : Nat) := hbx.1.trans (by rw [hxi, hUm])
              have hUk : U < k := by omega
              have HUm := Lib.hid hUm
              rw [hi1] at y1
              simp only [show DT.E.sz = 2 from rfl, Nat.add_zero] at y1
              subst hxa
              clear hcx hbx hi1 hxi hUm hx
              go_wp2_with fail
              go_roundw
              case rel => exact ⟨m + 1, U + 1, by omega, by have := HUm.out; omega, by go_num, by go_num, trivial⟩
              case measure => simp [intOf]; omega
            · have hmi : ¬ ((m : Int) < (n2 : Int)) := by omega
              obtain rfl : m = n2 := by omega
              have HUm := Lib.hid hUm
              clear hUm
              go_wp2_with fail
              go_roundw
              case rel => exact ⟨j + 1, U, by omega, by rw [HFL.out, HUm.out, hn2], rfl, by go_num, trivial⟩
              case measure => simp [intOf]; omega
        · have hji : ¬ ((j : Int) < (tn : Int)) := by omega
          obtain rfl : j = tn := by omega
          rw [List.take_of_length_le (Nat.le_of_eq htn)] at hTj
          have hbe : ((T : Int) + (on : Int) == (k : Int)) = true := by simp; omega
          have hbb : (T : Int) + (on : Int) ≤ 100 := by omega
          have HZ0 : Calls Tryd.prog 9 #[.agg #[.int .i64 0, .slice none 0 0, .slice none 0 0, .slice none 0 0]] w5 (CloseIs w5 ⟨0, [], [], []⟩) := close_any w5 hC5 (fun _ => True) 0 none 0 0 none 0 0 none 0 0 ⟨0, [], [], []⟩ rfl ⟨IsD.nil _ _, IsD.nil _ _, IsD.nil _ _⟩ (LInv.zero.ok (by omega))
          have HZ := Lib.hid HZ0
          clear HZ0 hTj hTot htn hon
          go_wp2_with (go_at_call 9; refine HZ.out.mono ?_; rintro e w7 ⟨v7, rfl, oa7, on7, oc7, ba7, bn7, bc7, ta7, tn7, tc7, rfl, R7, b7⟩; have P7 := P.past b7; have p7 : p < w7.heap.size := P7.lt; have e7 : w7.cell? ⟨p, 1, none⟩ = some (.slice oa on oc) := P7.c rfl)
          go_ret
          exact ⟨rfl, (B5.trans (b7.mono B5.size)).alloc (Nat.le_trans B5.size b7.size) _⟩
end Go.Proofs.YtdmnjjknkcnkgaaDoor
