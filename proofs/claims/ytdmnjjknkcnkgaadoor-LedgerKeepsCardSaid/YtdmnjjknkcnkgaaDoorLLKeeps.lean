/-
  LedgerKeeps (by gen_lkeeps.py).
-/
import Derived.Test.YtdmnjjknkcnkgaaDoorMg17
namespace Go.Proofs.YtdmnjjknkcnkgaaDoor
open Go.RowKit
set_option linter.unusedSimpArgs false
def chG : Chg := ((⟨#[120]⟩, 1), [⟨2, 5, ⟨#[]⟩⟩])
def cL (c : List Chg) : Nat → Lgr
  | 0 => ⟨0, [], [], []⟩
  | k + 1 => addL (cL c k) c
theorem cL_inv (c : List Chg) (hc : ∀ k : Int, TxOk (k, c)) : ∀ k, LInv k (cL c k)
  | 0 => LInv.zero
  | k + 1 => (cL_inv c hc k).add _ (hc _)
/-- All its transactions are of these changes. -/
def AllC (c : List Chg) (M : Lgr) : Prop := (∀ x ∈ M.op, x.2 = c) ∧ ∀ l ∈ M.ts, ∀ x ∈ l, x.2 = c
theorem AllC.add {c : List Chg} {M : Lgr} (h : AllC c M) : AllC c (addL M c) := by
  have hx : ∀ x ∈ M.op ++ [(M.next, c)], x.2 = c := fun x hx => by
    rcases List.mem_append.1 hx with hx | hx
    · exact h.1 x hx
    · rw [List.mem_singleton.1 hx]
  simp only [addL, cls]
  split
  · split
    · exact ⟨hx, h.2⟩
    · refine ⟨fun x hx => by simp at hx, fun l hl => ?_⟩
      rcases List.mem_append.1 hl with hl | hl
      · exact h.2 l hl
      · rw [List.mem_singleton.1 hl]; exact hx
  · exact ⟨hx, h.2⟩
theorem cL_all (c : List Chg) : ∀ k, AllC c (cL c k)
  | 0 => ⟨fun x hx => by simp [cL] at hx, fun x hx => by simp [cL] at hx⟩
  | k + 1 => (cL_all c k).add
theorem txG (k : Int) : TxOk (k, [chG]) := ⟨by simp, fun c hc => by rw [List.mem_singleton.1 hc]; exact ⟨by decide, by decide, fun v hv => by simp only [chG, List.mem_singleton] at hv; rw [hv]; decide⟩⟩
theorem chG_is {w : World} {gv gc : Nat} (hv : Bk w gv #[.int .i64 2, .int .i64 5, .string ⟨#[]⟩] 36) (hc : Bk w gc #[.string ⟨#[120]⟩, .int .i64 1, .slice (some ⟨gv, 0, none⟩) 1 1] 39) : IsD DC w (fun j => j = gv ∨ j = gc) (some ⟨gc, 0, none⟩) 1 1 [chG] :=
  ⟨[((⟨#[120]⟩, 1), ⟨some ⟨gv, 0, none⟩, 1, 1⟩)], (OwnR.ofBlk (E := ECh) (l := [((⟨#[120]⟩, 1), ⟨some ⟨gv, 0, none⟩, 1, 1⟩)]) (n := 1) hc rfl rfl (by omega)).isR, fun _ a ha => by cases ha; exact .inr rfl,
    RdD.one ⟨rfl, (OwnR.ofBlk (E := EV) (l := [⟨2, 5, ⟨#[]⟩⟩]) (n := 1) hv rfl rfl (by omega)).isR.deep (by decide) fun _ a ha => by cases ha; exact .inl rfl⟩⟩
/-- The first change's table, where a transaction of these changes lies. -/
theorem tab_at {w : World} {Q : Nat → Prop} {xa : Option Addr} {xn xc : Nat} (h : IsD DC w Q xa xn xc [chG]) : ∃ g off, xa = some ⟨g, off, none⟩ ∧ xn = 1 ∧ w.cell? ⟨g, off, none⟩ = some (.string ⟨#[120]⟩) := by
  obtain ⟨g, off, b, h1, -, -, hc, hb, -⟩ := h.at (j := 0) (x := chG) rfl
  refine ⟨g, off, h1, h.len.symm, ?_⟩
  have := hc 0 (.string b.1.1) rfl
  rw [hb] at this
  simpa [DC, recD, ECh, chG] using this
set_option maxRecDepth 100000 in
set_option maxHeartbeats 4000000 in
theorem ledgerKeeps_walk (a0 : Int) (w : World) (hC : RC w) (_w0 : (Lit.int .i64 a0).wf = true) :
    Calls Tryd.prog 5 #[.int .i64 a0] w fun e w' => e = .returned (.bool true) ∧ Below w.heap.size w w' := by
  have hN := wth14_lt a0 7 (by omega)
  obtain ⟨N, hN1⟩ : ∃ N : Nat, 1 + wth14 a0 7 = (N : Int) := ⟨(1 + wth14 a0 7).toNat, by omega⟩
  have hN7 : N ≤ 7 := by omega
  have HK := fun w' => within14_any a0 7 w' (by omega) (by omega)
  go_enter Tryd.func5, Tryd.ntmps5
  go_upto_region 4 with (first | (go_at_call 6; refine (known14 w hC).mono ?_; rintro e w1 ⟨rfl, b1⟩) | (go_at_call 7; refine (HK _).mono ?_; rintro e w9 ⟨rfl, rfl⟩))
  try simp only [hN1]
  clear HK hN
  have P0 : Bk (((w1.alloc (.cells #[.int .i64 0, .slice none 0 0, .slice none 0 0, .slice none 0 0] 29)).alloc (.cells #[.int .i64 2, .int .i64 5, .string ⟨#[]⟩] 36)).alloc (.cells #[.string ⟨#[120]⟩, .int .i64 1, .slice (some ⟨w1.heap.size + 1, 0, none⟩) 1 1] 39)) w1.heap.size #[.int .i64 0, .slice none 0 0, .slice none 0 0, .slice none 0 0] 29 := ((Bk.new w1 _ _).alloc _).alloc _
  have hGv : Bk (((w1.alloc (.cells #[.int .i64 0, .slice none 0 0, .slice none 0 0, .slice none 0 0] 29)).alloc (.cells #[.int .i64 2, .int .i64 5, .string ⟨#[]⟩] 36)).alloc (.cells #[.string ⟨#[120]⟩, .int .i64 1, .slice (some ⟨w1.heap.size + 1, 0, none⟩) 1 1] 39)) (w1.heap.size + 1) #[.int .i64 2, .int .i64 5, .string ⟨#[]⟩] 36 := by
    have := Bk.new (w1.alloc (.cells #[.int .i64 0, .slice none 0 0, .slice none 0 0, .slice none 0 0] 29)) #[.int .i64 2, .int .i64 5, .string ⟨#[]⟩] 36
    rw [World.size_alloc] at this
    exact this.alloc _
  have hGc : Bk (((w1.alloc (.cells #[.int .i64 0, .slice none 0 0, .slice none 0 0, .slice none 0 0] 29)).alloc (.cells #[.int .i64 2, .int .i64 5, .string ⟨#[]⟩] 36)).alloc (.cells #[.string ⟨#[120]⟩, .int .i64 1, .slice (some ⟨w1.heap.size + 1, 0, none⟩) 1 1] 39)) (w1.heap.size + 1 + 1) #[.string ⟨#[120]⟩, .int .i64 1, .slice (some ⟨w1.heap.size + 1, 0, none⟩) 1 1] 39 := by
    have := Bk.new ((w1.alloc (.cells #[.int .i64 0, .slice none 0 0, .slice none 0 0, .slice none 0 0] 29)).alloc (.cells #[.int .i64 2, .int .i64 5, .string ⟨#[]⟩] 36)) #[.string ⟨#[120]⟩, .int .i64 1, .slice (some ⟨w1.heap.size + 1, 0, none⟩) 1 1] 39
    rwa [World.size_alloc, World.size_alloc] at this
  have hX : (((w1.alloc (.cells #[.int .i64 0, .slice none 0 0, .slice none 0 0, .slice none 0 0] 29)).alloc (.cells #[.int .i64 2, .int .i64 5, .string ⟨#[]⟩] 36)).alloc (.cells #[.string ⟨#[120]⟩, .int .i64 1, .slice (some ⟨w1.heap.size + 1, 0, none⟩) 1 1] 39)).heap.size = w1.heap.size + 1 + 1 + 1 := by simp only [World.size_alloc]
  have B0 : Below w.heap.size w (((w1.alloc (.cells #[.int .i64 0, .slice none 0 0, .slice none 0 0, .slice none 0 0] 29)).alloc (.cells #[.int .i64 2, .int .i64 5, .string ⟨#[]⟩] 36)).alloc (.cells #[.string ⟨#[120]⟩, .int .i64 1, .slice (some ⟨w1.heap.size + 1, 0, none⟩) 1 1] 39)) := ((b1.alloc b1.size _).alloc (by have := b1.size; simp only [World.size_alloc]; omega) _).alloc (by have := b1.size; simp only [World.size_alloc]; omega) _
  have hpw := b1.size
  go_upto_region 6 with fail
  obtain ⟨p, hp⟩ : ∃ p, w1.heap.size = p := ⟨_, rfl⟩
  obtain ⟨gv, hgv⟩ : ∃ q, p + 1 = q := ⟨_, rfl⟩
  obtain ⟨gc, hgc⟩ : ∃ q, gv + 1 = q := ⟨_, rfl⟩
  simp only [hp, hgv, hgc] at P0 hGv hGc hX B0 hpw ⊢
  generalize (((w1.alloc (.cells #[.int .i64 0, .slice none 0 0, .slice none 0 0, .slice none 0 0] 29)).alloc (.cells #[.int .i64 2, .int .i64 5, .string ⟨#[]⟩] 36)).alloc (.cells #[.string ⟨#[120]⟩, .int .i64 1, .slice (some ⟨gv, 0, none⟩) 1 1] 39)) = W at P0 hGv hGc hX B0 ⊢
  have hpv : p < gv := by omega
  have hvc : gv < gc := by omega
  clear hp hgv hgc b1
  have hCW : RC W := hC.past B0
  have V0 : LVar W p (gc + 1) (cL [chG] 0) := ⟨_, _, _, _, _, _, _, _, _, P0, ⟨IsD.nil _ _, IsD.nil _ _, IsD.nil _ _⟩⟩
  have HG := chG_is hGv hGc
  have Bz : Below W.heap.size W W := Below.refl _ _
  go_wp2_with fail
  go_loopw [5] (fun i wr => ∃ k : Nat, k ≤ N ∧ i = .int .i64 (k : Nat) ∧ LVar wr p (gc + 1) (cL [chG] k) ∧ Bk wr gv #[.int .i64 2, .int .i64 5, .string ⟨#[]⟩] 36 ∧ Bk wr gc #[.string ⟨#[120]⟩, .int .i64 1, .slice (some ⟨gv, 0, none⟩) 1 1] 39 ∧ Below p W wr) (fun i _ => N - (intOf i).toNat)
  case atStart => exact ⟨0, by omega, rfl, V0, hGv, hGc, Below.refl _ _⟩
  case round =>
    obtain ⟨k, hk, rfl, ⟨oa, on, oc, ba, bn, bc, ta, tn, tc, P, R⟩, hv2, hc2, hB⟩ := hrel
    have hpr := P.lt
    have hcr := hc2.lt
    by_cases hkN : k < N
    · have hki : ((k : Int) < (N : Int)) := by omega
      have hI := cL_inv [chG] txG k
      have hCw : RC wr := hC.past (B0.trans (hB.mono hpw))
      have HA := Lib.hid (add_any wr hCw (fun _ => True) (cL [chG] k).next oa on oc ba bn bc ta tn tc (some ⟨gc, 0, none⟩) 1 1 [chG] (cL [chG] k) rfl (by rw [hI.next]; omega) (by rw [hI.next]; omega) (R.imp fun _ _ _ => trivial) (hI.ok (by omega)) (txG _) ((chG_is hv2 hc2).imp fun _ _ _ => trivial))
      obtain ⟨c0, c1, c2, c3⟩ : wr.cell? ⟨p, 0, none⟩ = some (.int .i64 (cL [chG] k).next) ∧ wr.cell? ⟨p, 1, none⟩ = some (.slice oa on oc) ∧ wr.cell? ⟨p, 2, none⟩ = some (.slice ba bn bc) ∧ wr.cell? ⟨p, 3, none⟩ = some (.slice ta tn tc) := ⟨P.c rfl, P.c rfl, P.c rfl, P.c rfl⟩
      obtain ⟨f0, f1, f2, f3⟩ : wr.frozen? ⟨p, 0, none⟩ = false ∧ wr.frozen? ⟨p, 1, none⟩ = false ∧ wr.frozen? ⟨p, 2, none⟩ = false ∧ wr.frozen? ⟨p, 3, none⟩ = false := ⟨free_blk P, free_blk P, free_blk P, free_blk P⟩
      go_wp2_with (go_at_call 8; refine HA.out.mono ?_; rintro e w3 ⟨k0, v, xa, xc, rfl, ⟨oa2, on2, oc2, ba2, bn2, bc2, ta2, tn2, tc2, rfl, L3⟩, o3, b3⟩; have P3 := P.past b3; obtain ⟨d0, d1, d2, d3⟩ : w3.cell? ⟨p, 0, none⟩ = some (.int .i64 (cL [chG] k).next) ∧ w3.cell? ⟨p, 1, none⟩ = some (.slice oa on oc) ∧ w3.cell? ⟨p, 2, none⟩ = some (.slice ba bn bc) ∧ w3.cell? ⟨p, 3, none⟩ = some (.slice ta tn tc) := ⟨P3.c rfl, P3.c rfl, P3.c rfl, P3.c rfl⟩; obtain ⟨u0, u1, u2, u3⟩ : w3.frozen? ⟨p, 0, none⟩ = false ∧ w3.frozen? ⟨p, 1, none⟩ = false ∧ w3.frozen? ⟨p, 2, none⟩ = false ∧ w3.frozen? ⟨p, 3, none⟩ = false := ⟨free_blk P3, free_blk P3, free_blk P3, free_blk P3⟩)
      have HV := LVar.put (X' := gc + 1) P3 L3 (by omega) (by omega)
      have hB3 : Below p W w3 := hB.trans (b3.mono (by omega))
      go_roundw
      case rel => exact ⟨k + 1, by omega, by go_num, HV.1, (hv2.past b3).grown HV.2 (fun e => by have := Option.some.inj e; omega), (hc2.past b3).grown HV.2 (fun e => by have := Option.some.inj e; omega), hB3.grown HV.2 (show p ≤ w3.heap.size from Nat.le_of_lt P3.lt) (fun z hz => by cases hz; exact Nat.le_refl _)⟩
      case measure => simp [intOf]; omega
    · have hki : ¬ ((k : Int) < (N : Int)) := by omega
      obtain rfl : k = N := by omega
      have hA := cL_all [chG] k
      have hI := cL_inv [chG] txG k
      obtain ⟨M, hM⟩ : ∃ M, cL [chG] k = M := ⟨_, rfl⟩
      rw [hM] at P R hA hI
      clear hM V0 HG
      have f0 := free_blk (i := 0) hc2
      have c0 : wr.cell? ⟨gc, 0, none⟩ = some (.string ⟨#[120]⟩) := hc2.c rfl
      go_upto_region 11 with fail
      have g5 := grown_cell (grown_self wr gc) 0 (.string ⟨#[121]⟩)
      have P5 := P.grown g5 (fun e => by have := Option.some.inj e; omega)
      have R5 := R.grown g5 (show ¬ gc + 1 ≤ gc by omega)
      have B5 : Below w.heap.size w (wr.setCell ⟨gc, 0, none⟩ (.string ⟨#[121]⟩)) := (B0.trans (hB.mono hpw)).grown g5 (by omega) (fun z hz => by cases hz; omega)
      generalize wr.setCell ⟨gc, 0, none⟩ (.string ⟨#[121]⟩) = w5 at P5 R5 B5 ⊢
      clear P R hv2 hc2 hB f0 c0 g5
      obtain ⟨d1, d3⟩ : w5.cell? ⟨p, 1, none⟩ = some (.slice oa on oc) ∧ w5.cell? ⟨p, 3, none⟩ = some (.slice ta tn tc) := ⟨P5.c rfl, P5.c rfl⟩
      have htn := R5.ts.len
      have hon := R5.op.len
      have ht7 : tn ≤ 7 := by have := hI.ts; have := hI.bl; omega
      have ho4 : on < 4 := by have := hI.op; omega
      go_wp2_with fail
      go_loopw [6] (fun i wq => ∃ j : Nat, j ≤ tn ∧ i = .int .i64 (j : Nat) ∧ w5 = wq) (fun i _ => tn - (intOf i).toNat)
      case atStart => exact ⟨0, by omega, rfl, rfl⟩
      case round =>
        obtain ⟨j, hj, rfl, hw⟩ := hrel
        subst hw
        by_cases hjt : j < tn
        · have hji : ((j : Int) < (tn : Int)) := by omega
          obtain ⟨l, hl⟩ : ∃ l, M.ts[j]? = some l := ⟨M.ts[j]'(by omega), List.getElem?_eq_getElem _⟩
          have hlm := List.mem_of_getElem? hl
          obtain ⟨gt, ot, ⟨a1, n1, c1⟩, hta, hgl, -, hct, hbt⟩ := R5.ts.at hl
          have y0 := hct 0 (.slice a1 n1 c1) rfl
          have hbt2 : IsD DT _ _ a1 n1 c1 l := hbt
          have hn1 := hbt2.len
          have hn4 : n1 ≤ 4 := by have := (hI.txs l hlm).1; omega
          subst hta
          simp only [show DTs.E.sz = 1 from rfl, Nat.mul_one, Nat.add_zero] at y0
          clear hct hbt
          go_wp2_with fail
          go_loopw [7] (fun i wq => ∃ m : Nat, m ≤ n1 ∧ i = .int .i64 (m : Nat) ∧ w5 = wq) (fun i _ => n1 - (intOf i).toNat)
          case atStart => exact ⟨0, by omega, rfl, rfl⟩
          case round =>
            obtain ⟨m, hm, rfl, hw⟩ := hrel
            subst hw
            by_cases hmn : m < n1
            · have hmi : ((m : Int) < (n1 : Int)) := by omega
              obtain ⟨x, hx⟩ : ∃ x, l[m]? = some x := ⟨l[m]'(by omega), List.getElem?_eq_getElem _⟩
              have hxc := hA.2 l hlm x (List.mem_of_getElem? hx)
              obtain ⟨gx, ox, ⟨i1, ⟨a2, n2, c2⟩⟩, hxa, hxl, -, hcx, hbx⟩ := hbt2.at hx
              have y1 := hcx 1 (.slice a2 n2 c2) rfl
              have hbx2 : IsD DC _ _ a2 n2 c2 x.2 := hbx.2
              rw [hxc] at hbx2
              obtain ⟨gy, oy, hy1, hy2, hy3⟩ := tab_at hbx2
              subst hxa hy1 hy2
              simp only [show DT.E.sz = 2 from rfl] at y1
              rw [← Nat.add_assoc] at y1
              clear hcx hbx hbx2
              go_wp2_with fail
              go_roundw
              case rel => exact ⟨m + 1, by omega, by go_num, trivial⟩
              case measure => simp [intOf]; omega
            · have hmi : ¬ ((m : Int) < (n1 : Int)) := by omega
              go_wp2_with fail
              go_roundw
              case rel => exact ⟨j + 1, by omega, by go_num, trivial⟩
              case measure => simp [intOf]; omega
        · have hji : ¬ ((j : Int) < (tn : Int)) := by omega
          go_wp2_with fail
          go_loopw [8] (fun i wq => ∃ m : Nat, m ≤ on ∧ i = .int .i64 (m : Nat) ∧ w5 = wq) (fun i _ => on - (intOf i).toNat)
          case atStart => exact ⟨0, by omega, rfl, rfl⟩
          case round =>
            obtain ⟨m, hm, rfl, hw⟩ := hrel
            subst hw
            by_cases hmn : m < on
            · have hmi : ((m : Int) < (on : Int)) := by omega
              obtain ⟨x, hx⟩ : ∃ x, M.op[m]? = some x := ⟨M.op[m]'(by omega), List.getElem?_eq_getElem _⟩
              have hxc := hA.1 x (List.mem_of_getElem? hx)
              obtain ⟨gx, ox, ⟨i1, ⟨a2, n2, c2⟩⟩, hxa, hxl, -, hcx, hbx⟩ := R5.op.at hx
              have y1 := hcx 1 (.slice a2 n2 c2) rfl
              have hbx2 : IsD DC _ _ a2 n2 c2 x.2 := hbx.2
              rw [hxc] at hbx2
              obtain ⟨gy, oy, hy1, hy2, hy3⟩ := tab_at hbx2
              subst hxa hy1 hy2
              simp only [show DT.E.sz = 2 from rfl] at y1
              rw [← Nat.add_assoc] at y1
              clear hcx hbx hbx2
              go_wp2_with fail
              go_roundw
              case rel => exact ⟨m + 1, by omega, by go_num, trivial⟩
              case measure => simp [intOf]; omega
            · have hmi : ¬ ((m : Int) < (on : Int)) := by omega
              go_wp2_with fail
              go_ret
              exact ⟨rfl, B5⟩
end Go.Proofs.YtdmnjjknkcnkgaaDoor
