/-
  table.Same.
-/
import Derived.Test.YtppgafnepnkabaaTabS
import Derived.Test.YtppgafnepnkabaaSame
import Derived.Test.YtppgafnepnkabaaSSame
namespace Go.Proofs.Ytppgafnepnkabaa
open Go.RowKit
set_option linter.unusedSimpArgs false
def eqRs : List (List V) → List (List V) → Bool
  | [], [] => true
  | x :: a, y :: b => eqVs x y && eqRs a b
  | _, _ => false
theorem eqRs_iff : ∀ a b : List (List V), eqRs a b = true ↔ a = b
  | [], [] => by simp [eqRs]
  | [], _ :: _ => by simp [eqRs]
  | _ :: _, [] => by simp [eqRs]
  | x :: a, y :: b => by simp only [eqRs, Bool.and_eq_true, eqVs_iff, eqRs_iff a b, List.cons.injEq]
theorem eqRs_len {a b : List (List V)} (h : a.length ≠ b.length) : eqRs a b = false := by
  cases q : eqRs a b
  · rfl
  · exact absurd (congrArg List.length ((eqRs_iff a b).1 q)) h
theorem eqRs_drop (a b : List (List V)) (j : Nat) (x y : List V) (hx : a[j]? = some x) (hy : b[j]? = some y) : eqRs (a.drop j) (b.drop j) = (eqVs x y && eqRs (a.drop (j + 1)) (b.drop (j + 1))) := by
  obtain ⟨h1, rfl⟩ := List.getElem?_eq_some_iff.1 hx
  obtain ⟨h2, rfl⟩ := List.getElem?_eq_some_iff.1 hy
  rw [List.drop_eq_getElem_cons h1, List.drop_eq_getElem_cons h2, eqRs]
set_option maxRecDepth 100000 in
set_option maxHeartbeats 1000000 in
theorem equalRs_any (w : World) (B B' : Nat) (ao : Option Addr) (n c : Nat) (a : List (List V)) (bo : Option Addr) (m d : Nat) (b : List (List V)) (ha : IsRR EV w B ao n c a) (hb : IsRR EV w B' bo m d b) (hn : n ≤ 1000) :
    Calls Try.prog 64 #[.slice ao n c, .slice bo m d, .func (.func 65) #[] #[]] w (Told w (eqRs a b)) := by
  have hla := ha.len
  have hlb := hb.len
  by_cases hnm : n = m
  · subst hnm
    go_enter Try.func64, Try.ntmps64
    go_wp2_with fail
    go_loopw [17] (fun i wr => ∃ j : Nat, j ≤ n ∧ i = .int .i64 (j : Nat) ∧ Below w.heap.size w wr ∧ Hid (eqRs a b = eqRs (a.drop j) (b.drop j))) (fun i _ => n - (intOf i).toNat)
    case atStart => exact ⟨0, by omega, rfl, Below.refl _ _, rfl⟩
    case round =>
      obtain ⟨j, hj, rfl, hB, hc⟩ := hrel
      by_cases hlt : j < n
      · have hlti : (j : Int) < (n : Int) := by omega
        obtain ⟨x, hx⟩ : ∃ x, a[j]? = some x := ⟨a[j]'(by omega), List.getElem?_eq_getElem _⟩
        obtain ⟨y, hy⟩ : ∃ y, b[j]? = some y := ⟨b[j]'(by omega), List.getElem?_eq_getElem _⟩
        obtain ⟨b1, o1, h1, rfl, hb1, c1, i1⟩ := ha.at hx
        obtain ⟨b2, o2, h2, rfl, hb2, c2, i2⟩ := hb.at hy
        rw [← hB.cell hb1] at c1
        rw [← hB.cell hb2] at c2
        have HD := Lib.hid (hc.out.trans (eqRs_drop a b j x y hx hy))
        have HS := same_any _ _ _ _ _ _ _ _ wr (i1.past hB) (i2.past hB)
        obtain ⟨e, he⟩ : ∃ e, eqVs x y = e := ⟨_, rfl⟩
        rw [he] at HS
        have HE := Lib.hid he
        obtain ⟨xa, xn, xc⟩ := h1
        obtain ⟨ya, yn, yc⟩ := h2
        simp only at c1 c2 HS
        clear he hx hy
        cases e with
        | false =>
          go_wp2_with (go_at_call 65; refine HS.mono ?_; rintro en w2 ⟨rfl, b2⟩)
          go_ret
          exact ⟨by rw [HD.out, HE.out]; rfl, hB.trans (b2.mono hB.size)⟩
        | true =>
          go_wp2_with (go_at_call 65; refine HS.mono ?_; rintro en w2 ⟨rfl, b2⟩)
          go_roundw
          case rel => exact ⟨j + 1, by omega, by go_num, hB.trans (b2.mono hB.size), by show _ = _; rw [HD.out, HE.out]; rfl⟩
          case measure => simp [intOf]; omega
      · have hlti : ¬ ((j : Int) < (n : Int)) := by omega
        obtain rfl : j = n := by omega
        have HE : Hid (eqRs a b = true) := by
          show _ = _
          rw [hc.out, List.drop_of_length_le (by omega), List.drop_of_length_le (by omega)]
          rfl
        go_wp2_with fail
        go_ret
        exact ⟨by rw [HE.out]; rfl, hB⟩
  · have hne : ((n : Int) != (m : Int)) = true := by simp; omega
    have HE := Lib.hid (eqRs_len (a := a) (b := b) (by omega))
    go_enter Try.func64, Try.ntmps64
    go_wp2_with fail
    go_ret
    exact ⟨by rw [HE.out]; rfl, Below.refl _ _⟩
set_option maxRecDepth 100000 in
set_option maxHeartbeats 1000000 in
/-- table.Same, of tables of one schema. -/
theorem tsame_any (w : World) (l : List UInt8) (cs : List Co) (cn : Nat) (ky : Int) (only : Bool) (B B' : Nat) (co : Option Addr) (cc : Nat) (ro : Option Addr) (rn rc : Nat) (rs : List (List V)) (co' : Option Addr) (cc' : Nat) (ro' : Option Addr) (rn' rc' : Nat) (rs' : List (List V)) (h : IsT w B co cn cc cs ro rn rc rs) (h' : IsT w B' co' cn cc' cs ro' rn' rc' rs') (hn : rn ≤ 1000) :
    Calls Try.prog 26 #[tbV l co cn cc ky only ro rn rc, tbV l co' cn cc' ky only ro' rn' rc'] w (Told w (eqRs rs rs')) := by
  have hB : Below w.heap.size w ((w.alloc (.cells #[.string (bsOf l), .slice co cn cc, .int .i64 ky, .bool only, .slice ro rn rc] 47)).alloc (.cells #[.string (bsOf l), .slice co' cn cc', .int .i64 ky, .bool only, .slice ro' rn' rc'] 47)) := ((Below.refl _ _).alloc (Nat.le_refl _) _).alloc (by simp) _
  have hT : Bk ((w.alloc (.cells #[.string (bsOf l), .slice co cn cc, .int .i64 ky, .bool only, .slice ro rn rc] 47)).alloc (.cells #[.string (bsOf l), .slice co' cn cc', .int .i64 ky, .bool only, .slice ro' rn' rc'] 47)) w.heap.size (tbC l co cn cc ky only ro rn rc) 47 := (Bk.new w _ _).alloc _
  have hT' : Bk ((w.alloc (.cells #[.string (bsOf l), .slice co cn cc, .int .i64 ky, .bool only, .slice ro rn rc] 47)).alloc (.cells #[.string (bsOf l), .slice co' cn cc', .int .i64 ky, .bool only, .slice ro' rn' rc'] 47)) (w.heap.size + 1) (tbC l co' cn cc' ky only ro' rn' rc') 47 := by
    have := Bk.new (w.alloc (.cells #[.string (bsOf l), .slice co cn cc, .int .i64 ky, .bool only, .slice ro rn rc] 47)) #[.string (bsOf l), .slice co' cn cc', .int .i64 ky, .bool only, .slice ro' rn' rc'] 47
    rwa [World.size_alloc] at this
  unfold tbV
  go_enter Try.func26, Try.ntmps26
  go_upto_region 1 with fail
  generalize (w.alloc (.cells #[.string (bsOf l), .slice co cn cc, .int .i64 ky, .bool only, .slice ro rn rc] 47)).alloc (.cells #[.string (bsOf l), .slice co' cn cc', .int .i64 ky, .bool only, .slice ro' rn' rc'] 47) = W at hB hT hT' ⊢
  have hS := sameC_any W l l co co' cn cn cc cc' cs cs ky ky only only (h.cols.past hB) (h'.cols.past hB)
  have e : sameS l l cs cs ky ky only only = true := by simp [sameS]
  rw [e] at hS
  unfold scV at hS
  have HSS := Lib.hid hS
  clear e hS
  obtain ⟨p, hp⟩ : ∃ p, w.heap.size = p := ⟨_, rfl⟩
  have HP := Lib.hid hp
  obtain ⟨q, hq⟩ : ∃ q, p + 1 = q := ⟨_, rfl⟩
  simp only [hp, hq] at hT hT' ⊢
  have hpW : p ≤ W.heap.size := Nat.le_of_lt hT.lt
  have hB2 : Below p w W := by rw [← hp]; exact hB
  clear hp hq
  obtain ⟨t0, t1, t2, t3, t4⟩ := tb_cells hT
  obtain ⟨u0, u1, u2, u3, u4⟩ := tb_cells hT'
  have hE := fun (w' : World) (hb : Below W.heap.size W w') => equalRs_any w' B B' ro rn rc rs ro' rn' rc' rs' ((h.rows.past hB).past hb) ((h'.rows.past hB).past hb) hn
  go_wp2_with (first
    | (go_at_call 63; refine HSS.out.mono ?_; rintro en w1 ⟨rfl, b1⟩; have v4 : w1.cell? ⟨p, 4, none⟩ = some (.slice ro rn rc) := (hT.past b1).c rfl; have x4 : w1.cell? ⟨q, 4, none⟩ = some (.slice ro' rn' rc') := (hT'.past b1).c rfl)
    | (go_at_call 64; refine (hE _ b1).mono ?_; rintro en w2 ⟨rfl, b2⟩))
  go_ret
  exact ⟨rfl, by rw [HP.out]; exact (hB2.trans (b1.mono hpW)).trans (b2.mono (Nat.le_trans hpW b1.size))⟩
end Go.Proofs.Ytppgafnepnkabaa
