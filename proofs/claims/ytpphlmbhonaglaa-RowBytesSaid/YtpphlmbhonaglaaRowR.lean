/-
  row.Parse.
-/
import Derived.Test.YtpphlmbhonaglaaRowQ
import Derived.Deep.RegionHeld3
import Derived.Deep.DeepCutAuto
namespace Go.Proofs.Ytpphlmbhonaglaa
open Go.RowKit

/-- What the bytes b are read as: how many, what is left behind how many, the values, the error behind all of them. -/
def pN (b : List UInt8) : Nat := (upV 6 b 0).toNat
def pE (b : List UInt8) : Int := endE (rLs (pN b) (dN 1 b 0) (upE 6 4 b 0)) (rEs (pN b) (dN 1 b 0) (upE 6 4 b 0))
def pV (b : List UInt8) : List V := rVs (pN b) (dN 1 b 0) (upE 6 4 b 0)
def V.chk (v : V) : Int := chkV v.k v.n v.s
def chkAll : List V → Int
  | [] => 0
  | v :: r => if v.chk = 0 then chkAll r else v.chk
/-- What Parse answers: its error, its values. -/
def parE (b : List UInt8) : Int := if pE b = 0 then chkAll (pV b) else pE b
def parV (b : List UInt8) : List V := if parE b = 0 then pV b else []
theorem chkAll_drop (l : List V) (j : Nat) (v : V) (h : l[j]? = some v) : chkAll (l.drop j) = if v.chk = 0 then chkAll (l.drop (j + 1)) else v.chk := by
  obtain ⟨hj, rfl⟩ := List.getElem?_eq_some_iff.1 h
  rw [List.drop_eq_getElem_cons hj]
  rfl
theorem check_v (v : V) (w : World) : Calls Try.prog 35 #[v.val] w fun e w' => e = .returned (.int .i64 v.chk) ∧ Below w.heap.size w w' := check_any v.k v.n v.s w
theorem Rd.drew {w : World} {g : Nat} {D : Option Nat} {l : List UInt8} {e : Int} (h : Rd w g D l e) : Rd w.drew g D l e := h.below (Below.refl _ _).drew
/-- A row is answered, or none, and the error; nothing that was there has changed. -/
def Parsed (w : World) (vs : List V) (e : Int) (en : Ending) (w' : World) : Prop :=
  ∃ ao n cap, en = .returned (.tuple #[.slice ao n cap, .int .i64 e]) ∧ IsR EV w' ao n cap vs ∧ Below w.heap.size w w' ∧ ∀ a, ao = some a → w.heap.size ≤ a.block
set_option maxRecDepth 100000 in
set_option maxHeartbeats 1000000 in
theorem parse_gen (ao : Option Addr) (n cap : Nat) (b l1 : List UInt8) (e1 : Int) (k : Nat) (E : Int) (vs AV : List V) (AE : Int) (w : World) (h : IsB w ao n cap b) (hn : n ≤ 1000000) (hk : k ≤ 6)
    (HU : ∀ (g : Nat) (D : Option Nat) (w : World), Rd w g D b 0 → Calls Try.prog 32 #[.agg #[.pointer (some ⟨g, 0, none⟩)], .int .i64 6, .int .i64 4] w (Said w g D (k : Nat) l1 e1))
    (hE : Hid (E = endE (rLs k l1 e1) (rEs k l1 e1))) (hV : Hid (vs = rVs k l1 e1)) (A1 : Hid (E ≠ 0 → AE = E ∧ AV = [])) (A2 : Hid (E = 0 → AE = chkAll vs ∧ (AE = 0 → AV = vs) ∧ (AE ≠ 0 → AV = []))) :
    Calls Try.prog 14 #[.slice ao n cap] w (Parsed w AV AE) := by
  have hmf : ∀ (fn : Fn) (first cap : Array Value) (w : World), (Instr.makeFunc fn first cap).run Try.prog w = .ok (.func fn first cap) w := fun _ _ _ _ => rfl
  go_enter Try.func14, Try.ntmps14
  go_wp2_with (go_at_call 30; (with_reducible refine (new_any ao n cap b _ h hn).mono ?_); rintro en w1 ⟨g, D, rfl, R1, b1, q1, d1⟩)
  have R2 := (R1.below ((Below.refl w1.heap.size w1).alloc (Nat.le_refl _) (.cells #[.pointer (some ⟨g, 0, none⟩)] 57)))
  have cb : (w1.alloc (.cells #[.pointer (some ⟨g, 0, none⟩)] 57)).cell? ⟨w1.heap.size, 0, none⟩ = some (.pointer (some ⟨g, 0, none⟩)) := by go_simp
  have s1 : (w1.alloc (.cells #[.pointer (some ⟨g, 0, none⟩)] 57)).heap.size = w1.heap.size + 1 := by simp
  have B2 := b1.alloc b1.size (.cells #[.pointer (some ⟨g, 0, none⟩)] 57)
  have hgl := R1.lt
  have hne : some (w1.heap.size) ≠ some g := fun q => by have := Option.some.inj q; omega
  have hD : ∀ x, D = some x → x < w1.heap.size + 1 := fun x hx => by have := (d1 x hx).2; omega
  generalize (w1.alloc (.cells #[.pointer (some ⟨g, 0, none⟩)] 57)) = w2 at R2 cb s1 B2 ⊢
  have R3 := R2.drew
  replace HU := HU g D
  go_cut [5] from 13 to 17 (fun v wx => ∃ g5, v = .slice (some ⟨g5, 0, none⟩) k k ∧ OwnR EV wx 39 g5 k k vs ∧ Rd wx g D (rLs k l1 e1) (rEs k l1 e1) ∧ Below w.heap.size w wx ∧ wx.cell? ⟨w1.heap.size, 0, none⟩ = some (.pointer (some ⟨g, 0, none⟩)) ∧ w.heap.size ≤ g5)
  case first =>
    go_region_held3 (fun w' => w'.cell? ⟨w1.heap.size, 0, none⟩ = some (.pointer (some ⟨g, 0, none⟩))) (go_keep)
      (first
        | (go_at_call 32; (with_reducible refine (HU _ ?_).mono ?_); exact R3; rintro en w3 ⟨rfl, R4, k4⟩; have c4 := k4.cell cb (fun h => hne h))
        | (go_at_call 31; (with_reducible refine (several_any g D k _ rfl (by omega) _ _ _ R4 ?_).mono ?_); (intro x hx; have := hD x hx; have := k4.size; simp at this; omega); rintro en w5 ⟨g5, rfl, o5, R5, k5, q5⟩; have c5 := k5.cell c4 (fun h => hne h)))
    all_goals
      go_wp2_with fail
      go_meet
      have B5 := ((B2.drew.trans (grown_below k4 q1 B2.drew.size)).trans (grown_below k5 q1 (Nat.le_trans B2.drew.size k4.size)))
      rw [← hV.out] at o5
      exact ⟨g5, rfl, o5, R5, B5, c5, Nat.le_trans (Nat.le_trans B2.drew.size k4.size) q5⟩
  case rest =>
    obtain ⟨g5, rfl, o5, R5, B5, c5, G5⟩ := hcut
    have HEND := rEnd_any g D (rLs k l1 e1) (rEs k l1 e1) _ R5
    rw [← hE.out] at HEND
    clear R5 R3 R2 HU cb h hD d1 R1 hne hE hV hmf
    by_cases hE0 : E = 0
    · obtain ⟨p1, p2, p3⟩ := A2.out hE0
      have P1 := Lib.hid p1
      have P2 := Lib.hid p2
      have P3 := Lib.hid p3
      clear A1 A2 p1 p2 p3
      subst hE0
      go_wp2_with (go_at_call 34; (with_reducible refine HEND.mono ?_); rintro en w' ⟨rfl, rfl⟩)
      clear HEND c5
      go_loopw [26] (fun i wr => ∃ j : Nat, j ≤ k ∧ i = .int .i64 (j : Nat) ∧ OwnR EV wr 39 g5 k k vs ∧ Below w.heap.size w wr ∧ Hid (chkAll vs = chkAll (vs.drop j))) (fun i _ => k - (intOf i).toNat)
      case atStart => exact ⟨0, by omega, rfl, o5, B5, rfl⟩
      case round =>
        obtain ⟨j, hj, rfl, ho, hB, hc⟩ := hrel
        clear o5 B5
        have hvl := ho.len
        by_cases hlt : j < k
        · obtain ⟨v, hv⟩ : ∃ v, vs[j]? = some v := ⟨vs[j]'(by omega), List.getElem?_eq_getElem _⟩
          have hcj := chkAll_drop vs j v hv
          have hcell : ∀ i u, (EV.all vs)[i]? = some u → wr.cell? ⟨g5, 0 + i, none⟩ = some u := fun i u hu => by rw [Nat.zero_add]; exact ho.cell i u hu
          obtain ⟨c0, c1, c2⟩ := cells_v hcell j v hv
          rw [Nat.zero_add] at c0 c1 c2
          have HC := check_v v
          obtain ⟨vk, vn, vs'⟩ := v
          simp only at c0 c1 c2
          simp only [V.val] at HC
          clear hcell hv
          by_cases hz : V.chk ⟨vk, vn, vs'⟩ = 0
          · rw [if_pos hz] at hcj
            rw [hz] at HC
            have HJ := Lib.hid (hc.out.trans hcj)
            clear hcj hz
            go_wp2_with (go_at_call 35; (with_reducible refine (HC _).mono ?_); rintro en w6 ⟨rfl, b6⟩; have X := Below.alloc (Below.refl wr.heap.size wr) (Nat.le_refl _) (.cells #[.int .i64 vk, .int .i64 vn, .string vs'] 39); have B6 := X.trans (b6.mono X.size))
            go_roundw
            case rel => exact ⟨j + 1, by omega, by go_num, ho.past B6, hB.trans (B6.mono hB.size), HJ⟩
            case measure => simp [intOf]; omega
          · rw [if_neg hz] at hcj
            have HJ := Lib.hid (hc.out.trans hcj)
            generalize V.chk ⟨vk, vn, vs'⟩ = x at HC hz HJ
            have hx : (x != 0) = true := by simp [hz]
            clear hcj
            go_wp2_with (go_at_call 35; (with_reducible refine (HC _).mono ?_); rintro en w6 ⟨rfl, b6⟩; have X := Below.alloc (Below.refl wr.heap.size wr) (Nat.le_refl _) (.cells #[.int .i64 vk, .int .i64 vn, .string vs'] 39); have B6 := X.trans (b6.mono X.size))
            go_ret2
            have e0 : AE = x := P1.out.trans HJ.out
            subst e0
            rw [P3.out hz]
            exact ⟨none, 0, 0, rfl, IsR.nilR _, hB.trans (B6.mono hB.size), fun a h => by cases h⟩
        · obtain rfl : j = k := by omega
          rw [List.drop_eq_nil_of_le (by omega)] at hc
          have h0 : AE = 0 := P1.out.trans hc.out
          go_wp2_with fail
          go_ret2
          subst h0
          rw [P2.out rfl]
          exact ⟨some ⟨g5, 0, none⟩, j, j, rfl, ho.isR, hB, fun a h => by cases h; exact G5⟩
    · have hx : (E != 0) = true := by simp [hE0]
      obtain ⟨rfl, rfl⟩ := A1.out hE0
      clear A1 A2
      go_wp2_with (go_at_call 34; (with_reducible refine HEND.mono ?_); rintro en w' ⟨rfl, rfl⟩)
      go_ret2
      exact ⟨none, 0, 0, rfl, IsR.nilR _, B5, fun a h => by cases h⟩
theorem parse_any (ao : Option Addr) (n cap : Nat) (b : List UInt8) (w : World) (h : IsB w ao n cap b) (hn : n ≤ 1000000) :
    Calls Try.prog 14 #[.slice ao n cap] w (Parsed w (parV b) (parE b)) := by
  have z0 := upV_lo 6 b 0 (by omega)
  have hpn : upV 6 b 0 = ((pN b : Nat) : Int) := by unfold pN; omega
  refine parse_gen ao n cap b (dN 1 b 0) (upE 6 4 b 0) (pN b) (pE b) (pV b) (parV b) (parE b) w h hn (by unfold pN; omega) (fun g D w hr => ?_) rfl rfl (fun h0 => ?_) (fun h0 => ?_)
  · rw [← hpn]
    exact upTo_any g D b 0 6 4 w hr
  · have e : parE b = pE b := by unfold parE; rw [if_neg h0]
    exact ⟨e, by unfold parV; rw [e, if_neg h0]⟩
  · refine ⟨by unfold parE; rw [if_pos h0], fun h1 => by unfold parV; rw [if_pos h1], fun h1 => by unfold parV; rw [if_neg h1]⟩
end Go.Proofs.Ytpphlmbhonaglaa
