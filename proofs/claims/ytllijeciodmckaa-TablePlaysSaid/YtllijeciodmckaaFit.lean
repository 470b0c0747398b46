/-
  The laws' rows that fit a schema.
-/
import Derived.Test.YtllijeciodmckaaLaw10
import Derived.OpenShut
namespace Go.Proofs.Ytllijeciodmckaa
open Go.RowKit
set_option linter.unusedSimpArgs false
theorem TxtR.lower {α : Type} {E : Enc α} {w : World} {e : TypeId} {B B' : Nat} {ao : Option Addr} {n c : Nat} {l : List α} (h : TxtR E w e B ao n c l) (hB : B' ≤ B) : TxtR E w e B' ao n c l := by
  rcases h.either with h | ⟨g, rfl, o, hg⟩
  · exact ⟨.inl h⟩
  · exact ⟨.inr ⟨g, rfl, o, Nat.le_trans hB hg⟩⟩
def abcS : ByteArray := ⟨#[97, 98, 99, 100, 101, 102, 103, 104, 105, 106, 107, 108, 109, 110, 111, 112, 113, 114, 115, 116, 117, 118, 119, 120, 121, 122]⟩
def fitN (n : Int) (i : Nat) : Int := wth (n.tdiv (1 + 3 * (i : Int))) 40 - 5
def fitVal (n : Int) (i : Nat) (c : Co) : V :=
  if c.null = true ∧ wth n 5 = 0 then V0 else if c.kind = 1 then ⟨1, wth (fitN n i) 2, ⟨#[]⟩⟩ else if c.kind = 2 then ⟨2, fitN n i, ⟨#[]⟩⟩ else ⟨3, 0, abcS.extract 0 (wth (fitN n i) 9).toNat⟩
def fitRow (cs : List Co) (n : Int) : List V := cs.mapIdx (fitVal n)
theorem fitRow_len (cs : List Co) (n : Int) : (fitRow cs n).length = cs.length := by simp [fitRow]
theorem fitRow_get {cs : List Co} {n : Int} {i : Nat} {c : Co} (h : cs[i]? = some c) : (fitRow cs n)[i]? = some (fitVal n i c) := by simp [fitRow, h]
theorem tdiv_in {n d : Int} (hd : 1 ≤ d) (h1 : -9223372036854775808 ≤ n) (h2 : n ≤ 9223372036854775807) : -9223372036854775808 ≤ n.tdiv d ∧ n.tdiv d ≤ 9223372036854775807 := by
  have h := Int.natAbs_tdiv_le_natAbs n d
  rcases Int.le_total 0 n with hn | hn
  · have := Int.tdiv_nonneg hn (by omega : 0 ≤ d)
    omega
  · have h3 := Int.tdiv_nonneg (a := -n) (b := d) (by omega) (by omega)
    rw [Int.neg_tdiv] at h3
    omega
set_option maxRecDepth 100000 in
set_option maxHeartbeats 4000000 in
theorem fit_any (w : World) (l : List UInt8) (ao : Option Addr) (n c : Nat) (cs : List Co) (key : Int) (only : Bool) (h : IsR encCo w ao n c cs) (hn : n ≤ 100) (hk : ∀ x ∈ cs, x.kind = 1 ∨ x.kind = 2 ∨ x.kind = 3) (nn : Int) (hwf : (Lit.int .i64 nn).wf = true) :
    Calls Try.prog 18 #[scV l ao n c key only, .int .i64 nn] w fun e w' => ∃ ao' c', e = .returned (.slice ao' n c') ∧ TxtR EV w' 55 w.heap.size ao' n c' (fitRow cs nn) ∧ Below w.heap.size w w' := by
  have hln := h.len
  have hfl := fitRow_len cs nn
  have hw1 : -9223372036854775808 ≤ nn ∧ nn ≤ 9223372036854775807 := bounds_i64 hwf
  unfold scV
  have X := ScB.new w l ao n c key only
  have B := (Below.refl w.heap.size w).alloc (Nat.le_refl _) (.cells #[.string (bsOf l), .slice ao n c, .int .i64 key, .bool only] 40)
  go_enter Try.func18, Try.ntmps18
  go_upto_region 1 with fail
  generalize w.alloc (.cells #[.string (bsOf l), .slice ao n c, .int .i64 key, .bool only] 40) = W at X B ⊢
  obtain ⟨p, hp⟩ : ∃ p, w.heap.size = p := ⟨_, rfl⟩
  have HP := Lib.hid hp
  rw [hp] at X B
  simp only [hp]
  clear hp
  go_wp2_with fail
  go_loopw [5, 6] (fun r i wr => ∃ (j : Nat) (ra : Option Addr) (rc : Nat), j ≤ n ∧ i = .int .i64 (j : Nat) ∧ r = .slice ra j rc ∧ TxtR EV wr 55 W.heap.size ra j rc ((fitRow cs nn).take j) ∧ Below W.heap.size W wr) (fun _ i _ => n - (intOf i).toNat)
  case atStart => exact ⟨0, none, 0, Nat.zero_le _, rfl, rfl, TxtR.nil _ _ _, Below.refl _ _⟩
  case round =>
    obtain ⟨j, ra, rc, hj, rfl, rfl, hT, hB⟩ := hrel
    have y1 : wr.cell? ⟨p, 1, none⟩ = some (.slice ao n c) := cell_blk (X.past hB) rfl
    have hpw : p < wr.heap.size := (X.past hB).lt
    by_cases hlt : j < n
    · have hlti : (j : Int) < (n : Int) := by omega
      have h3j : (3 : Int) * (j : Int) ≤ 300 := by omega
      have hD0 : ((1 + 3 * (j : Int)) == 0) = false := by simp; omega
      have hDp : ¬ (1 + 3 * (j : Int) = 0) := by omega
      obtain ⟨hq1, hq2⟩ := tdiv_in (d := 1 + 3 * (j : Int)) (by omega) hw1.1 hw1.2
      obtain ⟨kx, hkx, hkl⟩ := wth_of (nn.tdiv (1 + 3 * (j : Int))) 40 (by omega)
      have HWa := fun w => within10_any (nn.tdiv (1 + 3 * (j : Int))) 40 w (by omega) (by omega)
      have HF : Hid (fitN nn j = (kx : Int) - 5) := by
        show _ = _
        unfold fitN
        rw [hkx]
      rw [hkx] at HWa
      clear hkx
      go_upto_region 6 with (go_at_call 19; refine (HWa _).mono ?_; rintro e w' ⟨rfl, rfl⟩)
      obtain ⟨v, hv⟩ : ∃ v, cs[j]? = some v := ⟨cs[j]'(by omega), List.getElem?_eq_getElem _⟩
      obtain ⟨bb, off, rfl, hbb, hcell⟩ := h.open (by omega) (by decide)
      obtain ⟨-, c1, c2⟩ := cells_co hcell j v hv
      have BB := B.trans (hB.mono (Nat.le_of_lt X.lt))
      have hbw : bb < p := by
        have := HP.out
        omega
      rw [← BB.cell hbw] at c1 c2
      have hbw2 : bb < wr.heap.size := by omega
      have hkv := hk v (List.mem_of_getElem? hv)
      have hget := fitRow_get (n := nn) hv
      have hnxt : (fitRow cs nn).take (j + 1) = (fitRow cs nn).take j ++ [fitVal nn j v] := by
        obtain ⟨h1, h2⟩ := List.getElem?_eq_some_iff.1 hget
        rw [List.take_succ_eq_append_getElem h1, h2]
      have HNX := Lib.hid hnxt
      obtain ⟨n5, hn5, hn5l⟩ := wth_of nn 5 (by omega)
      have HW5 := fun w => within10_any nn 5 w (by omega) (by omega)
      obtain ⟨m2, hm2, hm2l⟩ := wth_of ((kx : Int) - 5) 2 (by omega)
      have HW2 := fun w => within10_any ((kx : Int) - 5) 2 w (by omega) (by omega)
      obtain ⟨m9, hm9, hm9l⟩ := wth_of ((kx : Int) - 5) 9 (by omega)
      have HW9 := fun w => within10_any ((kx : Int) - 5) 9 w (by omega) (by omega)
      have hFV : Hid (fitVal nn j v = if v.null = true ∧ n5 = 0 then V0 else if v.kind = 1 then ⟨1, (m2 : Int), ⟨#[]⟩⟩ else if v.kind = 2 then ⟨2, (kx : Int) - 5, ⟨#[]⟩⟩ else ⟨3, 0, abcS.extract 0 m9⟩) := by
        show _ = _
        unfold fitVal
        rw [HF.out, hn5, hm2, hm9, Int.toNat_natCast]
        simp only [Int.natCast_eq_zero]
      rw [hn5] at HW5
      rw [hm2] at HW2
      rw [hm9] at HW9
      have hm9b : (m9 : Int) ≤ 26 := by omega
      obtain ⟨vn, vk, vb⟩ := v
      simp only at c1 c2 hkv hFV HNX
      have BW : ∀ k m s, Below W.heap.size W (wr.alloc (.cells #[.int .i64 k, .int .i64 m, .string s] 55)) := fun k m s => hB.alloc hB.size _
      have hTp : ∀ k m s, TxtR EV ((wr.alloc (.cells #[.int .i64 k, .int .i64 m, .string s] 55)).alloc (.cells #[.int .i64 k, .int .i64 m, .string s] 55)) 55 W.heap.size ra j rc ((fitRow cs nn).take j) := fun k m s => (hT.past ((Below.refl _ _).alloc (Nat.le_refl _) _)).past ((Below.refl _ _).alloc (Nat.le_refl _) _)
      have hLit : ∀ k m s, IsR EV ((wr.alloc (.cells #[.int .i64 k, .int .i64 m, .string s] 55)).alloc (.cells #[.int .i64 k, .int .i64 m, .string s] 55)) (some ⟨wr.heap.size + 1, 0, none⟩) 1 1 [⟨k, m, s⟩] := fun k m s => by
        have := oneV_lit (wr.alloc (.cells #[.int .i64 k, .int .i64 m, .string s] 55)) k m s
        rwa [World.size_alloc] at this
      have HT := Lib.hid hTp
      have HL := Lib.hid hLit
      have HBW := Lib.hid BW
      have hWr := hB.size
      have HSZ : Hid (∀ k m s, W.heap.size ≤ ((wr.alloc (.cells #[.int .i64 k, .int .i64 m, .string s] 55)).alloc (.cells #[.int .i64 k, .int .i64 m, .string s] 55)).heap.size) := fun k m s => by simp; omega
      have HFIN : Hid (∀ k m s w3, Below W.heap.size ((wr.alloc (.cells #[.int .i64 k, .int .i64 m, .string s] 55)).alloc (.cells #[.int .i64 k, .int .i64 m, .string s] 55)) w3 → Below W.heap.size W w3) := fun k m s w3 b3 => ((BW k m s).alloc (BW k m s).size _).trans b3
      clear hTp hLit BW hn5 hm2 hm9 hget hnxt hv hcell
      rcases hkv with rfl | rfl | rfl
      · cases vb
        · have hE : fitVal nn j ⟨vn, 1, false⟩ = ⟨1, (m2 : Int), ⟨#[]⟩⟩ := by rw [hFV.out]; simp
          have HE := Lib.hid hE
          clear hE
          go_wp2_with (first
            | (go_at_call 19; (with_reducible refine (HW2 _).mono ?_); rintro e w' ⟨rfl, rfl⟩)
            | (at_builtin; refine wpList_append_txtR rfl _ _ 49 49 rfl 55 rowTyV W.heap.size ra j rc _ rfl (HT.out 1 (m2 : Int) ⟨#[]⟩) (HSZ.out _ _ _) _ rfl 1 [⟨1, (m2 : Int), ⟨#[]⟩⟩] ((HL.out 1 (m2 : Int) ⟨#[]⟩).src Try.underlying49) rfl (by omega) ?_; intro a3 c3 w3 o3 b3))
          go_roundw
          case rel => exact ⟨j + 1, a3, c3, by omega, by go_num, rfl, by rw [HNX.out, HE.out]; exact o3, HFIN.out 1 (m2 : Int) ⟨#[]⟩ w3 b3⟩
          case measure => simp [intOf]; omega
        · by_cases hz : n5 = 0
          · have hzb : ((n5 : Int) == 0) = true := by simp [hz]
            have hE : fitVal nn j ⟨vn, 1, true⟩ = ⟨0, 0, ⟨#[]⟩⟩ := by rw [hFV.out]; simp [hz, V0]
            have HE := Lib.hid hE
            clear hE
            go_wp2_with (first
              | (go_at_call 19; (with_reducible refine (HW2 _).mono ?_); rintro e w' ⟨rfl, rfl⟩)
              | (go_at_call 19; (with_reducible refine (HW5 _).mono ?_); rintro e w' ⟨rfl, rfl⟩)
              | (at_builtin; refine wpList_append_txtR rfl _ _ 49 49 rfl 55 rowTyV W.heap.size ra j rc _ rfl (HT.out 0 0 ⟨#[]⟩) (HSZ.out _ _ _) _ rfl 1 [⟨0, 0, ⟨#[]⟩⟩] ((HL.out 0 0 ⟨#[]⟩).src Try.underlying49) rfl (by omega) ?_; intro a3 c3 w3 o3 b3))
            go_roundw
            case rel => exact ⟨j + 1, a3, c3, by omega, by go_num, rfl, by rw [HNX.out, HE.out]; exact o3, HFIN.out 0 0 ⟨#[]⟩ w3 b3⟩
            case measure => simp [intOf]; omega
          · have hzb : ((n5 : Int) == 0) = false := by simp [hz]
            have hE : fitVal nn j ⟨vn, 1, true⟩ = ⟨1, (m2 : Int), ⟨#[]⟩⟩ := by rw [hFV.out]; simp [hz]
            have HE := Lib.hid hE
            clear hE
            go_wp2_with (first
              | (go_at_call 19; (with_reducible refine (HW2 _).mono ?_); rintro e w' ⟨rfl, rfl⟩)
              | (go_at_call 19; (with_reducible refine (HW5 _).mono ?_); rintro e w' ⟨rfl, rfl⟩)
              | (at_builtin; refine wpList_append_txtR rfl _ _ 49 49 rfl 55 rowTyV W.heap.size ra j rc _ rfl (HT.out 1 (m2 : Int) ⟨#[]⟩) (HSZ.out _ _ _) _ rfl 1 [⟨1, (m2 : Int), ⟨#[]⟩⟩] ((HL.out 1 (m2 : Int) ⟨#[]⟩).src Try.underlying49) rfl (by omega) ?_; intro a3 c3 w3 o3 b3))
            go_roundw
            case rel => exact ⟨j + 1, a3, c3, by omega, by go_num, rfl, by rw [HNX.out, HE.out]; exact o3, HFIN.out 1 (m2 : Int) ⟨#[]⟩ w3 b3⟩
            case measure => simp [intOf]; omega
      · cases vb
        · have hE : fitVal nn j ⟨vn, 2, false⟩ = ⟨2, ((kx : Int) - 5), ⟨#[]⟩⟩ := by rw [hFV.out]; simp
          have HE := Lib.hid hE
          clear hE
          go_wp2_with (first
            | (at_builtin; refine wpList_append_txtR rfl _ _ 49 49 rfl 55 rowTyV W.heap.size ra j rc _ rfl (HT.out 2 ((kx : Int) - 5) ⟨#[]⟩) (HSZ.out _ _ _) _ rfl 1 [⟨2, ((kx : Int) - 5), ⟨#[]⟩⟩] ((HL.out 2 ((kx : Int) - 5) ⟨#[]⟩).src Try.underlying49) rfl (by omega) ?_; intro a3 c3 w3 o3 b3))
          go_roundw
          case rel => exact ⟨j + 1, a3, c3, by omega, by go_num, rfl, by rw [HNX.out, HE.out]; exact o3, HFIN.out 2 ((kx : Int) - 5) ⟨#[]⟩ w3 b3⟩
          case measure => simp [intOf]; omega
        · by_cases hz : n5 = 0
          · have hzb : ((n5 : Int) == 0) = true := by simp [hz]
            have hE : fitVal nn j ⟨vn, 2, true⟩ = ⟨0, 0, ⟨#[]⟩⟩ := by rw [hFV.out]; simp [hz, V0]
            have HE := Lib.hid hE
            clear hE
            go_wp2_with (first
              | (go_at_call 19; (with_reducible refine (HW5 _).mono ?_); rintro e w' ⟨rfl, rfl⟩)
              | (at_builtin; refine wpList_append_txtR rfl _ _ 49 49 rfl 55 rowTyV W.heap.size ra j rc _ rfl (HT.out 0 0 ⟨#[]⟩) (HSZ.out _ _ _) _ rfl 1 [⟨0, 0, ⟨#[]⟩⟩] ((HL.out 0 0 ⟨#[]⟩).src Try.underlying49) rfl (by omega) ?_; intro a3 c3 w3 o3 b3))
            go_roundw
            case rel => exact ⟨j + 1, a3, c3, by omega, by go_num, rfl, by rw [HNX.out, HE.out]; exact o3, HFIN.out 0 0 ⟨#[]⟩ w3 b3⟩
            case measure => simp [intOf]; omega
          · have hzb : ((n5 : Int) == 0) = false := by simp [hz]
            have hE : fitVal nn j ⟨vn, 2, true⟩ = ⟨2, ((kx : Int) - 5), ⟨#[]⟩⟩ := by rw [hFV.out]; simp [hz]
            have HE := Lib.hid hE
            clear hE
            go_wp2_with (first
              | (go_at_call 19; (with_reducible refine (HW5 _).mono ?_); rintro e w' ⟨rfl, rfl⟩)
              | (at_builtin; refine wpList_append_txtR rfl _ _ 49 49 rfl 55 rowTyV W.heap.size ra j rc _ rfl (HT.out 2 ((kx : Int) - 5) ⟨#[]⟩) (HSZ.out _ _ _) _ rfl 1 [⟨2, ((kx : Int) - 5), ⟨#[]⟩⟩] ((HL.out 2 ((kx : Int) - 5) ⟨#[]⟩).src Try.underlying49) rfl (by omega) ?_; intro a3 c3 w3 o3 b3))
            go_roundw
            case rel => exact ⟨j + 1, a3, c3, by omega, by go_num, rfl, by rw [HNX.out, HE.out]; exact o3, HFIN.out 2 ((kx : Int) - 5) ⟨#[]⟩ w3 b3⟩
            case measure => simp [intOf]; omega
      · cases vb
        · have hE : fitVal nn j ⟨vn, 3, false⟩ = ⟨3, 0, (abcS.extract 0 m9)⟩ := by rw [hFV.out]; simp
          have HE := Lib.hid hE
          clear hE
          go_wp2_with (first
            | (go_at_call 19; (with_reducible refine (HW9 _).mono ?_); rintro e w' ⟨rfl, rfl⟩)
            | (at_builtin; refine wpList_append_txtR rfl _ _ 49 49 rfl 55 rowTyV W.heap.size ra j rc _ rfl (HT.out 3 0 (abcS.extract 0 m9)) (HSZ.out _ _ _) _ rfl 1 [⟨3, 0, (abcS.extract 0 m9)⟩] ((HL.out 3 0 (abcS.extract 0 m9)).src Try.underlying49) rfl (by omega) ?_; intro a3 c3 w3 o3 b3))
          go_roundw
          case rel => exact ⟨j + 1, a3, c3, by omega, by go_num, rfl, by rw [HNX.out, HE.out]; exact o3, HFIN.out 3 0 (abcS.extract 0 m9) w3 b3⟩
          case measure => simp [intOf]; omega
        · by_cases hz : n5 = 0
          · have hzb : ((n5 : Int) == 0) = true := by simp [hz]
            have hE : fitVal nn j ⟨vn, 3, true⟩ = ⟨0, 0, ⟨#[]⟩⟩ := by rw [hFV.out]; simp [hz, V0]
            have HE := Lib.hid hE
            clear hE
            go_wp2_with (first
              | (go_at_call 19; (with_reducible refine (HW9 _).mono ?_); rintro e w' ⟨rfl, rfl⟩)
              | (go_at_call 19; (with_reducible refine (HW5 _).mono ?_); rintro e w' ⟨rfl, rfl⟩)
              | (at_builtin; refine wpList_append_txtR rfl _ _ 49 49 rfl 55 rowTyV W.heap.size ra j rc _ rfl (HT.out 0 0 ⟨#[]⟩) (HSZ.out _ _ _) _ rfl 1 [⟨0, 0, ⟨#[]⟩⟩] ((HL.out 0 0 ⟨#[]⟩).src Try.underlying49) rfl (by omega) ?_; intro a3 c3 w3 o3 b3))
            go_roundw
            case rel => exact ⟨j + 1, a3, c3, by omega, by go_num, rfl, by rw [HNX.out, HE.out]; exact o3, HFIN.out 0 0 ⟨#[]⟩ w3 b3⟩
            case measure => simp [intOf]; omega
          · have hzb : ((n5 : Int) == 0) = false := by simp [hz]
            have hE : fitVal nn j ⟨vn, 3, true⟩ = ⟨3, 0, (abcS.extract 0 m9)⟩ := by rw [hFV.out]; simp [hz]
            have HE := Lib.hid hE
            clear hE
            go_wp2_with (first
              | (go_at_call 19; (with_reducible refine (HW9 _).mono ?_); rintro e w' ⟨rfl, rfl⟩)
              | (go_at_call 19; (with_reducible refine (HW5 _).mono ?_); rintro e w' ⟨rfl, rfl⟩)
              | (at_builtin; refine wpList_append_txtR rfl _ _ 49 49 rfl 55 rowTyV W.heap.size ra j rc _ rfl (HT.out 3 0 (abcS.extract 0 m9)) (HSZ.out _ _ _) _ rfl 1 [⟨3, 0, (abcS.extract 0 m9)⟩] ((HL.out 3 0 (abcS.extract 0 m9)).src Try.underlying49) rfl (by omega) ?_; intro a3 c3 w3 o3 b3))
            go_roundw
            case rel => exact ⟨j + 1, a3, c3, by omega, by go_num, rfl, by rw [HNX.out, HE.out]; exact o3, HFIN.out 3 0 (abcS.extract 0 m9) w3 b3⟩
            case measure => simp [intOf]; omega
    · have hlti : ¬ ((j : Int) < (n : Int)) := by omega
      obtain rfl : j = n := by omega
      rw [List.take_of_length_le (by omega)] at hT
      go_wp2_with fail
      go_ret
      exact ⟨ra, rc, rfl, by rw [HP.out]; exact hT.lower (Nat.le_of_lt X.lt), by rw [HP.out]; exact B.trans (hB.mono (Nat.le_of_lt X.lt))⟩
end Go.Proofs.Ytllijeciodmckaa
