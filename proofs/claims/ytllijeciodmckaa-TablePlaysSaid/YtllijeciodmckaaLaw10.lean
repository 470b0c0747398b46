/-
  What the laws of tables stand on: numbers within a bound, the chapter's example.
-/
import Derived.Test.YtllijeciodmckaaTabT
import Derived.Test.YtllijeciodmckaaWth
namespace Go.Proofs.Ytllijeciodmckaa
open Go.RowKit
set_option linter.unusedSimpArgs false
theorem within10_any (a n : Int) (w : World) (hn : 0 < n) (hn2 : n ≤ 1000000) :
    Calls Try.prog 19 #[.int .i64 a, .int .i64 n] w fun e w' => e = .returned (.int .i64 (wth a n)) ∧ w = w' := by
  have h1 := Int.lt_tmod_of_pos a hn
  have h2 := Int.tmod_lt_of_pos a hn
  have hz : (n == 0) = false := by simp; omega
  by_cases h3 : a.tmod n < 0
  · go_enter Try.func19, Try.ntmps19
    go_wp2_with fail
    go_ret
    exact ⟨ret_int (by unfold wth; rw [if_pos h3]), rfl⟩
  · go_enter Try.func19, Try.ntmps19
    go_wp2_with fail
    go_ret
    exact ⟨ret_int (by unfold wth; rw [if_neg (by omega)]), rfl⟩
/-- The laws' own table of one column. -/
def oneC : List Co := [⟨[97], 2, false⟩]
theorem oneC_lit (w : World) : IsR encCo (w.alloc (.cells #[.string ⟨#[97]⟩, .int .i64 2, .bool false] 156)) (some ⟨w.heap.size, 0, none⟩) 1 1 oneC := (OwnR.ofBlk (E := encCo) (l := oneC) (n := 1) (heap_alloc_new w _) rfl rfl (by omega)).isR
theorem oneV_lit (w : World) (k m : Int) (s : ByteArray) : IsR EV (w.alloc (.cells #[.int .i64 k, .int .i64 m, .string s] 55)) (some ⟨w.heap.size, 0, none⟩) 1 1 [⟨k, m, s⟩] := (OwnR.ofBlk (E := EV) (l := [⟨k, m, s⟩]) (n := 1) (heap_alloc_new w _) rfl rfl (by omega)).isR
theorem oneT (w : World) (co : Option Addr) (cc : Nat) (h : IsR encCo w co 1 cc oneC) : IsT w 0 co 1 cc oneC none 0 0 [] := ⟨h, IsRR.nil w 0, fun _ _ => Nat.zero_le _⟩
theorem fits_one (m : Int) : fitsE oneC [⟨2, m, ⟨#[]⟩⟩] = 0 := by
  have h : chkV 2 m ⟨#[]⟩ = 0 := by unfold chkV; rw [if_neg (by decide), if_neg (by decide), if_pos rfl, ByteArray.toList_eq]; rfl
  show (if fitE ⟨[97], 2, false⟩ ⟨2, m, ⟨#[]⟩⟩ = 0 then (0 : Int) else _) = 0
  unfold fitE
  simp only [h]
  rfl
set_option maxRecDepth 100000 in
set_option maxHeartbeats 2000000 in
theorem known10 (w : World) : Calls Try.prog 14 #[] w fun e w' => e = .returned (.bool true) ∧ Below w.heap.size w w' := by
  have h1 := oneC_lit w
  have B1 : Below w.heap.size w ((w.alloc (.cells #[.string ⟨#[97]⟩, .int .i64 2, .bool false] 156)).alloc (.cells #[.string ⟨#[120]⟩, .slice (some ⟨w.heap.size, 0, none⟩) 1 1, .int .i64 0, .bool false, .slice none 0 0] 47)) := ((Below.refl _ _).alloc (Nat.le_refl _) _).alloc (by simp) _
  have hT : Bk ((w.alloc (.cells #[.string ⟨#[97]⟩, .int .i64 2, .bool false] 156)).alloc (.cells #[.string ⟨#[120]⟩, .slice (some ⟨w.heap.size, 0, none⟩) 1 1, .int .i64 0, .bool false, .slice none 0 0] 47)) (w.heap.size + 1) (tbC [120] (some ⟨w.heap.size, 0, none⟩) 1 1 (0 : Nat) false none 0 0) 47 := by
    have := Bk.new (w.alloc (.cells #[.string ⟨#[97]⟩, .int .i64 2, .bool false] 156)) #[.string ⟨#[120]⟩, .slice (some ⟨w.heap.size, 0, none⟩) 1 1, .int .i64 0, .bool false, .slice none 0 0] 47
    rwa [World.size_alloc] at this
  have h2 := h1.alloc (.cells #[.string ⟨#[120]⟩, .slice (some ⟨w.heap.size, 0, none⟩) 1 1, .int .i64 0, .bool false, .slice none 0 0] 47)
  go_enter Try.func14, Try.ntmps14
  go_upto_region 2 with fail
  generalize (w.alloc (.cells #[.string ⟨#[97]⟩, .int .i64 2, .bool false] 156)).alloc (.cells #[.string ⟨#[120]⟩, .slice (some ⟨w.heap.size, 0, none⟩) 1 1, .int .i64 0, .bool false, .slice none 0 0] 47) = W at B1 hT h2 ⊢
  obtain ⟨p, hp⟩ : ∃ p, w.heap.size = p := ⟨_, rfl⟩
  have HP := Lib.hid hp
  obtain ⟨q, hq⟩ : ∃ q, p + 1 = q := ⟨_, rfl⟩
  simp only [hp, hq] at hT h2 B1 ⊢
  have hpq : p ≤ q := by omega
  clear hp hq
  have iT := oneT W _ _ h2
  have HTk := take_any W [120] (some ⟨p, 0, none⟩) 1 1 0 false none 0 0 oneC (by decide) (by decide) 0 [] iT ⟨2, 0, ⟨#[]⟩⟩ (Srt.nil 0) (by decide) (fun x hx => by cases hx)
  unfold tbV at HTk
  obtain ⟨t0, t1, t2, t3, t4⟩ := tb_cells hT
  go_upto_region 3 with (go_at_call 23; refine HTk.mono ?_; rintro e w1 ⟨hN, -, b1⟩; obtain ⟨co1, cc1, ro1, rn1, rc1, rfl, i1⟩ := hN rfl; unfold tbV)
  have hT1 := hT.past b1
  have hpW : p ≤ W.heap.size := by have := hT.lt; have := B1.size; have := HP.out; omega
  have B2 : Below p w w1 := B1.trans (b1.mono hpW)
  have h3 := h2.past b1
  have hp1 : p ≤ w1.heap.size := Nat.le_trans hpW b1.size
  have B3 : Below p w ((w1.alloc (.cells #[.string (bsOf [120]), .slice co1 1 cc1, .int .i64 0, .bool false, .slice ro1 rn1 rc1] 47))) := B2.alloc hp1 _
  have hT2 := hT1.alloc (.cells #[.string (bsOf [120]), .slice co1 1 cc1, .int .i64 0, .bool false, .slice ro1 rn1 rc1] 47)
  have h4 := h3.alloc (.cells #[.string (bsOf [120]), .slice co1 1 cc1, .int .i64 0, .bool false, .slice ro1 rn1 rc1] 47)
  generalize w1.alloc (.cells #[.string (bsOf [120]), .slice co1 1 cc1, .int .i64 0, .bool false, .slice ro1 rn1 rc1] 47) = W1 at B3 hT2 h4 ⊢
  have hT3 := hT2.alloc (.cells #[.int .i64 2, .int .i64 5, .string ⟨#[]⟩] 55)
  have h5 := h4.alloc (.cells #[.int .i64 2, .int .i64 5, .string ⟨#[]⟩] 55)
  have hW1 : p ≤ W1.heap.size := Nat.le_trans hpq (Nat.le_of_lt hT2.lt)
  have HPt := put_any (W1.alloc (.cells #[.int .i64 2, .int .i64 5, .string ⟨#[]⟩] 55)) [120] (some ⟨p, 0, none⟩) 1 1 0 false none 0 0 oneC (by decide) (by decide) 0 [] (oneT _ _ _ h5) _ 1 1 _ (oneV_lit W1 2 5 ⟨#[]⟩) (Srt.nil 0) (by decide) (fun x hx => by cases hx) (by decide)
  have e1 : putE oneC 0 [⟨2, 5, ⟨#[]⟩⟩] [] = 0 := by unfold putE; rw [if_pos (fits_one 5)]; rfl
  have e2 : putR oneC 0 [⟨2, 5, ⟨#[]⟩⟩] [] = [[⟨2, 5, ⟨#[]⟩⟩]] := by unfold putR; rw [if_pos e1]; rfl
  rw [e1, e2] at HPt
  unfold tbV at HPt
  have HPh := Lib.hid HPt
  clear HPt e1 e2 t0 t1 t2 t3 t4
  obtain ⟨t0, t1, t2, t3, t4⟩ := tb_cells hT2
  go_upto_region 4 with (go_at_call 20; refine HPh.out.mono ?_; rintro e w2 ⟨co2, cc2, ro2, rn2, rc2, rfl, i2, b2⟩; unfold tbV)
  obtain rfl : 1 = rn2 := i2.rows.len
  obtain ⟨y0, y1, y2, y3, y4⟩ := tb_cells ((hT3.past b2).alloc (.cells #[.string (bsOf [120]), .slice co2 1 cc2, .int .i64 0, .bool false, .slice ro2 1 rc2] 47))
  go_wp2_with fail
  go_ret
  refine ⟨rfl, ?_⟩
  rw [HP.out]
  have b3 : Below p W1 w2 := (((Below.refl _ _).alloc (Nat.le_refl _) (.cells #[.int .i64 2, .int .i64 5, .string ⟨#[]⟩] 55)).mono hW1).trans (b2.mono (by rw [World.size_alloc]; omega))
  exact (B3.trans b3).alloc (Nat.le_trans hW1 b3.size) _
end Go.Proofs.Ytllijeciodmckaa
