/-
  RowSizes, walked.
-/
import Derived.Test.YtalnnifmlhckbaaLaw5
import Derived.Deep.RegionHeld3
namespace Go.Proofs.Ytalnnifmlhckbaa
open Go.RowKit

/-- What is known of a valid value. -/
theorem gd_cases (v : V) : (gd v = ⟨0, 0, ByteArray.empty⟩) ∨ (∃ n, 0 ≤ n ∧ n ≤ 1 ∧ gd v = ⟨1, n, ByteArray.empty⟩) ∨ (gd v = ⟨2, v.n, ByteArray.empty⟩) ∨ ∃ s : ByteArray, s.size ≤ 60 ∧ gd v = ⟨3, 0, s⟩ := by
  have l3 := wth_lo v.n 2 (by omega)
  have l4 := wth_hi v.n 2 (by omega)
  unfold gd
  split
  · exact .inr (.inl ⟨_, l3, by omega, rfl⟩)
  split
  · exact .inr (.inr (.inl rfl))
  split
  · exact .inr (.inr (.inr ⟨_, by rw [ByteArray.size_extract]; omega, rfl⟩))
  · exact .inl rfl
theorem tx_small (s : ByteArray) (h : s.size ≤ 60) : (tx s.data.toList).length = 2 + s.size := by
  have hl : s.data.toList.length = s.size := by simp
  unfold tx
  rw [List.length_append, le_length, List.length_take, hl]
  omega
/-- How long a valid value is. -/
theorem gd_len (v : V) : ∃ k : Nat, k ≤ 3 ∧ (gd v).k = (k : Int) ∧ (gd v).s.size ≤ 60 ∧ (encV (gd v)).length = [1, 2, 9, 3].getD k 0 + (gd v).s.size := by
  rcases gd_cases v with h | ⟨n, _, _, h⟩ | h | ⟨s, hs, h⟩ <;> rw [h]
  · exact ⟨0, by omega, rfl, by decide, rfl⟩
  · exact ⟨1, by omega, rfl, Nat.zero_le _, rfl⟩
  · exact ⟨2, by omega, rfl, Nat.zero_le _, rfl⟩
  · refine ⟨3, by omega, rfl, hs, ?_⟩
    show (le 1 (XU 3) ++ tx s.data.toList).length = _
    rw [List.length_append, le_length, tx_small s hs]
    simp
    omega
theorem isR_good {w : World} {n cap : Nat} {ao : Option Addr} {base : Nat} {l : List V} (hl : l.length = n) (h : (n = 0 ∧ ao = none ∧ cap = 0) ∨ ∃ g, ao = some ⟨g, 0, none⟩ ∧ OwnR EV w 39 g n cap (l.map gd) ∧ base ≤ g) : IsR EV w ao n cap (l.map gd) := by
  rcases h with ⟨rfl, rfl, rfl⟩ | ⟨g, rfl, h, _⟩
  · obtain rfl : l = [] := List.eq_nil_of_length_eq_zero hl
    exact IsR.nilR w
  · exact h.isR
/-- The first byte says how many. -/
theorem encR_first (r : List V) (h : r.length ≤ 255) (w : World) (g N c : Nat) (o : OwnB w 5 g N c (encR r)) : w.cell? ⟨g, 0, none⟩ = some (.int .u8 (r.length : Int)) := by
  have hx : XU (r.length : Int) = r.length := by unfold XU; omega
  have := o.cell 0 (UInt8.ofNat (r.length % 256)) (by unfold encR; rw [hx]; rfl)
  rw [this, bc, UInt8.toNat_ofNat', Nat.mod_eq_of_lt (by omega), Nat.mod_eq_of_lt (by omega)]
set_option maxRecDepth 100000 in
set_option maxHeartbeats 2000000 in
theorem rowSizes_walk (ao : Option Addr) (n cap : Nat) (l : List V) (w : World) (h : IsR EV w ao n cap l) (_ : ∀ v ∈ l, (Lit.int .i64 v.k).wf = true ∧ (Lit.int .i64 v.n).wf = true) :
    Calls Try.prog 5 #[.slice ao n cap] w (Told w true) := by
  rename_i q0
  clear q0
  have hln := h.len
  have HF := fun (w' : World) (hb : Below w.heap.size w w') => few5_any ao n cap l w' (h.past hb)
  cases q : (fewB l && decide ((n : Int) ≤ 12)) <;> rw [q] at HF
  · go_enter Try.func5, Try.ntmps5
    go_wp2_with (first
      | (go_at_call 7; (with_reducible refine (known5 _).mono ?_); rintro e w1 ⟨rfl, b1⟩)
      | (go_at_call 8; (with_reducible refine (HF _ b1).mono ?_); rintro e w2 ⟨rfl, b2⟩))
    go_ret
    exact ⟨rfl, b1.trans (b2.mono b1.size)⟩
  · have hn : n ≤ 12 := by
      simp only [Bool.and_eq_true, decide_eq_true_eq] at q
      omega
    have HG := fun (w' : World) (hb : Below w.heap.size w w') => good5_any ao n cap l w' (h.past hb) (by omega)
    clear q
    go_enter Try.func5, Try.ntmps5
    go_wp2_with (first
      | (go_at_call 7; (with_reducible refine (known5 _).mono ?_); rintro e w1 ⟨rfl, b1⟩)
      | (go_at_call 8; (with_reducible refine (HF _ b1).mono ?_); rintro e w2 ⟨rfl, b2⟩; have B2 := b1.trans (b2.mono b1.size))
      | (go_at_call 9; (with_reducible refine (HG _ B2).mono ?_); rintro e w3 ⟨ao3, cap3, rfl, b3, hr⟩; have B3 := B2.trans (b3.mono B2.size)))
    have i3 := isR_good hln hr
    clear hr HF HG h b1 b2 b3 B2
    have hl3 : (l.map gd).length = n := by rw [List.length_map, hln]
    have G : Hid (∀ (j : Nat) (v : V), (l.map gd)[j]? = some v → ∃ k : Nat, k ≤ 3 ∧ v.k = (k : Int) ∧ v.s.size ≤ 60 ∧ (encV v).length = [1, 2, 9, 3].getD k 0 + v.s.size) := by
      intro j v hv
      rw [List.getElem?_map] at hv
      obtain ⟨x, _, rfl⟩ := Option.map_eq_some_iff.1 hv
      exact gd_len x
    generalize l.map gd = r at i3 hl3 G
    go_loopw [4, 5] (fun s i wr => ∃ j : Nat, j ≤ n ∧ i = .int .i64 (j : Nat) ∧ s = .int .i64 (((1 + (encVs (r.take j)).length : Nat)) : Int) ∧ Below w.heap.size w wr ∧ IsR EV wr ao3 n cap3 r) (fun _ i _ => n - (intOf i).toNat)
    case atStart => exact ⟨0, by omega, rfl, rfl, B3, i3⟩
    case round =>
      obtain ⟨j, hj, rfl, rfl, hB, ir⟩ := hrel
      clear i3 B3
      have LJ := encVs_length (r.take j)
      rw [List.length_take] at LJ
      by_cases hlt : j < n
      · obtain ⟨v, hv⟩ : ∃ v, r[j]? = some v := ⟨r[j]'(by omega), List.getElem?_eq_getElem _⟩
        have IR := Lib.hid ir
        obtain ⟨b, off, rfl, hb, hc⟩ := ir.open (by omega) (by decide)
        obtain ⟨c0, c1, c2⟩ := cells_v hc j v hv
        obtain ⟨k, hk, ek, hs, hlen⟩ := G.out j v hv
        have HT : Hid ((encVs (r.take (j + 1))).length = (encVs (r.take j)).length + ([1, 2, 9, 3].getD k 0 + v.s.size)) := by unfold Hid; rw [encVs_take r j v hv, List.length_append, hlen]
        rw [ek] at c0
        clear hc hlen ek hv
        have hk4 : k = 0 ∨ k = 1 ∨ k = 2 ∨ k = 3 := by omega
        generalize (encVs (r.take j)).length = L at LJ HT
        have B0 := hB.drew
        have IR'' : Hid (∀ cs t, IsR EV (wr.alloc (.cells cs t)) (some ⟨b, off, none⟩) n cap3 r) := fun cs t => (IR.out).alloc _
        clear ir IR
        rcases hk4 with rfl | rfl | rfl | rfl
        all_goals
          go_wp2_with fail
          go_region
          go_wp2_with fail
          go_roundw
          case rel =>
            have s0 := hB.size
            exact ⟨j + 1, by omega, by go_num, congrArg (Value.int .i64) (by rw [HT.out]; simp <;> omega), (hB.alloc s0 _).drew, (IR''.out _ _).drew⟩
          case measure => simp [intOf]; omega
      · obtain rfl : j = n := by omega
        rw [List.take_of_length_le (by omega)] at LJ ⊢
        have HBY := bytes_any ao3 j cap3 r wr ir (by omega)
        have E := encR_first r
        have EL : (encR r).length = 1 + (encVs r).length := by unfold encR; rw [List.length_append, le_length]
        rw [EL] at HBY
        rw [hl3] at E
        have HE := Lib.hid (E (by omega))
        generalize encR r = R at HBY HE
        generalize (encVs r).length = L at HBY LJ
        have hx : (j : Int) ≤ 255 := by omega
        clear E EL
        go_wp2_with (go_at_call 10; (with_reducible refine HBY.mono ?_); rintro e w4 ⟨g4, c4, rfl, o4, b4, q4⟩; have y0 : w4.cell? ⟨g4, 0, none⟩ = some (.int .u8 (j : Int)) := HE.out w4 g4 _ _ o4)
        go_ret
        exact ⟨rfl, hB.trans (b4.mono hB.size)⟩
end Go.Proofs.Ytalnnifmlhckbaa
