/-
  The reference of chapter 5: Bytes.
-/
import Derived.Test.YtpphlmbhonaglaaRowV
import Derived.Test.YtpphlmbhonaglaaRefs
namespace Go.Proofs.Ytpphlmbhonaglaa
open Go.RowKit

/-- A byte as a row of one cell. -/
def EB : Enc UInt8 where
  sz := 1
  f u := [bc u]
  len _ := rfl
  one u v hv := by
    simp only [List.mem_cons, List.not_mem_nil, or_false] at hv
    rw [hv]
    rfl
theorem EB_all (l : List UInt8) : EB.all l = bcs l := by
  induction l with
  | nil => rfl
  | cons x l ih => rw [EB.all_cons, ih]; rfl
theorem rowTyB : RowTy EB Try.prog 24 5 0 := by
  obtain ⟨i, hi, hz, hs, hb⟩ := byteTy.info
  exact ⟨byteTy.ht, i, _, hi, hz, hs, rfl, by rw [hb]; decide⟩
theorem ownB_of {w : World} {e : TypeId} {g n cap : Nat} {l : List UInt8} (h : OwnR EB w e g n cap l) : OwnB w e g n cap l := by
  obtain ⟨cur, hg, hs, ht⟩ := h.row
  exact ⟨h.len, h.le, h.max, cur, hg, by simpa [EB] using hs, by rw [EB_all] at ht; simpa [EB] using ht⟩
set_option maxHeartbeats 400000 in
theorem rbyte_nil (x : Int) (w : World) : Calls Try.prog 27 #[.slice none 0 0, .int .i64 x] w (Fresh w 1 (le 1 (XU x))) := by
  have hs : ∀ w' : World, Src Try.prog EB.sz 24 (.slice (some ⟨w'.heap.size, 0, none⟩) 1 1) 1 (EB.all [UInt8.ofNat (XU x % 256)]) (w'.alloc (.cells #[.int .u8 (x % 256)] 5)) := fun w' => by
    rw [EB_all]
    exact src_one byteTy.ht w' _ _ (bc_low x)
  go_enter Try.func27, Try.ntmps27
  go_wp2_with (at_builtin; refine wpList_append_nr rfl _ _ 24 24 rfl 5 rowTyB 0 rfl rfl _ rfl 1 [UInt8.ofNat (XU x % 256)] (hs w) rfl (by omega) (by omega) ?_; intro g2 c2 w2 o2 b2 q2)
  go_ret
  have b0 : Below w.heap.size w (w.alloc (.cells #[.int .u8 (x % 256)] 5)) := (Below.refl _ _).alloc (Nat.le_refl _) _
  exact ⟨g2, c2, rfl, ownB_of o2, b0.trans (b2.mono b0.size), by simp at q2; omega⟩
theorem own_re {w : World} {e : TypeId} {g n n' cap : Nat} {l l' : List UInt8} (h : OwnB w e g n cap l) (hn : n' = n) (hl : l = l') : OwnB w e g n' cap l' := by
  subst hn
  subst hl
  exact h
theorem tx_eq5 (s : ByteArray) (h : s.size ≤ 60000) : tx s.data.toList = le 2 s.size ++ s.data.toList := by
  have hl : s.data.toList.length = s.size := by simp
  unfold tx
  rw [List.take_of_length_le (by omega), hl]
theorem encV_if (k n : Int) (s : ByteArray) : encV ⟨k, n, s⟩ = le 1 (XU k) ++ (if k = 1 then le 1 (XU n) else if k = 2 then le 8 (XU n) else if k = 3 then tx s.data.toList else []) := rfl
set_option maxRecDepth 100000 in
set_option maxHeartbeats 2000000 in
theorem rbytes_any (ao : Option Addr) (n cap : Nat) (l : List V) (w : World) (h : IsR EV w ao n cap l) (hn : n ≤ 15) (hz : ∀ v ∈ l, v.s.size ≤ 60000) :
    Calls Try.prog 12 #[.slice ao n cap] w (Fresh w (encR l).length (encR l)) := by
  have hln := h.len
  go_enter Try.func12, Try.ntmps12
  go_wp2_with (go_at_call 27; (with_reducible refine (rbyte_nil _ _).mono ?_); rintro e w1 ⟨g1, c1, rfl, o1, b1, q1⟩)
  go_loopw [3, 4] (fun b i wr => ∃ j g' cap' : Nat, j ≤ n ∧ i = .int .i64 (j : Nat) ∧ b = .slice (some ⟨g', 0, none⟩) (1 + (encVs (l.take j)).length) cap' ∧ OwnB wr 5 g' (1 + (encVs (l.take j)).length) cap' (le 1 (XU (n : Nat)) ++ encVs (l.take j)) ∧ Below w.heap.size w wr ∧ w.heap.size ≤ g') (fun _ i _ => n - (intOf i).toNat)
  case atStart => exact ⟨0, g1, c1, by omega, rfl, by simp [encVs], by simpa [encVs] using o1, b1, q1⟩
  case round =>
    obtain ⟨j, g', cap', hj, rfl, rfl, ho, hB, hg⟩ := hrel
    clear o1 b1 q1
    have LJ := encVs_length (l.take j)
    rw [List.length_take] at LJ
    by_cases hlt : j < n
    · obtain ⟨v, hv⟩ : ∃ v, l[j]? = some v := ⟨l[j]'(by omega), List.getElem?_eq_getElem _⟩
      obtain ⟨b, off, rfl, hb, hc⟩ := h.open (by omega) (by decide)
      obtain ⟨c0, c1, c2⟩ := cells_v hc j v hv
      have hsz := hz v (List.mem_of_getElem? hv)
      have HT := encVs_take l j v hv
      obtain ⟨k, m, s⟩ := v
      simp only at c0 c1 c2 hsz
      rw [encV_if] at HT
      have HT' := Lib.hid HT
      clear hc HT hv
      have LB := LJ
      generalize encVs (l.take j) = L at ho LJ HT'
      have c0w := fun (w' : World) (hb' : Below w.heap.size w w') => (hb'.cell (p := ⟨b, off + j * 3, none⟩) hb).trans c0
      have c1w := fun (w' : World) (hb' : Below w.heap.size w w') => (hb'.cell (p := ⟨b, off + j * 3 + 1, none⟩) hb).trans c1
      have c2w := fun (w' : World) (hb' : Below w.heap.size w w') => (hb'.cell (p := ⟨b, off + j * 3 + 2, none⟩) hb).trans c2
      have d0 := c0w wr hB
      clear c0 c1 c2
      have LL : L.length ≤ 990000 := by omega
      by_cases k1 : k = 1
      · subst k1
        have E : Hid (encVs (l.take (j + 1)) = L ++ (le 1 (XU 1) ++ (le 1 (XU m)))) := by unfold Hid; rw [HT'.out]; simp
        have LEN : Hid ((encVs (l.take (j + 1))).length = L.length + (1 + 1)) := by unfold Hid; rw [E.out]; simp only [List.length_append, le_length]; try rfl
        clear HT'
        go_wp2_with (first
          | (go_at_call 27; (with_reducible refine (rbyte_any g' (1 + L.length) cap' _ _ wr ho (by omega)).mono ?_); rintro e w2 ⟨g2, c2, rfl, o2, p2, q2⟩; have B2 := hB.trans (p2.below hg hB.size); have e0 := c0w w2 B2; have e1 := c1w w2 B2; have e2 := c2w w2 B2; have G2 := ge_old hB (Nat.le_refl _) hg q2)
          | (go_at_call 27; (with_reducible refine (rbyte_any g2 (1 + L.length + 1) c2 _ m w2 o2 (by omega)).mono ?_); rintro e w3 ⟨g3, c3, rfl, o3, p3, q3⟩))
        go_roundw
        case rel => exact ⟨j + 1, g3, c3, by omega, by go_num, congrArg (fun N => Value.slice (some ⟨g3, 0, none⟩) N c3) (by rw [LEN.out]; omega), own_re o3 (by rw [LEN.out]; omega) (by rw [E.out]; simp only [List.append_assoc]), B2.trans (p3.below G2 B2.size), ge_old B2 (Nat.le_refl _) G2 q3⟩
        case measure => simp [intOf]; omega
      by_cases k2 : k = 2
      · subst k2
        have E : Hid (encVs (l.take (j + 1)) = L ++ (le 1 (XU 2) ++ (le 8 (XU m)))) := by unfold Hid; rw [HT'.out]; simp
        have LEN : Hid ((encVs (l.take (j + 1))).length = L.length + (1 + 8)) := by unfold Hid; rw [E.out]; simp only [List.length_append, le_length]; try rfl
        clear HT'
        go_wp2_with (first
          | (go_at_call 27; (with_reducible refine (rbyte_any g' (1 + L.length) cap' _ _ wr ho (by omega)).mono ?_); rintro e w2 ⟨g2, c2, rfl, o2, p2, q2⟩; have B2 := hB.trans (p2.below hg hB.size); have e0 := c0w w2 B2; have e1 := c1w w2 B2; have e2 := c2w w2 B2; have G2 := ge_old hB (Nat.le_refl _) hg q2)
          | (go_at_call 28; (with_reducible refine (rint_any g2 (1 + L.length + 1) c2 _ m w2 o2 (by omega)).mono ?_); rintro e w3 ⟨g3, c3, rfl, o3, p3, q3⟩))
        go_roundw
        case rel => exact ⟨j + 1, g3, c3, by omega, by go_num, congrArg (fun N => Value.slice (some ⟨g3, 0, none⟩) N c3) (by rw [LEN.out]; omega), own_re o3 (by rw [LEN.out]; omega) (by rw [E.out]; simp only [List.append_assoc]), B2.trans (p3.below G2 B2.size), ge_old B2 (Nat.le_refl _) G2 q3⟩
        case measure => simp [intOf]; omega
      by_cases k3 : k = 3
      · subst k3
        have E : Hid (encVs (l.take (j + 1)) = L ++ (le 1 (XU 3) ++ (le 2 s.size ++ s.data.toList))) := by unfold Hid; rw [HT'.out]; simp [tx_eq5 s hsz]
        have LEN : Hid ((encVs (l.take (j + 1))).length = L.length + (1 + (2 + s.size))) := by unfold Hid; rw [E.out]; simp only [List.length_append, le_length]; try rfl
        clear HT'
        go_wp2_with (first
          | (go_at_call 27; (with_reducible refine (rbyte_any g' (1 + L.length) cap' _ _ wr ho (by omega)).mono ?_); rintro e w2 ⟨g2, c2, rfl, o2, p2, q2⟩; have B2 := hB.trans (p2.below hg hB.size); have e0 := c0w w2 B2; have e1 := c1w w2 B2; have e2 := c2w w2 B2; have G2 := ge_old hB (Nat.le_refl _) hg q2)
          | (go_at_call 29; (with_reducible refine (rtext_any g2 (1 + L.length + 1) c2 _ s w2 o2 (by omega) hsz).mono ?_); rintro e w3 ⟨g3, c3, rfl, o3, p3, q3⟩))
        go_roundw
        case rel => exact ⟨j + 1, g3, c3, by omega, by go_num, congrArg (fun N => Value.slice (some ⟨g3, 0, none⟩) N c3) (by rw [LEN.out]; omega), own_re o3 (by rw [LEN.out]; omega) (by rw [E.out]; simp only [List.append_assoc]), B2.trans (p3.below G2 B2.size), ge_old B2 (Nat.le_refl _) G2 q3⟩
        case measure => simp [intOf]; omega
      · have b1 : (k == 1) = false := by simp [k1]
        have b2 : (k == 2) = false := by simp [k2]
        have b3 : (k == 3) = false := by simp [k3]
        have E : Hid (encVs (l.take (j + 1)) = L ++ le 1 (XU k)) := by unfold Hid; rw [HT'.out, if_neg k1, if_neg k2, if_neg k3, List.append_nil]
        have LEN : Hid ((encVs (l.take (j + 1))).length = L.length + 1) := by unfold Hid; rw [E.out, List.length_append, le_length]
        clear HT' k1 k2 k3
        go_wp2_with (go_at_call 27; (with_reducible refine (rbyte_any g' (1 + L.length) cap' _ _ wr ho (by omega)).mono ?_); rintro e w2 ⟨g2, c2, rfl, o2, p2, q2⟩; have B2 := hB.trans (p2.below hg hB.size); have e0 := c0w w2 B2; have e1 := c1w w2 B2; have e2 := c2w w2 B2; have G2 := ge_old hB (Nat.le_refl _) hg q2)
        go_roundw
        case rel => exact ⟨j + 1, g2, c2, by omega, by go_num, congrArg (fun N => Value.slice (some ⟨g2, 0, none⟩) N c2) (by rw [LEN.out]; omega), own_re o2 (by rw [LEN.out]; omega) (by rw [E.out, List.append_assoc]), B2, G2⟩
        case measure => simp [intOf]; omega
    · go_wp2_with fail
      go_ret
      obtain rfl : j = n := by omega
      rw [List.take_of_length_le (by omega)] at ho
      have e : encR l = le 1 (XU (j : Nat)) ++ encVs l := by unfold encR; rw [hln]
      rw [e, List.length_append, le_length]
      rw [List.take_of_length_le (by omega)]
      exact ⟨g', cap', rfl, ho, hB, hg⟩
end Go.Proofs.Ytpphlmbhonaglaa
