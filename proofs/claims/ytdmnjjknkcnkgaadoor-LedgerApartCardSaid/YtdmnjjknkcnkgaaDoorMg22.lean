/-
  The contracts of the reference's Int, Byte, Text, on a row of the call's own.
  The reference of chapter 5: Bytes.
  The document's code.Int of nothing; rows of bytes of the call's own, wherever they began.
  The document's RowText (by gen_rg.py).
  The document's EntryText, BlockText (by gen_rg.py).
  The sum over two: merkle's pair, the reference's Two and Leaf.
  The reference's Leaf.
  The document's Row, Hash (by gen_rg3.py).
-/
import Derived.Test.YtdmnjjknkcnkgaaDoorMg2
import Derived.Test.YtdmnjjknkcnkgaaDoorLgS
import Derived.Test.YtdmnjjknkcnkgaaDoorLgX
import Derived.Test.YtdmnjjknkcnkgaaDoorMg7
import Derived.Outline
namespace Go.Proofs.YtdmnjjknkcnkgaaDoor
open Go.RowKit

theorem bc_low (x : Int) : Value.int .u8 (x % 256) = bc (UInt8.ofNat (XU x % 256)) := by
  simp only [bc, Value.int.injEq, true_and, UInt8.toNat_ofNat', XU]
  omega
theorem bc_shift (x : Int) (j : Nat) : Value.int .u8 (IntKind.u64.wrap x / 2 ^ (8 * j) % 256) = bc (UInt8.ofNat (XU x / 256 ^ j % 256)) := by
  have e : (2 : Int) ^ (8 * j) = ((256 ^ j : Nat) : Int) := by
    rw [Int.pow_mul]; simp
  rw [u64_wrap, e, ← Int.natCast_ediv, bc_mod]

set_option maxHeartbeats 400000 in
theorem rbyte_any (g n cap : Nat) (l : List UInt8) (x : Int) (w : World) (h : OwnB w 5 g n cap l) (hn : n ≤ 1000000) :
    Calls Tryd.prog 18 #[.slice (some ⟨g, 0, none⟩) n cap, .int .i64 x] w (Went w g n (n + 1) (l ++ le 1 (XU x))) := by
  go_enter Tryd.func18, Tryd.ntmps18
  go_wp2_with (at_builtin; refine wpList_append_ob rfl _ _ 44 44 rfl 5 byteTy g n cap l rfl (h.alloc _) _ rfl 1 [UInt8.ofNat (XU x % 256)] (src_one byteTy.ht _ _ _ (bc_low x)) (n + 1) rfl (l ++ le 1 (XU x)) rfl (by omega) ?_; intro g2 cap2 w2 ho2 hp2 hg2)
  go_ret
  exact ⟨g2, cap2, rfl, ho2, ((Puts.refl w g n).alloc _ h.lt).trans hp2 (by omega), by simp at hg2; omega⟩

set_option maxHeartbeats 400000 in
theorem rint_any (g n cap : Nat) (l : List UInt8) (x : Int) (w : World) (h : OwnB w 5 g n cap l) (hn : n ≤ 1000000) :
    Calls Tryd.prog 19 #[.slice (some ⟨g, 0, none⟩) n cap, .int .i64 x] w (Went w g n (n + 8) (l ++ le 8 (XU x))) := by
  go_enter Tryd.func19, Tryd.ntmps19
  go_wp2_with fail
  go_loopw [0, 5] (fun v i wr => ∃ j g' cap', j ≤ 8 ∧ i = .int .i64 (j : Nat) ∧ v = .slice (some ⟨g', 0, none⟩) (n + j) cap' ∧ OwnB wr 5 g' (n + j) cap' (l ++ le j (XU x)) ∧ Puts w wr g n ∧ (g' = g ∨ w.heap.size ≤ g')) (fun _ i _ => 8 - (intOf i).toNat)
  case atStart => exact ⟨0, g, cap, by omega, rfl, rfl, by simpa [le] using h, Puts.refl _ _ _, .inl rfl⟩
  case round =>
    obtain ⟨j, g', cap', hj, rfl, rfl, ho, hp, hg'⟩ := hrel
    have hg := h.lt
    by_cases hlt' : j < 8
    · have HL : Hid (l ++ le j (XU x) ++ [UInt8.ofNat (XU x / 256 ^ j % 256)] = l ++ le (j + 1) (XU x)) := by rw [le_snoc, List.append_assoc]; exact rfl
      go_wp2_with (at_builtin; refine wpList_append_ob rfl _ _ 44 44 rfl 5 byteTy g' (n + j) cap' _ rfl (ho.alloc _) _ rfl 1 [UInt8.ofNat (XU x / 256 ^ j % 256)] (src_one byteTy.ht _ _ _ (bc_shift x j)) (n + (j + 1)) (by omega) (l ++ le (j + 1) (XU x)) HL.out (by omega) ?_; intro g2 cap2 w2 ho2 hp2 hg2)
      go_roundw
      case rel =>
        exact ⟨j + 1, g2, cap2, by omega, by go_num, rfl, ho2, (hp.alloc _ hg).trans hp2 (by omega), by have := hp.size; simp at hg2; omega⟩
      case measure => simp [intOf]; omega
    · go_wp2_with fail
      go_ret
      obtain rfl : j = 8 := by omega
      exact ⟨g', cap', rfl, ho, hp, hg'⟩

theorem le_two (n : Nat) (h : n ≤ 60000) : (#[Value.int .u8 ((n : Int) % 256), Value.int .u8 ((n : Int) / 256)] : Array Value).toList = bcs (le 2 n) := by
  have e : ((n : Int) / 256) = (((n / 256 : Nat) : Int)) % 256 := by omega
  rw [e, bc_mod, bc_mod]
  rfl

set_option maxHeartbeats 400000 in
theorem rtext_any (g n cap : Nat) (l : List UInt8) (s : ByteArray) (w : World) (h : OwnB w 5 g n cap l) (hn : n ≤ 1000000) (hs : s.size ≤ 60000) :
    Calls Tryd.prog 17 #[.slice (some ⟨g, 0, none⟩) n cap, .string s] w (Went w g n (n + (2 + s.size)) (l ++ (le 2 s.size ++ s.data.toList))) := by
  have hsrc : ∀ w', Src Tryd.prog 1 9 (.string s) s.size (bcs s.data.toList) w' := fun w' => by
    have := Src.ofString (P := Tryd.prog) w' Tryd.underlying9 s
    rw [byteCells_bcs] at this
    exact this
  have HS := Lib.hid hsrc
  clear hsrc
  go_enter Tryd.func17, Tryd.ntmps17
  go_wp2_with (first | (at_builtin; refine wpList_append_ob rfl _ _ 44 44 rfl 5 byteTy g n cap l rfl (h.alloc _) _ rfl 2 (le 2 s.size) (src_lit byteTy.ht _ _ _ _ (le_two _ hs) rfl) (n + 2) rfl (l ++ le 2 s.size) rfl (by omega) ?_; intro g2 cap2 w2 ho2 hp2 hg2) | (at_builtin; refine wpList_append_ob rfl _ _ 44 9 rfl 5 byteTy g2 (n + 2) cap2 _ rfl ho2 _ rfl s.size _ (HS.out _) (n + (2 + s.size)) (by omega) _ (List.append_assoc _ _ _) (by omega) ?_; intro g3 cap3 w3 ho3 hp3 hg3))
  go_ret
  have hl := h.lt
  have s2 := hp2.size
  simp at hg2 s2
  exact ⟨g3, cap3, rfl, ho3, (((Puts.refl w g n).alloc _ hl).trans hp2 (by omega)).trans hp3 (by omega), by omega⟩
end Go.Proofs.YtdmnjjknkcnkgaaDoor
namespace Go.Proofs.YtdmnjjknkcnkgaaDoor
open Go.RowKit

/-- A byte as a row of one cell. -/
def EB : Enc UInt8 where
  sz := 1
  f u := [bc u]
  len _ := rfl
  one u v hv := by
    simp only [List.mem_cons, List.not_mem_nil, or_false] at hv
    rw [hv]
    rfl
theorem EB_all (l : List UInt8) : EB.all l = bcs l := by
  induction l with
  | nil => rfl
  | cons x l ih => rw [EB.all_cons, ih]; rfl
theorem rowTyB : RowTy EB Tryd.prog 44 5 0 := by
  obtain ⟨i, hi, hz, hs, hb⟩ := byteTy.info
  exact ⟨byteTy.ht, i, _, hi, hz, hs, rfl, by rw [hb]; decide⟩
theorem ownB_of {w : World} {e : TypeId} {g n cap : Nat} {l : List UInt8} (h : OwnR EB w e g n cap l) : OwnB w e g n cap l := by
  obtain ⟨cur, hg, hs, ht⟩ := h.row
  exact ⟨h.len, h.le, h.max, cur, hg, by simpa [EB] using hs, by rw [EB_all] at ht; simpa [EB] using ht⟩
set_option maxHeartbeats 400000 in
theorem rbyte_nil (x : Int) (w : World) : Calls Tryd.prog 18 #[.slice none 0 0, .int .i64 x] w (Fresh w 1 (le 1 (XU x))) := by
  have hs : ∀ w' : World, Src Tryd.prog EB.sz 44 (.slice (some ⟨w'.heap.size, 0, none⟩) 1 1) 1 (EB.all [UInt8.ofNat (XU x % 256)]) (w'.alloc (.cells #[.int .u8 (x % 256)] 5)) := fun w' => by
    rw [EB_all]
    exact src_one byteTy.ht w' _ _ (bc_low x)
  go_enter Tryd.func18, Tryd.ntmps18
  go_wp2_with (at_builtin; refine wpList_append_nr rfl _ _ 44 44 rfl 5 rowTyB 0 rfl rfl _ rfl 1 [UInt8.ofNat (XU x % 256)] (hs w) rfl (by omega) (by omega) ?_; intro g2 c2 w2 o2 b2 q2)
  go_ret
  have b0 : Below w.heap.size w (w.alloc (.cells #[.int .u8 (x % 256)] 5)) := (Below.refl _ _).alloc (Nat.le_refl _) _
  exact ⟨g2, c2, rfl, ownB_of o2, b0.trans (b2.mono b0.size), by simp at q2; omega⟩
theorem own_re {w : World} {e : TypeId} {g n n' cap : Nat} {l l' : List UInt8} (h : OwnB w e g n cap l) (hn : n' = n) (hl : l = l') : OwnB w e g n' cap l' := by
  subst hn
  subst hl
  exact h
theorem tx_eq5 (s : ByteArray) (h : s.size ≤ 60000) : tx s.data.toList = le 2 s.size ++ s.data.toList := by
  have hl : s.data.toList.length = s.size := by simp
  unfold tx
  rw [List.take_of_length_le (by omega), hl]
theorem encV_if (k n : Int) (s : ByteArray) : encV ⟨k, n, s⟩ = le 1 (XU k) ++ (if k = 1 then le 1 (XU n) else if k = 2 then le 8 (XU n) else if k = 3 then tx s.data.toList else []) := rfl
set_option maxRecDepth 100000 in
set_option maxHeartbeats 2000000 in
theorem rbytes_any (ao : Option Addr) (n cap : Nat) (l : List V) (w : World) (h : IsR EV w ao n cap l) (hn : n ≤ 15) (hz : ∀ v ∈ l, v.s.size ≤ 60000) :
    Calls Tryd.prog 20 #[.slice ao n cap] w (Fresh w (encR l).length (encR l)) := by
  have hln := h.len
  go_enter Tryd.func20, Tryd.ntmps20
  go_wp2_with (go_at_call 18; (with_reducible refine (rbyte_nil _ _).mono ?_); rintro e w1 ⟨g1, c1, rfl, o1, b1, q1⟩)
  go_loopw [3, 4] (fun b i wr => ∃ j g' cap' : Nat, j ≤ n ∧ i = .int .i64 (j : Nat) ∧ b = .slice (some ⟨g', 0, none⟩) (1 + (encVs (l.take j)).length) cap' ∧ OwnB wr 5 g' (1 + (encVs (l.take j)).length) cap' (le 1 (XU (n : Nat)) ++ encVs (l.take j)) ∧ Below w.heap.size w wr ∧ w.heap.size ≤ g') (fun _ i _ => n - (intOf i).toNat)
  case atStart => exact ⟨0, g1, c1, by omega, rfl, by simp [encVs], by simpa [encVs] using o1, b1, q1⟩
  case round =>
    obtain ⟨j, g', cap', hj, rfl, rfl, ho, hB, hg⟩ := hrel
    clear o1 b1 q1
    have LJ := encVs_length (l.take j)
    rw [List.length_take] at LJ
    by_cases hlt : j < n
    · obtain ⟨v, hv⟩ : ∃ v, l[j]? = some v := ⟨l[j]'(by omega), List.getElem?_eq_getElem _⟩
      obtain ⟨b, off, rfl, hb, hc⟩ := h.open (by omega) (by decide)
      obtain ⟨c0, c1, c2⟩ := cells_v hc j v hv
      have hsz := hz v (List.mem_of_getElem? hv)
      have HT := encVs_take l j v hv
      obtain ⟨k, m, s⟩ := v
      simp only at c0 c1 c2 hsz
      rw [encV_if] at HT
      have HT' := Lib.hid HT
      clear hc HT hv
      have LB := LJ
      generalize encVs (l.take j) = L at ho LJ HT'
      have c0w := fun (w' : World) (hb' : Below w.heap.size w w') => (hb'.cell (p := ⟨b, off + j * 3, none⟩) hb).trans c0
      have c1w := fun (w' : World) (hb' : Below w.heap.size w w') => (hb'.cell (p := ⟨b, off + j * 3 + 1, none⟩) hb).trans c1
      have c2w := fun (w' : World) (hb' : Below w.heap.size w w') => (hb'.cell (p := ⟨b, off + j * 3 + 2, none⟩) hb).trans c2
      have d0 := c0w wr hB
      clear c0 c1 c2
      have LL : L.length ≤ 990000 := by omega
      by_cases k1 : k = 1
      · subst k1
        have E : Hid (encVs (l.take (j + 1)) = L ++ (le 1 (XU 1) ++ (le 1 (XU m)))) := by unfold Hid; rw [HT'.out]; simp
        have LEN : Hid ((encVs (l.take (j + 1))).length = L.length + (1 + 1)) := by unfold Hid; rw [E.out]; simp only [List.length_append, le_length]; try rfl
        clear HT'
        go_wp2_with (first
          | (go_at_call 18; (with_reducible refine (rbyte_any g' (1 + L.length) cap' _ _ wr ho (by omega)).mono ?_); rintro e w2 ⟨g2, c2, rfl, o2, p2, q2⟩; have B2 := hB.trans (p2.below hg hB.size); have e0 := c0w w2 B2; have e1 := c1w w2 B2; have e2 := c2w w2 B2; have G2 := ge_old hB (Nat.le_refl _) hg q2)
          | (go_at_call 18; (with_reducible refine (rbyte_any g2 (1 + L.length + 1) c2 _ m w2 o2 (by omega)).mono ?_); rintro e w3 ⟨g3, c3, rfl, o3, p3, q3⟩))
        go_roundw
        case rel => exact ⟨j + 1, g3, c3, by omega, by go_num, congrArg (fun N => Value.slice (some ⟨g3, 0, none⟩) N c3) (by rw [LEN.out]; omega), own_re o3 (by rw [LEN.out]; omega) (by rw [E.out]; simp only [List.append_assoc]), B2.trans (p3.below G2 B2.size), ge_old B2 (Nat.le_refl _) G2 q3⟩
        case measure => simp [intOf]; omega
      by_cases k2 : k = 2
      · subst k2
        have E : Hid (encVs (l.take (j + 1)) = L ++ (le 1 (XU 2) ++ (le 8 (XU m)))) := by unfold Hid; rw [HT'.out]; simp
        have LEN : Hid ((encVs (l.take (j + 1))).length = L.length + (1 + 8)) := by unfold Hid; rw [E.out]; simp only [List.length_append, le_length]; try rfl
        clear HT'
        go_wp2_with (first
          | (go_at_call 18; (with_reducible refine (rbyte_any g' (1 + L.length) cap' _ _ wr ho (by omega)).mono ?_); rintro e w2 ⟨g2, c2, rfl, o2, p2, q2⟩; have B2 := hB.trans (p2.below hg hB.size); have e0 := c0w w2 B2; have e1 := c1w w2 B2; have e2 := c2w w2 B2; have G2 := ge_old hB (Nat.le_refl _) hg q2)
          | (go_at_call 19; (with_reducible refine (rint_any g2 (1 + L.length + 1) c2 _ m w2 o2 (by omega)).mono ?_); rintro e w3 ⟨g3, c3, rfl, o3, p3, q3⟩))
        go_roundw
        case rel => exact ⟨j + 1, g3, c3, by omega, by go_num, congrArg (fun N => Value.slice (some ⟨g3, 0, none⟩) N c3) (by rw [LEN.out]; omega), own_re o3 (by rw [LEN.out]; omega) (by rw [E.out]; simp only [List.append_assoc]), B2.trans (p3.below G2 B2.size), ge_old B2 (Nat.le_refl _) G2 q3⟩
        case measure => simp [intOf]; omega
      by_cases k3 : k = 3
      · subst k3
        have E : Hid (encVs (l.take (j + 1)) = L ++ (le 1 (XU 3) ++ (le 2 s.size ++ s.data.toList))) := by unfold Hid; rw [HT'.out]; simp [tx_eq5 s hsz]
        have LEN : Hid ((encVs (l.take (j + 1))).length = L.length + (1 + (2 + s.size))) := by unfold Hid; rw [E.out]; simp only [List.length_append, le_length]; try rfl
        clear HT'
        go_wp2_with (first
          | (go_at_call 18; (with_reducible refine (rbyte_any g' (1 + L.length) cap' _ _ wr ho (by omega)).mono ?_); rintro e w2 ⟨g2, c2, rfl, o2, p2, q2⟩; have B2 := hB.trans (p2.below hg hB.size); have e0 := c0w w2 B2; have e1 := c1w w2 B2; have e2 := c2w w2 B2; have G2 := ge_old hB (Nat.le_refl _) hg q2)
          | (go_at_call 17; (with_reducible refine (rtext_any g2 (1 + L.length + 1) c2 _ s w2 o2 (by omega) hsz).mono ?_); rintro e w3 ⟨g3, c3, rfl, o3, p3, q3⟩))
        go_roundw
        case rel => exact ⟨j + 1, g3, c3, by omega, by go_num, congrArg (fun N => Value.slice (some ⟨g3, 0, none⟩) N c3) (by rw [LEN.out]; omega), own_re o3 (by rw [LEN.out]; omega) (by rw [E.out]; simp only [List.append_assoc]), B2.trans (p3.below G2 B2.size), ge_old B2 (Nat.le_refl _) G2 q3⟩
        case measure => simp [intOf]; omega
      · have b1 : (k == 1) = false := by simp [k1]
        have b2 : (k == 2) = false := by simp [k2]
        have b3 : (k == 3) = false := by simp [k3]
        have E : Hid (encVs (l.take (j + 1)) = L ++ le 1 (XU k)) := by unfold Hid; rw [HT'.out, if_neg k1, if_neg k2, if_neg k3, List.append_nil]
        have LEN : Hid ((encVs (l.take (j + 1))).length = L.length + 1) := by unfold Hid; rw [E.out, List.length_append, le_length]
        clear HT' k1 k2 k3
        go_wp2_with (go_at_call 18; (with_reducible refine (rbyte_any g' (1 + L.length) cap' _ _ wr ho (by omega)).mono ?_); rintro e w2 ⟨g2, c2, rfl, o2, p2, q2⟩; have B2 := hB.trans (p2.below hg hB.size); have e0 := c0w w2 B2; have e1 := c1w w2 B2; have e2 := c2w w2 B2; have G2 := ge_old hB (Nat.le_refl _) hg q2)
        go_roundw
        case rel => exact ⟨j + 1, g2, c2, by omega, by go_num, congrArg (fun N => Value.slice (some ⟨g2, 0, none⟩) N c2) (by rw [LEN.out]; omega), own_re o2 (by rw [LEN.out]; omega) (by rw [E.out, List.append_assoc]), B2, G2⟩
        case measure => simp [intOf]; omega
    · go_wp2_with fail
      go_ret
      obtain rfl : j = n := by omega
      rw [List.take_of_length_le (by omega)] at ho
      have e : encR l = le 1 (XU (j : Nat)) ++ encVs l := by unfold encR; rw [hln]
      rw [e, List.length_append, le_length]
      rw [List.take_of_length_le (by omega)]
      exact ⟨g', cap', rfl, ho, hB, hg⟩
end Go.Proofs.YtdmnjjknkcnkgaaDoor
namespace Go.Proofs.YtdmnjjknkcnkgaaDoor
open Go.RowKit
set_option linter.unusedSimpArgs false
theorem ownB_u8 {w : World} {e : TypeId} {g n cap : Nat} {l : List UInt8} (h : OwnR EU8 w e g n cap l) : OwnB w e g n cap l := by
  obtain ⟨cur, hg, hs, ht⟩ := h.row
  exact ⟨h.len, h.le, h.max, cur, hg, by simpa [EU8] using hs, by rw [EU8_all] at ht; simpa [EU8] using ht⟩
set_option maxHeartbeats 400000 in
theorem rint_nil (x : Int) (w : World) : Calls Tryd.prog 19 #[.slice none 0 0, .int .i64 x] w (Fresh w 8 (le 8 (XU x))) := by
  have hs : ∀ (w' : World) (j : Nat), Src Tryd.prog EU8.sz 44 (.slice (some ⟨w'.heap.size, 0, none⟩) 1 1) 1 (EU8.all [UInt8.ofNat (XU x / 256 ^ j % 256)]) (w'.alloc (.cells #[.int .u8 (IntKind.u64.wrap x / 2 ^ (8 * j) % 256)] 5)) := fun w' j => by
    rw [EU8_all]
    exact src_one byteTy.ht w' _ _ (bc_shift x j)
  have HS := Lib.hid hs
  clear hs
  go_enter Tryd.func19, Tryd.ntmps19
  go_wp2_with fail
  go_loopw [0, 5] (fun v i wr => ∃ (j : Nat) (ao : Option Addr) (c : Nat), j ≤ 8 ∧ i = .int .i64 (j : Nat) ∧ v = .slice ao j c ∧ TxtR EU8 wr 5 w.heap.size ao j c (le j (XU x)) ∧ Below w.heap.size w wr) (fun _ i _ => 8 - (intOf i).toNat)
  case atStart => exact ⟨0, none, 0, by omega, rfl, rfl, TxtR.nil .., Below.refl _ _⟩
  case round =>
    obtain ⟨j, ao, c, hj, rfl, rfl, hT, hB⟩ := hrel
    have hs0 := hB.size
    by_cases hlt' : j < 8
    · have HL : Hid (le j (XU x) ++ [UInt8.ofNat (XU x / 256 ^ j % 256)] = le (j + 1) (XU x)) := by rw [le_snoc]; exact rfl
      go_wp2_with (at_builtin; refine wpList_append_txtR rfl _ _ 44 44 rfl 5 rowTyU8 w.heap.size ao j c (le j (XU x)) rfl (hT.past ((Below.refl _ _).alloc (Nat.le_refl _) _)) (by simp; omega) _ rfl 1 [UInt8.ofNat (XU x / 256 ^ j % 256)] (HS.out _ _) rfl (by omega) ?_; intro ao2 c2 w2 o2 b2)
      rw [HL.out] at o2
      go_roundw
      case rel => exact ⟨j + 1, ao2, c2, by omega, by go_num, rfl, o2, (hB.alloc hs0 _).trans b2⟩
      case measure => simp [intOf]; omega
    · go_wp2_with fail
      go_ret
      obtain rfl : j = 8 := by omega
      rcases hT.either with ⟨rfl, h0, -⟩ | ⟨g, rfl, o, hg⟩
      · omega
      · exact ⟨g, c, rfl, ownB_u8 o, hB, hg⟩
theorem ownR_u8 {w : World} {e : TypeId} {g n cap : Nat} {l : List UInt8} (h : OwnB w e g n cap l) : OwnR EU8 w e g n cap l := by
  obtain ⟨cur, hg, hs, ht⟩ := h.row
  exact ⟨h.len, h.le, h.max, cur, hg, by simpa [EU8] using hs, by rw [EU8_all]; simpa [EU8] using ht⟩
/-- A ROW OF THE CALL's OWN, IN A BLOCK FROM B ON, IS ANSWERED: N BYTES l; BELOW B ALL STANDS. -/
def WentB (w : World) (B N : Nat) (l : List UInt8) (en : Ending) (w' : World) : Prop :=
  ∃ g cap, en = .returned (.slice (some ⟨g, 0, none⟩) N cap) ∧ TxtR EU8 w' 5 B (some ⟨g, 0, none⟩) N cap l ∧ Below B w w'
theorem Fresh.b {w w' : World} {B N : Nat} {l : List UInt8} {en : Ending} (h : Fresh w N l en w') (hB : B ≤ w.heap.size) : WentB w B N l en w' := by
  obtain ⟨g, c, rfl, o, b, hg⟩ := h
  exact ⟨g, c, rfl, ⟨.inr ⟨g, rfl, ownR_u8 o, Nat.le_trans hB hg⟩⟩, b.mono hB⟩
theorem WentB.fresh {w w' : World} {N : Nat} {l : List UInt8} {en : Ending} (h : WentB w w.heap.size N l en w') : Fresh w N l en w' := by
  obtain ⟨g, c, rfl, o, b⟩ := h
  rcases o.either with ⟨h1, -⟩ | ⟨g', h1, o', hg⟩
  · cases h1
  · cases h1
    exact ⟨g, c, rfl, ownB_u8 o', b, hg⟩
theorem Went.b {w w' : World} {B g n N : Nat} {l : List UInt8} {en : Ending} (h : Went w g n N l en w') (hg : B ≤ g) (hB : B ≤ w.heap.size) : WentB w B N l en w' := by
  obtain ⟨g', c, rfl, o, p, hq⟩ := h
  exact ⟨g', c, rfl, ⟨.inr ⟨g', rfl, ownR_u8 o, hq.elim (fun e => e ▸ hg) (fun e => Nat.le_trans hB e)⟩⟩, p.below hg hB⟩
theorem TxtR.own8 {w : World} {e : TypeId} {B g n c : Nat} {l : List UInt8} (h : TxtR EU8 w e B (some ⟨g, 0, none⟩) n c l) : OwnB w e g n c l ∧ B ≤ g := by
  rcases h.either with ⟨h1, -⟩ | ⟨g', h1, o', hg⟩
  · cases h1
  · cases h1
    exact ⟨ownB_u8 o', hg⟩
section
variable {w : World} {B g n c N : Nat} {l L : List UInt8}
theorem rint0B (x : Int) (w : World) (hB : B ≤ w.heap.size) : Calls Tryd.prog 19 #[.slice none 0 0, .int .i64 x] w (WentB w B 8 (le 8 (XU x))) := (rint_nil x w).mono fun _ _ h => h.b hB
theorem rintB (x : Int) (h : TxtR EU8 w 5 B (some ⟨g, 0, none⟩) n c l) (hB : B ≤ w.heap.size) (hn : n ≤ 1000000) (hN : n + 8 = N) (hL : l ++ le 8 (XU x) = L) :
    Calls Tryd.prog 19 #[.slice (some ⟨g, 0, none⟩) n c, .int .i64 x] w (WentB w B N L) := by
  subst hN
  subst hL
  exact (rint_any g n c l x w h.own8.1 hn).mono fun _ _ k => k.b h.own8.2 hB
theorem rbyteB (x : Int) (h : TxtR EU8 w 5 B (some ⟨g, 0, none⟩) n c l) (hB : B ≤ w.heap.size) (hn : n ≤ 1000000) (hN : n + 1 = N) (hL : l ++ le 1 (XU x) = L) :
    Calls Tryd.prog 18 #[.slice (some ⟨g, 0, none⟩) n c, .int .i64 x] w (WentB w B N L) := by
  subst hN
  subst hL
  exact (rbyte_any g n c l x w h.own8.1 hn).mono fun _ _ k => k.b h.own8.2 hB
theorem rtextB (s : ByteArray) (h : TxtR EU8 w 5 B (some ⟨g, 0, none⟩) n c l) (hB : B ≤ w.heap.size) (hn : n ≤ 1000000) (hs : s.size ≤ 60000) (hN : n + (2 + s.size) = N) (hL : l ++ (le 2 s.size ++ s.data.toList) = L) :
    Calls Tryd.prog 17 #[.slice (some ⟨g, 0, none⟩) n c, .string s] w (WentB w B N L) := by
  subst hN
  subst hL
  exact (rtext_any g n c l s w h.own8.1 hn hs).mono fun _ _ k => k.b h.own8.2 hB
end
end Go.Proofs.YtdmnjjknkcnkgaaDoor
namespace Go.Proofs.YtdmnjjknkcnkgaaDoor
open Go.RowKit
set_option linter.unusedSimpArgs false
theorem rowT_eq (t s : Int) (tb : ByteArray) (op : Int) (l : List V) (h1 : tb.size ≤ 60000) (h2 : (encR l).length ≤ 60000) :
    ((((le 8 (XU t) ++ le 8 (XU s)) ++ le 1 (XU op)) ++ (le 2 tb.size ++ tb.data.toList)) ++ (le 2 (⟨(encR l).toArray⟩ : ByteArray).size ++ (⟨(encR l).toArray⟩ : ByteArray).data.toList)) = rowT t s ((tb, op), l) := by
  have e1 := tx_eq5 tb h1
  have e2 := tx_eq5 (⟨(encR l).toArray⟩ : ByteArray) (by simpa [ByteArray.size] using h2)
  rw [← e1, ← e2]
  simp only [rowT, List.append_assoc]
/-- What stands while the region's operations come up. -/
inductive RgT1 (B : Nat) (p : Nat) (t : Int) (s : Int) (tb : ByteArray) (op : Int) (ra : Option Addr) (rn : Nat) (rc : Nat) (l1 : List UInt8) (l2 : List UInt8) (l3 : List UInt8) (l4 : List UInt8) (n1 : Nat) (n2 : Nat) (n3 : Nat) (n4 : Nat) (a0 : Act) (w0 : World) (L : Array Bool) (a : Act) (w : World) : Prop
  | mk (b0 b1 b2 b3 b4 b5 b6 b7 b8 b9 b10 : Bool) (x8 x9 x10 x11 x12 x13 x14 x15 x16 x17 x7 : Value) (g1 : Nat) (c1 : Nat) (g2 : Nat) (c2 : Nat) (g3 : Nat) (c3 : Nat) (g4 : Nat) (c4 : Nat) (hL : L = #[b0, b1, b2, b3, b4, b5, b6, b7, b8, b9, b10]) (ha : a = ⟨(((((((((((a0.tmps.setIfInBounds 8 x8).setIfInBounds 9 x9).setIfInBounds 10 x10).setIfInBounds 11 x11).setIfInBounds 12 x12).setIfInBounds 13 x13).setIfInBounds 14 x14).setIfInBounds 15 x15).setIfInBounds 16 x16).setIfInBounds 17 x17).setIfInBounds 7 x7), a0.defers⟩) (hb : Below B w0 w) (cd0 : Hid (b0 = true → x8 = .int .i64 t)) (cd1 : Hid (b1 = true → x9 = .slice (some ⟨g1, 0, none⟩) n1 c1)) (cd2 : Hid (b2 = true → x10 = .int .i64 s)) (cd3 : Hid (b3 = true → x11 = .slice (some ⟨g2, 0, none⟩) n2 c2)) (cd4 : Hid (b4 = true → x12 = .pointer (some ⟨p, 1, none⟩))) (cd5 : Hid (b5 = true → x13 = .int .i64 op)) (cd6 : Hid (b6 = true → x14 = .slice (some ⟨g3, 0, none⟩) n3 c3)) (cd7 : Hid (b7 = true → x15 = .pointer (some ⟨p, 0, none⟩))) (cd8 : Hid (b8 = true → x16 = .string tb)) (cd9 : Hid (b9 = true → x17 = .slice (some ⟨g4, 0, none⟩) n4 c4)) (cd10 : Hid (b10 = true → x7 = .slice (some ⟨g4, 0, none⟩) n4 c4)) (f_p : Hid (Bk w p #[.string tb, .int .i64 op, .slice ra rn rc] 39)) (f_o3_1 : Hid ((b3 = true → b1 = true))) (f_o6_1 : Hid ((b6 = true → b1 = true))) (f_o6_3 : Hid ((b6 = true → b3 = true))) (f_o9_1 : Hid ((b9 = true → b1 = true))) (f_o9_3 : Hid ((b9 = true → b3 = true))) (f_o9_6 : Hid ((b9 = true → b6 = true))) (f_a : Hid (b1 = true → b3 = false → TxtR EU8 w 5 B (some ⟨g1, 0, none⟩) n1 c1 l1)) (f_b : Hid (b3 = true → b6 = false → TxtR EU8 w 5 B (some ⟨g2, 0, none⟩) n2 c2 l2)) (f_c : Hid (b6 = true → b9 = false → TxtR EU8 w 5 B (some ⟨g3, 0, none⟩) n3 c3 l3)) (f_d : Hid (b9 = true → TxtR EU8 w 5 B (some ⟨g4, 0, none⟩) n4 c4 l4)) (w_10_9 : Hid (b10 = true → b9 = true)) : RgT1 B p t s tb op ra rn rc l1 l2 l3 l4 n1 n2 n3 n4 a0 w0 L a w
set_option maxRecDepth 100000 in
set_option maxHeartbeats 1600000 in
theorem rowText_any (w : World) (t s : Int) (c : Chg) (ra : Option Addr) (rn rc : Nat) (h : IsR EV w ra rn rc c.2) (hok : ChOk c) :
    Calls Tryd.prog 10 #[.int .i64 t, .int .i64 s, .agg #[.string c.1.1, .int .i64 c.1.2, .slice ra rn rc]] w (Fresh w (rowT t s c).length (rowT t s c)) := by
  obtain ⟨⟨tb, op⟩, l⟩ := c
  obtain ⟨k1, k2, k3⟩ := hok
  simp only at k1 k2 k3 h ⊢
  have hln := h.len
  have e6 : (encR l).length ≤ 1 + 70 * 15 := by
    have := encVs_60 k3
    unfold encR
    rw [List.length_append, le_length]
    omega
  have hE := rowT_eq t s tb op l (by omega) (by omega)
  have HRB0 := fun (w' : World) (hw : IsR EV w' ra rn rc l) => rbytes_any ra rn rc l w' hw (by omega) (fun v hv => by have := k3 v hv; omega)
  have hlen : (rowT t s ((tb, op), l)).length = 17 + (2 + tb.size) + (2 + (encR l).length) := by
    rw [← hE]
    simp only [List.length_append, le_length, Array.length_toList, ByteArray.size, List.size_toArray]
  have hz6 : (⟨(encR l).toArray⟩ : ByteArray).size = (encR l).length := List.size_toArray
  obtain ⟨l6, hl6⟩ : ∃ x, encR l = x := ⟨_, rfl⟩
  simp only [hl6] at HRB0 hE hlen e6 hz6
  obtain ⟨l1, hl1⟩ : ∃ x, le 8 (XU t) = x := ⟨_, rfl⟩
  obtain ⟨l2, hl2⟩ : ∃ x, l1 ++ le 8 (XU s) = x := ⟨_, rfl⟩
  obtain ⟨l3, hl3⟩ : ∃ x, l2 ++ le 1 (XU op) = x := ⟨_, rfl⟩
  obtain ⟨l4, hl4⟩ : ∃ x, l3 ++ (le 2 tb.size ++ tb.data.toList) = x := ⟨_, rfl⟩
  rw [hl1, hl2, hl3, hl4] at hE
  obtain ⟨l5, hl5⟩ : ∃ x, rowT t s ((tb, op), l) = x := ⟨_, rfl⟩
  rw [hl5] at hE hlen ⊢
  obtain ⟨n6, hn6⟩ : ∃ n, l6.length = n := ⟨_, rfl⟩
  obtain ⟨n1, hn1⟩ : ∃ n, 8 = n := ⟨_, rfl⟩
  obtain ⟨n2, hn2⟩ : ∃ n, n1 + 8 = n := ⟨_, rfl⟩
  obtain ⟨n3, hn3⟩ : ∃ n, n2 + 1 = n := ⟨_, rfl⟩
  obtain ⟨n4, hn4⟩ : ∃ n, n3 + (2 + tb.size) = n := ⟨_, rfl⟩
  obtain ⟨n5, hn5⟩ : ∃ n, n4 + (2 + (⟨l6.toArray⟩ : ByteArray).size) = n := ⟨_, rfl⟩
  rw [show l5.length = n5 by omega]
  simp only [hn6] at HRB0
  have HI1 : ∀ (w : World) {B : Nat}, B ≤ w.heap.size → Calls Tryd.prog 19 #[.slice none 0 0, .int .i64 t] w (WentB w B n1 l1) := fun w B hB => by subst hn1; rw [← hl1]; exact rint0B t w hB
  have HI2 : ∀ (w : World) {B : Nat} (g c : Nat), TxtR EU8 w 5 B (some ⟨g, 0, none⟩) n1 c l1 → B ≤ w.heap.size → Calls Tryd.prog 19 #[.slice (some ⟨g, 0, none⟩) n1 c, .int .i64 s] w (WentB w B n2 l2) := fun w B g c h hB => rintB s h hB (by omega) hn2 hl2
  have HBy : ∀ (w : World) {B : Nat} (g c : Nat), TxtR EU8 w 5 B (some ⟨g, 0, none⟩) n2 c l2 → B ≤ w.heap.size → Calls Tryd.prog 18 #[.slice (some ⟨g, 0, none⟩) n2 c, .int .i64 op] w (WentB w B n3 l3) := fun w B g c h hB => rbyteB op h hB (by omega) hn3 hl3
  have HT1 : ∀ (w : World) {B : Nat} (g c : Nat), TxtR EU8 w 5 B (some ⟨g, 0, none⟩) n3 c l3 → B ≤ w.heap.size → Calls Tryd.prog 17 #[.slice (some ⟨g, 0, none⟩) n3 c, .string tb] w (WentB w B n4 l4) := fun w B g c h hB => rtextB tb h hB (by omega) (by omega) hn4 hl4
  have HT2 : ∀ (w : World) {B : Nat} (g c : Nat), TxtR EU8 w 5 B (some ⟨g, 0, none⟩) n4 c l4 → B ≤ w.heap.size → Calls Tryd.prog 17 #[.slice (some ⟨g, 0, none⟩) n4 c, .string (⟨l6.toArray⟩ : ByteArray)] w (WentB w B n5 l5) := fun w B g c h hB => rtextB (⟨l6.toArray⟩ : ByteArray) h hB (by omega) (by omega) hn5 hE
  clear hl1 hl2 hl3 hl4 hl5 hE hlen hn1 hn2 hn3 hn4 hn5 hn6 hz6 e6 k1 k2 k3 hl6
  have B0 : Below w.heap.size w (w.alloc (.cells #[.string tb, .int .i64 op, .slice ra rn rc] 39)) := (Below.refl _ _).alloc (Nat.le_refl _) _
  have hP0 : Bk (w.alloc (.cells #[.string tb, .int .i64 op, .slice ra rn rc] 39)) w.heap.size #[.string tb, .int .i64 op, .slice ra rn rc] 39 := Bk.new w _ _
  have h0 := h.past B0
  have hs0 := World.size_alloc w (.cells #[.string tb, .int .i64 op, .slice ra rn rc] 39)
  go_enter Tryd.func10, Tryd.ntmps10
  go_upto_region 1 with fail
  obtain ⟨p, hp⟩ : ∃ p, w.heap.size = p := ⟨_, rfl⟩
  obtain ⟨q, hq⟩ : ∃ q, p + 1 = q := ⟨_, rfl⟩
  have HG := Lib.hid hp
  rw [hp] at hP0 hs0
  rw [hq] at hs0
  simp only [hp]
  have B1 : Below q (w.alloc (.cells #[.string tb, .int .i64 op, .slice ra rn rc] 39)) (w.alloc (.cells #[.string tb, .int .i64 op, .slice ra rn rc] 39)) := Below.refl _ _
  have BW : Below p w (w.alloc (.cells #[.string tb, .int .i64 op, .slice ra rn rc] 39)) := by rw [← hp]; exact B0
  generalize w.alloc (.cells #[.string tb, .int .i64 op, .slice ra rn rc] 39) = W at hP0 h0 hs0 B1 BW ⊢
  have hP := hP0
  have hsq0 : Hid (W.heap.size = q) := Lib.hid (by omega)
  have hpq : p < q := by omega
  have hB0 : q ≤ W.heap.size := Nat.le_of_eq hs0.symm
  clear hp hq B0 h hs0 hP0
  have hsq := hsq0
  refine region_inv (RgT1 q p t s tb op ra rn rc l1 l2 l3 l4 n1 n2 n3 n4) (by kernel_rfl) (by kernel_rfl) ?_ ?_ ?_
  · exact ⟨false, false, false, false, false, false, false, false, false, false, false, undef, undef, undef, undef, undef, undef, undef, undef, undef, undef, undef, 0, 0, 0, 0, 0, 0, 0, 0, rfl, (by simp only [Act.put, List.setIfInBounds_toArray, List.set_cons_zero, List.set_cons_succ]), Below.refl _ _, (fun h => by cases h), (fun h => by cases h), (fun h => by cases h), (fun h => by cases h), (fun h => by cases h), (fun h => by cases h), (fun h => by cases h), (fun h => by cases h), (fun h => by cases h), (fun h => by cases h), (fun h => by cases h), (hP.past (Below.refl _ _).drew), ((fun h => by cases h)), ((fun h => by cases h)), ((fun h => by cases h)), ((fun h => by cases h)), ((fun h => by cases h)), ((fun h => by cases h)), (fun h => by cases h), (fun h => by cases h), (fun h => by cases h), (fun h => by cases h), (fun h => by cases h)⟩
  · refine ⟨?_, ?_, ?_, ?_, ?_, ?_, ?_, ?_, ?_, ?_, ?_, trivial⟩
    · rintro L a w ⟨b0, b1, b2, b3, b4, b5, b6, b7, b8, b9, b10, x8, x9, x10, x11, x12, x13, x14, x15, x16, x17, x7, g1, c1, g2, c2, g3, c3, g4, c4, rfl, rfl, hb, cd0, cd1, cd2, cd3, cd4, cd5, cd6, cd7, cd8, cd9, cd10, f_p, f_o3_1, f_o6_1, f_o6_3, f_o9_1, f_o9_3, f_o9_6, f_a, f_b, f_c, f_d, w_10_9⟩ hf hd
      have hf' : b0 = false := hf
      subst hf'
      clear hf hd
      have W_p := f_p.out
      have W_o3_1 := f_o3_1.out
      have W_o6_1 := f_o6_1.out
      have W_o6_3 := f_o6_3.out
      have W_o9_1 := f_o9_1.out
      have W_o9_3 := f_o9_3.out
      have W_o9_6 := f_o9_6.out
      try simp only [List.setIfInBounds_toArray, List.set_cons_zero, List.set_cons_succ]
      intro K hK
      rw [if_pos (by rfl)]
      go_simp
      exact hK.out _ _ ⟨true, b1, b2, b3, b4, b5, b6, b7, b8, b9, b10, (.int .i64 t), x9, x10, x11, x12, x13, x14, x15, x16, x17, x7, g1, c1, g2, c2, g3, c3, g4, c4, (by simp only [Act.put, List.setIfInBounds_toArray, List.set_cons_zero, List.set_cons_succ]), (by simp only [Act.put, List.setIfInBounds_toArray, List.set_cons_zero, List.set_cons_succ]), hb, (fun _ => rfl), cd1, cd2, cd3, cd4, cd5, cd6, cd7, cd8, cd9, cd10, f_p, f_o3_1, f_o6_1, f_o6_3, f_o9_1, f_o9_3, f_o9_6, f_a, f_b, f_c, f_d, w_10_9⟩
    · rintro L a w ⟨b0, b1, b2, b3, b4, b5, b6, b7, b8, b9, b10, x8, x9, x10, x11, x12, x13, x14, x15, x16, x17, x7, g1, c1, g2, c2, g3, c3, g4, c4, rfl, rfl, hb, cd0, cd1, cd2, cd3, cd4, cd5, cd6, cd7, cd8, cd9, cd10, f_p, f_o3_1, f_o6_1, f_o6_3, f_o9_1, f_o9_3, f_o9_6, f_a, f_b, f_c, f_d, w_10_9⟩ hf hd
      have hf' : b1 = false := hf
      subst hf'
      have d0 : b0 = true := hd ⟨0, .data⟩ (by simp) rfl
      subst d0
      obtain rfl := cd0.out rfl
      clear hf hd
      have W_p := f_p.out
      have W_o3_1 := f_o3_1.out
      have W_o6_1 := f_o6_1.out
      have W_o6_3 := f_o6_3.out
      have W_o9_1 := f_o9_1.out
      have W_o9_3 := f_o9_3.out
      have W_o9_6 := f_o9_6.out
      try simp only [List.setIfInBounds_toArray, List.set_cons_zero, List.set_cons_succ]
      intro K hK
      rw [if_pos (by rfl)]
      go_simp
      go_at_call 19
      refine (HI1 _ (Nat.le_trans hB0 hb.size)).mono ?_
      rintro e w2 ⟨g, c, rfl, o9, bz9⟩
      have hb2 := hb.trans bz9
      exact hK.out _ _ ⟨true, true, b2, b3, b4, b5, b6, b7, b8, b9, b10, .int .i64 t, (.slice (some ⟨g, 0, none⟩) n1 c), x10, x11, x12, x13, x14, x15, x16, x17, x7, g, c, g2, c2, g3, c3, g4, c4, (by simp only [Act.put, List.setIfInBounds_toArray, List.set_cons_zero, List.set_cons_succ]), (by simp only [Act.put, List.setIfInBounds_toArray, List.set_cons_zero, List.set_cons_succ]), hb2, (fun _ => rfl), (fun _ => rfl), cd2, cd3, cd4, cd5, cd6, cd7, cd8, cd9, cd10, (Bk.past9 f_p.out bz9 hpq), (fun _ => rfl), (fun _ => rfl), f_o6_3, (fun _ => rfl), f_o9_3, f_o9_6, (fun _ _ => o9), (fun h0 _ => absurd (f_o3_1.out h0) (by simp)), (fun h0 _ => absurd (f_o6_1.out h0) (by simp)), (fun h0 => absurd (f_o9_1.out h0) (by simp)), w_10_9⟩
    · rintro L a w ⟨b0, b1, b2, b3, b4, b5, b6, b7, b8, b9, b10, x8, x9, x10, x11, x12, x13, x14, x15, x16, x17, x7, g1, c1, g2, c2, g3, c3, g4, c4, rfl, rfl, hb, cd0, cd1, cd2, cd3, cd4, cd5, cd6, cd7, cd8, cd9, cd10, f_p, f_o3_1, f_o6_1, f_o6_3, f_o9_1, f_o9_3, f_o9_6, f_a, f_b, f_c, f_d, w_10_9⟩ hf hd
      have hf' : b2 = false := hf
      subst hf'
      clear hf hd
      have W_p := f_p.out
      have W_o3_1 := f_o3_1.out
      have W_o6_1 := f_o6_1.out
      have W_o6_3 := f_o6_3.out
      have W_o9_1 := f_o9_1.out
      have W_o9_3 := f_o9_3.out
      have W_o9_6 := f_o9_6.out
      try simp only [List.setIfInBounds_toArray, List.set_cons_zero, List.set_cons_succ]
      intro K hK
      rw [if_pos (by rfl)]
      go_simp
      exact hK.out _ _ ⟨b0, b1, true, b3, b4, b5, b6, b7, b8, b9, b10, x8, x9, (.int .i64 s), x11, x12, x13, x14, x15, x16, x17, x7, g1, c1, g2, c2, g3, c3, g4, c4, (by simp only [Act.put, List.setIfInBounds_toArray, List.set_cons_zero, List.set_cons_succ]), (by simp only [Act.put, List.setIfInBounds_toArray, List.set_cons_zero, List.set_cons_succ]), hb, cd0, cd1, (fun _ => rfl), cd3, cd4, cd5, cd6, cd7, cd8, cd9, cd10, f_p, f_o3_1, f_o6_1, f_o6_3, f_o9_1, f_o9_3, f_o9_6, f_a, f_b, f_c, f_d, w_10_9⟩
    · rintro L a w ⟨b0, b1, b2, b3, b4, b5, b6, b7, b8, b9, b10, x8, x9, x10, x11, x12, x13, x14, x15, x16, x17, x7, g1, c1, g2, c2, g3, c3, g4, c4, rfl, rfl, hb, cd0, cd1, cd2, cd3, cd4, cd5, cd6, cd7, cd8, cd9, cd10, f_p, f_o3_1, f_o6_1, f_o6_3, f_o9_1, f_o9_3, f_o9_6, f_a, f_b, f_c, f_d, w_10_9⟩ hf hd
      have hf' : b3 = false := hf
      subst hf'
      have d1 : b1 = true := hd ⟨1, .data⟩ (by simp) rfl
      subst d1
      have d2 : b2 = true := hd ⟨2, .data⟩ (by simp) rfl
      subst d2
      obtain rfl := cd1.out rfl
      obtain rfl := cd2.out rfl
      clear hf hd
      have W_p := f_p.out
      have W_o3_1 := f_o3_1.out
      have W_o6_1 := f_o6_1.out
      have W_o6_3 := f_o6_3.out
      have W_o9_1 := f_o9_1.out
      have W_o9_3 := f_o9_3.out
      have W_o9_6 := f_o9_6.out
      have W_a := f_a.out rfl rfl
      try simp only [List.setIfInBounds_toArray, List.set_cons_zero, List.set_cons_succ]
      intro K hK
      rw [if_pos (by rfl)]
      go_simp
      go_at_call 19
      refine (HI2 _ _ _ W_a (Nat.le_trans hB0 hb.size)).mono ?_
      rintro e w2 ⟨g, c, rfl, o9, bz9⟩
      have hb2 := hb.trans bz9
      exact hK.out _ _ ⟨b0, true, true, true, b4, b5, b6, b7, b8, b9, b10, x8, .slice (some ⟨g1, 0, none⟩) n1 c1, .int .i64 s, (.slice (some ⟨g, 0, none⟩) n2 c), x12, x13, x14, x15, x16, x17, x7, g1, c1, g, c, g3, c3, g4, c4, (by simp only [Act.put, List.setIfInBounds_toArray, List.set_cons_zero, List.set_cons_succ]), (by simp only [Act.put, List.setIfInBounds_toArray, List.set_cons_zero, List.set_cons_succ]), hb2, cd0, (fun _ => rfl), (fun _ => rfl), (fun _ => rfl), cd4, cd5, cd6, cd7, cd8, cd9, cd10, (Bk.past9 f_p.out bz9 hpq), (fun _ => rfl), f_o6_1, (fun _ => rfl), f_o9_1, (fun _ => rfl), f_o9_6, (fun _ h => by cases h), (fun _ _ => o9), (fun h0 _ => absurd (f_o6_3.out h0) (by simp)), (fun h0 => absurd (f_o9_3.out h0) (by simp)), w_10_9⟩
    · rintro L a w ⟨b0, b1, b2, b3, b4, b5, b6, b7, b8, b9, b10, x8, x9, x10, x11, x12, x13, x14, x15, x16, x17, x7, g1, c1, g2, c2, g3, c3, g4, c4, rfl, rfl, hb, cd0, cd1, cd2, cd3, cd4, cd5, cd6, cd7, cd8, cd9, cd10, f_p, f_o3_1, f_o6_1, f_o6_3, f_o9_1, f_o9_3, f_o9_6, f_a, f_b, f_c, f_d, w_10_9⟩ hf hd
      have hf' : b4 = false := hf
      subst hf'
      clear hf hd
      have W_p := f_p.out
      have W_o3_1 := f_o3_1.out
      have W_o6_1 := f_o6_1.out
      have W_o6_3 := f_o6_3.out
      have W_o9_1 := f_o9_1.out
      have W_o9_3 := f_o9_3.out
      have W_o9_6 := f_o9_6.out
      try simp only [List.setIfInBounds_toArray, List.set_cons_zero, List.set_cons_succ]
      intro K hK
      rw [if_pos (by rfl)]
      go_simp
      exact hK.out _ _ ⟨b0, b1, b2, b3, true, b5, b6, b7, b8, b9, b10, x8, x9, x10, x11, (.pointer (some ⟨p, 1, none⟩)), x13, x14, x15, x16, x17, x7, g1, c1, g2, c2, g3, c3, g4, c4, (by simp only [Act.put, List.setIfInBounds_toArray, List.set_cons_zero, List.set_cons_succ]), (by simp only [Act.put, List.setIfInBounds_toArray, List.set_cons_zero, List.set_cons_succ]), hb, cd0, cd1, cd2, cd3, (fun _ => rfl), cd5, cd6, cd7, cd8, cd9, cd10, f_p, f_o3_1, f_o6_1, f_o6_3, f_o9_1, f_o9_3, f_o9_6, f_a, f_b, f_c, f_d, w_10_9⟩
    · rintro L a w ⟨b0, b1, b2, b3, b4, b5, b6, b7, b8, b9, b10, x8, x9, x10, x11, x12, x13, x14, x15, x16, x17, x7, g1, c1, g2, c2, g3, c3, g4, c4, rfl, rfl, hb, cd0, cd1, cd2, cd3, cd4, cd5, cd6, cd7, cd8, cd9, cd10, f_p, f_o3_1, f_o6_1, f_o6_3, f_o9_1, f_o9_3, f_o9_6, f_a, f_b, f_c, f_d, w_10_9⟩ hf hd
      have hf' : b5 = false := hf
      subst hf'
      have d4 : b4 = true := hd ⟨4, .data⟩ (by simp) rfl
      subst d4
      obtain rfl := cd4.out rfl
      clear hf hd
      have W_p := f_p.out
      have W_o3_1 := f_o3_1.out
      have W_o6_1 := f_o6_1.out
      have W_o6_3 := f_o6_3.out
      have W_o9_1 := f_o9_1.out
      have W_o9_3 := f_o9_3.out
      have W_o9_6 := f_o9_6.out
      try simp only [List.setIfInBounds_toArray, List.set_cons_zero, List.set_cons_succ]
      obtain ⟨z0, z1, z2⟩ := chg_cells W_p
      intro K hK
      rw [if_pos (by rfl)]
      go_simp
      exact hK.out _ _ ⟨b0, b1, b2, b3, true, true, b6, b7, b8, b9, b10, x8, x9, x10, x11, .pointer (some ⟨p, 1, none⟩), (.int .i64 op), x14, x15, x16, x17, x7, g1, c1, g2, c2, g3, c3, g4, c4, (by simp only [Act.put, List.setIfInBounds_toArray, List.set_cons_zero, List.set_cons_succ]), (by simp only [Act.put, List.setIfInBounds_toArray, List.set_cons_zero, List.set_cons_succ]), hb, cd0, cd1, cd2, cd3, (fun _ => rfl), (fun _ => rfl), cd6, cd7, cd8, cd9, cd10, f_p, f_o3_1, f_o6_1, f_o6_3, f_o9_1, f_o9_3, f_o9_6, f_a, f_b, f_c, f_d, w_10_9⟩
    · rintro L a w ⟨b0, b1, b2, b3, b4, b5, b6, b7, b8, b9, b10, x8, x9, x10, x11, x12, x13, x14, x15, x16, x17, x7, g1, c1, g2, c2, g3, c3, g4, c4, rfl, rfl, hb, cd0, cd1, cd2, cd3, cd4, cd5, cd6, cd7, cd8, cd9, cd10, f_p, f_o3_1, f_o6_1, f_o6_3, f_o9_1, f_o9_3, f_o9_6, f_a, f_b, f_c, f_d, w_10_9⟩ hf hd
      have hf' : b6 = false := hf
      subst hf'
      have d3 : b3 = true := hd ⟨3, .data⟩ (by simp) rfl
      subst d3
      have d5 : b5 = true := hd ⟨5, .data⟩ (by simp) rfl
      subst d5
      obtain rfl := cd3.out rfl
      obtain rfl := cd5.out rfl
      clear hf hd
      have W_p := f_p.out
      have W_o3_1 := f_o3_1.out
      have W_o6_1 := f_o6_1.out
      have W_o6_3 := f_o6_3.out
      have W_o9_1 := f_o9_1.out
      have W_o9_3 := f_o9_3.out
      have W_o9_6 := f_o9_6.out
      have W_b := f_b.out rfl rfl
      try simp only [List.setIfInBounds_toArray, List.set_cons_zero, List.set_cons_succ]
      intro K hK
      rw [if_pos (by rfl)]
      go_simp
      go_at_call 18
      refine (HBy _ _ _ W_b (Nat.le_trans hB0 hb.size)).mono ?_
      rintro e w2 ⟨g, c, rfl, o9, bz9⟩
      have hb2 := hb.trans bz9
      exact hK.out _ _ ⟨b0, b1, b2, true, b4, true, true, b7, b8, b9, b10, x8, x9, x10, .slice (some ⟨g2, 0, none⟩) n2 c2, x12, .int .i64 op, (.slice (some ⟨g, 0, none⟩) n3 c), x15, x16, x17, x7, g1, c1, g2, c2, g, c, g4, c4, (by simp only [Act.put, List.setIfInBounds_toArray, List.set_cons_zero, List.set_cons_succ]), (by simp only [Act.put, List.setIfInBounds_toArray, List.set_cons_zero, List.set_cons_succ]), hb2, cd0, cd1, cd2, (fun _ => rfl), cd4, (fun _ => rfl), (fun _ => rfl), cd7, cd8, cd9, cd10, (Bk.past9 f_p.out bz9 hpq), f_o3_1, (fun _ => f_o3_1.out rfl), (fun _ => rfl), f_o9_1, f_o9_3, (fun _ => rfl), (fun _ h => by cases h), (fun _ h => by cases h), (fun _ _ => o9), (fun h0 => absurd (f_o9_6.out h0) (by simp)), w_10_9⟩
    · rintro L a w ⟨b0, b1, b2, b3, b4, b5, b6, b7, b8, b9, b10, x8, x9, x10, x11, x12, x13, x14, x15, x16, x17, x7, g1, c1, g2, c2, g3, c3, g4, c4, rfl, rfl, hb, cd0, cd1, cd2, cd3, cd4, cd5, cd6, cd7, cd8, cd9, cd10, f_p, f_o3_1, f_o6_1, f_o6_3, f_o9_1, f_o9_3, f_o9_6, f_a, f_b, f_c, f_d, w_10_9⟩ hf hd
      have hf' : b7 = false := hf
      subst hf'
      clear hf hd
      have W_p := f_p.out
      have W_o3_1 := f_o3_1.out
      have W_o6_1 := f_o6_1.out
      have W_o6_3 := f_o6_3.out
      have W_o9_1 := f_o9_1.out
      have W_o9_3 := f_o9_3.out
      have W_o9_6 := f_o9_6.out
      try simp only [List.setIfInBounds_toArray, List.set_cons_zero, List.set_cons_succ]
      intro K hK
      rw [if_pos (by rfl)]
      go_simp
      exact hK.out _ _ ⟨b0, b1, b2, b3, b4, b5, b6, true, b8, b9, b10, x8, x9, x10, x11, x12, x13, x14, (.pointer (some ⟨p, 0, none⟩)), x16, x17, x7, g1, c1, g2, c2, g3, c3, g4, c4, (by simp only [Act.put, List.setIfInBounds_toArray, List.set_cons_zero, List.set_cons_succ]), (by simp only [Act.put, List.setIfInBounds_toArray, List.set_cons_zero, List.set_cons_succ]), hb, cd0, cd1, cd2, cd3, cd4, cd5, cd6, (fun _ => rfl), cd8, cd9, cd10, f_p, f_o3_1, f_o6_1, f_o6_3, f_o9_1, f_o9_3, f_o9_6, f_a, f_b, f_c, f_d, w_10_9⟩
    · rintro L a w ⟨b0, b1, b2, b3, b4, b5, b6, b7, b8, b9, b10, x8, x9, x10, x11, x12, x13, x14, x15, x16, x17, x7, g1, c1, g2, c2, g3, c3, g4, c4, rfl, rfl, hb, cd0, cd1, cd2, cd3, cd4, cd5, cd6, cd7, cd8, cd9, cd10, f_p, f_o3_1, f_o6_1, f_o6_3, f_o9_1, f_o9_3, f_o9_6, f_a, f_b, f_c, f_d, w_10_9⟩ hf hd
      have hf' : b8 = false := hf
      subst hf'
      have d7 : b7 = true := hd ⟨7, .data⟩ (by simp) rfl
      subst d7
      obtain rfl := cd7.out rfl
      clear hf hd
      have W_p := f_p.out
      have W_o3_1 := f_o3_1.out
      have W_o6_1 := f_o6_1.out
      have W_o6_3 := f_o6_3.out
      have W_o9_1 := f_o9_1.out
      have W_o9_3 := f_o9_3.out
      have W_o9_6 := f_o9_6.out
      try simp only [List.setIfInBounds_toArray, List.set_cons_zero, List.set_cons_succ]
      obtain ⟨z0, z1, z2⟩ := chg_cells W_p
      intro K hK
      rw [if_pos (by rfl)]
      go_simp
      exact hK.out _ _ ⟨b0, b1, b2, b3, b4, b5, b6, true, true, b9, b10, x8, x9, x10, x11, x12, x13, x14, .pointer (some ⟨p, 0, none⟩), (.string tb), x17, x7, g1, c1, g2, c2, g3, c3, g4, c4, (by simp only [Act.put, List.setIfInBounds_toArray, List.set_cons_zero, List.set_cons_succ]), (by simp only [Act.put, List.setIfInBounds_toArray, List.set_cons_zero, List.set_cons_succ]), hb, cd0, cd1, cd2, cd3, cd4, cd5, cd6, (fun _ => rfl), (fun _ => rfl), cd9, cd10, f_p, f_o3_1, f_o6_1, f_o6_3, f_o9_1, f_o9_3, f_o9_6, f_a, f_b, f_c, f_d, w_10_9⟩
    · rintro L a w ⟨b0, b1, b2, b3, b4, b5, b6, b7, b8, b9, b10, x8, x9, x10, x11, x12, x13, x14, x15, x16, x17, x7, g1, c1, g2, c2, g3, c3, g4, c4, rfl, rfl, hb, cd0, cd1, cd2, cd3, cd4, cd5, cd6, cd7, cd8, cd9, cd10, f_p, f_o3_1, f_o6_1, f_o6_3, f_o9_1, f_o9_3, f_o9_6, f_a, f_b, f_c, f_d, w_10_9⟩ hf hd
      have hf' : b9 = false := hf
      subst hf'
      have d6 : b6 = true := hd ⟨6, .data⟩ (by simp) rfl
      subst d6
      have d8 : b8 = true := hd ⟨8, .data⟩ (by simp) rfl
      subst d8
      obtain rfl := cd6.out rfl
      obtain rfl := cd8.out rfl
      clear hf hd
      have W_p := f_p.out
      have W_o3_1 := f_o3_1.out
      have W_o6_1 := f_o6_1.out
      have W_o6_3 := f_o6_3.out
      have W_o9_1 := f_o9_1.out
      have W_o9_3 := f_o9_3.out
      have W_o9_6 := f_o9_6.out
      have W_c := f_c.out rfl rfl
      try simp only [List.setIfInBounds_toArray, List.set_cons_zero, List.set_cons_succ]
      intro K hK
      rw [if_pos (by rfl)]
      go_simp
      go_at_call 17
      refine (HT1 _ _ _ W_c (Nat.le_trans hB0 hb.size)).mono ?_
      rintro e w2 ⟨g, c, rfl, o9, bz9⟩
      have hb2 := hb.trans bz9
      have e_10 : b10 = false := by cases hq : b10 with | false => rfl | true => exact absurd (w_10_9.out hq) (by simp)
      subst e_10
      exact hK.out _ _ ⟨b0, b1, b2, b3, b4, b5, true, b7, true, true, false, x8, x9, x10, x11, x12, x13, .slice (some ⟨g3, 0, none⟩) n3 c3, x15, .string tb, (.slice (some ⟨g, 0, none⟩) n4 c), x7, g1, c1, g2, c2, g3, c3, g, c, (by simp only [Act.put, List.setIfInBounds_toArray, List.set_cons_zero, List.set_cons_succ]), (by simp only [Act.put, List.setIfInBounds_toArray, List.set_cons_zero, List.set_cons_succ]), hb2, cd0, cd1, cd2, cd3, cd4, cd5, (fun _ => rfl), cd7, (fun _ => rfl), (fun _ => rfl), (fun h => by cases h), (Bk.past9 f_p.out bz9 hpq), f_o3_1, f_o6_1, f_o6_3, (fun _ => f_o6_1.out rfl), (fun _ => f_o6_3.out rfl), (fun _ => rfl), (fun _ h1 => by rw [f_o6_3.out rfl] at h1; cases h1), (fun _ h => by cases h), (fun _ h => by cases h), (fun _ => o9), (fun _ => rfl)⟩
    · rintro L a w ⟨b0, b1, b2, b3, b4, b5, b6, b7, b8, b9, b10, x8, x9, x10, x11, x12, x13, x14, x15, x16, x17, x7, g1, c1, g2, c2, g3, c3, g4, c4, rfl, rfl, hb, cd0, cd1, cd2, cd3, cd4, cd5, cd6, cd7, cd8, cd9, cd10, f_p, f_o3_1, f_o6_1, f_o6_3, f_o9_1, f_o9_3, f_o9_6, f_a, f_b, f_c, f_d, w_10_9⟩ hf hd
      have hf' : b10 = false := hf
      subst hf'
      have d9 : b9 = true := hd ⟨9, .data⟩ (by simp) rfl
      subst d9
      have d0 : b0 = true := hd ⟨0, .phase⟩ (by simp) rfl
      subst d0
      have d1 : b1 = true := hd ⟨1, .phase⟩ (by simp) rfl
      subst d1
      have d2 : b2 = true := hd ⟨2, .phase⟩ (by simp) rfl
      subst d2
      have d3 : b3 = true := hd ⟨3, .phase⟩ (by simp) rfl
      subst d3
      have d4 : b4 = true := hd ⟨4, .phase⟩ (by simp) rfl
      subst d4
      have d5 : b5 = true := hd ⟨5, .phase⟩ (by simp) rfl
      subst d5
      have d6 : b6 = true := hd ⟨6, .phase⟩ (by simp) rfl
      subst d6
      have d7 : b7 = true := hd ⟨7, .phase⟩ (by simp) rfl
      subst d7
      have d8 : b8 = true := hd ⟨8, .phase⟩ (by simp) rfl
      subst d8
      obtain rfl := cd9.out rfl
      obtain rfl := cd0.out rfl
      obtain rfl := cd1.out rfl
      obtain rfl := cd2.out rfl
      obtain rfl := cd3.out rfl
      obtain rfl := cd4.out rfl
      obtain rfl := cd5.out rfl
      obtain rfl := cd6.out rfl
      obtain rfl := cd7.out rfl
      obtain rfl := cd8.out rfl
      clear hf hd
      have W_p := f_p.out
      have W_o3_1 := f_o3_1.out
      have W_o6_1 := f_o6_1.out
      have W_o6_3 := f_o6_3.out
      have W_o9_1 := f_o9_1.out
      have W_o9_3 := f_o9_3.out
      have W_o9_6 := f_o9_6.out
      have W_d := f_d.out rfl
      try simp only [List.setIfInBounds_toArray, List.set_cons_zero, List.set_cons_succ]
      intro K hK
      rw [if_pos (by rfl)]
      go_simp
      exact hK.out _ _ ⟨true, true, true, true, true, true, true, true, true, true, true, .int .i64 t, .slice (some ⟨g1, 0, none⟩) n1 c1, .int .i64 s, .slice (some ⟨g2, 0, none⟩) n2 c2, .pointer (some ⟨p, 1, none⟩), .int .i64 op, .slice (some ⟨g3, 0, none⟩) n3 c3, .pointer (some ⟨p, 0, none⟩), .string tb, .slice (some ⟨g4, 0, none⟩) n4 c4, (.slice (some ⟨g4, 0, none⟩) n4 c4), g1, c1, g2, c2, g3, c3, g4, c4, (by simp only [Act.put, List.setIfInBounds_toArray, List.set_cons_zero, List.set_cons_succ]), (by simp only [Act.put, List.setIfInBounds_toArray, List.set_cons_zero, List.set_cons_succ]), hb, (fun _ => rfl), (fun _ => rfl), (fun _ => rfl), (fun _ => rfl), (fun _ => rfl), (fun _ => rfl), (fun _ => rfl), (fun _ => rfl), (fun _ => rfl), (fun _ => rfl), (fun _ => rfl), f_p, f_o3_1, f_o6_1, f_o6_3, f_o9_1, f_o9_3, f_o9_6, (fun _ h => by cases h), (fun _ h => by cases h), (fun _ h => by cases h), f_d, (fun _ => rfl)⟩
  · rintro act1 V1 ⟨b0, b1, b2, b3, b4, b5, b6, b7, b8, b9, b10, x8, x9, x10, x11, x12, x13, x14, x15, x16, x17, x7, g1, c1, g2, c2, g3, c3, g4, c4, hL, rfl, hb, cd0, cd1, cd2, cd3, cd4, cd5, cd6, cd7, cd8, cd9, cd10, f_p, f_o3_1, f_o6_1, f_o6_3, f_o9_1, f_o9_3, f_o9_6, f_a, f_b, f_c, f_d, w_10_9⟩
    have hL' : [true, true, true, true, true, true, true, true, true, true, true] = [b0, b1, b2, b3, b4, b5, b6, b7, b8, b9, b10] := congrArg Array.toList hL
    simp only [List.cons.injEq, and_true] at hL'
    obtain ⟨rfl, rfl, rfl, rfl, rfl, rfl, rfl, rfl, rfl, rfl, rfl⟩ := hL'
    obtain rfl := cd0.out rfl
    obtain rfl := cd1.out rfl
    obtain rfl := cd2.out rfl
    obtain rfl := cd3.out rfl
    obtain rfl := cd4.out rfl
    obtain rfl := cd5.out rfl
    obtain rfl := cd6.out rfl
    obtain rfl := cd7.out rfl
    obtain rfl := cd8.out rfl
    obtain rfl := cd9.out rfl
    obtain rfl := cd10.out rfl
    have W_p := f_p.out
    have W_o3_1 := f_o3_1.out
    have W_o6_1 := f_o6_1.out
    have W_o6_3 := f_o6_3.out
    have W_o9_1 := f_o9_1.out
    have W_o9_3 := f_o9_3.out
    have W_o9_6 := f_o9_6.out
    have W_d := f_d.out rfl
    clear hL f_p f_o3_1 f_o6_1 f_o6_3 f_o9_1 f_o9_3 f_o9_6 f_a f_b f_c f_d cd0 cd1 cd2 cd3 cd4 cd5 cd6 cd7 cd8 cd9 cd10 w_10_9
    simp only [List.setIfInBounds_toArray, List.set_cons_zero, List.set_cons_succ]
    have B2 : Below q W V1 := (Below.refl _ _).drew.trans hb
    have hP2 := W_p
    have hD2 := W_d
    have hB02 : q ≤ V1.heap.size := Nat.le_trans hB0 hb.size
    clear W_p W_d hb hP hB0 HI1 HI2 HBy HT1
    have hB0 := hB02
    have HRB := fun (w' : World) (hb' : Below V1.heap.size V1 w') => HRB0 w' (h0.past (by rw [hsq.out]; exact B2.trans (hb'.mono hB02)))
    clear HRB0
    obtain ⟨gd, rfl⟩ : ∃ x, x = g4 := ⟨_, rfl⟩
    obtain ⟨cd, rfl⟩ : ∃ x, x = c4 := ⟨_, rfl⟩
    obtain ⟨z0, z1, z2⟩ := chg_cells hP2
    go_wp2_with (first
      | (go_at_call 20; refine (HRB V1 (Below.refl _ _)).mono ?_; rintro e w3 ⟨g6, c6, rfl, o6, b6, -⟩; have cv : (convert 44 9 (.slice (some ⟨g6, 0, none⟩) n6 c6)).run Tryd.prog w3 = .ok (.string (⟨l6.toArray⟩ : ByteArray)) w3 := o6.isB.conv byteTy Tryd.underlying9; have hD3 := hD2.past b6)
      | (go_at_call 17; refine (HT2 _ _ _ hD3 (Nat.le_trans hB0 b6.size)).mono ?_; rintro e w4 ⟨g5, c5, rfl, o5, b5⟩))
    go_ret
    refine ⟨_, _, rfl, ?_, ?_, ?_⟩
    · exact o5.own8.1
    · rw [HG.out]; exact (BW.trans (B2.mono (Nat.le_of_lt hpq))).trans (((b6.mono hB0).trans b5).mono (Nat.le_of_lt hpq))
    · have := o5.own8.2; rw [HG.out]; omega
end Go.Proofs.YtdmnjjknkcnkgaaDoor
namespace Go.Proofs.YtdmnjjknkcnkgaaDoor
open Go.RowKit
set_option linter.unusedSimpArgs false
/-- What stands while the region's operations come up. -/
inductive RgE1 (B : Nat) (p : Nat) (id : Int) (ct : Int) (RA : Array Value) (lr : List UInt8) (l1 : List UInt8) (l2 : List UInt8) (l3 : List UInt8) (n1 : Nat) (n2 : Nat) (n3 : Nat) (a0 : Act) (w0 : World) (L : Array Bool) (a : Act) (w : World) : Prop
  | mk (b0 b1 b2 b3 b4 b5 b6 : Bool) (x7 x8 x9 x10 x11 x12 x6 : Value) (g1 : Nat) (c1 : Nat) (g2 : Nat) (c2 : Nat) (g3 : Nat) (c3 : Nat) (hL : L = #[b0, b1, b2, b3, b4, b5, b6]) (ha : a = ⟨(((((((a0.tmps.setIfInBounds 7 x7).setIfInBounds 8 x8).setIfInBounds 9 x9).setIfInBounds 10 x10).setIfInBounds 11 x11).setIfInBounds 12 x12).setIfInBounds 6 x6), a0.defers⟩) (hb : Below B w0 w) (cd0 : Hid (b0 = true → x7 = .int .i64 id)) (cd1 : Hid (b1 = true → x8 = .slice (some ⟨g1, 0, none⟩) n1 c1)) (cd2 : Hid (b2 = true → x9 = .int .i64 ct)) (cd3 : Hid (b3 = true → x10 = .slice (some ⟨g2, 0, none⟩) n2 c2)) (cd4 : Hid (b4 = true → x11 = .slice (some ⟨p, 0, none⟩) 32 32)) (cd5 : Hid (b5 = true → x12 = .slice (some ⟨g3, 0, none⟩) n3 c3)) (cd6 : Hid (b6 = true → x6 = .slice (some ⟨g3, 0, none⟩) n3 c3)) (f_p : Hid (Bk w p RA 47)) (f_o3_1 : Hid ((b3 = true → b1 = true))) (f_o5_1 : Hid ((b5 = true → b1 = true))) (f_o5_3 : Hid ((b5 = true → b3 = true))) (f_a : Hid (b1 = true → b3 = false → TxtR EU8 w 5 B (some ⟨g1, 0, none⟩) n1 c1 l1)) (f_b : Hid (b3 = true → b5 = false → TxtR EU8 w 5 B (some ⟨g2, 0, none⟩) n2 c2 l2)) (f_c : Hid (b5 = true → TxtR EU8 w 5 B (some ⟨g3, 0, none⟩) n3 c3 l3)) (w_6_5 : Hid (b6 = true → b5 = true)) : RgE1 B p id ct RA lr l1 l2 l3 n1 n2 n3 a0 w0 L a w
theorem entT_eq (id : Int) (n : Int) (lr : List UInt8) : (le 8 (XU id) ++ le 8 (XU n)) ++ lr = le 8 (XU id) ++ (le 8 (XU n) ++ lr) := List.append_assoc _ _ _
end Go.Proofs.YtdmnjjknkcnkgaaDoor
namespace Go.Proofs.YtdmnjjknkcnkgaaDoor
open Go.RowKit

theorem own_lit (w : World) (v : Value) (b : UInt8) (hv : v = bc b) : OwnB (w.alloc (.cells #[v] 5)) 5 w.heap.size 1 1 [b] :=
  ⟨rfl, Nat.le_refl _, by unfold maxLen; omega, #[v], heap_alloc_new w _, rfl, by rw [hv]; rfl⟩
end Go.Proofs.YtdmnjjknkcnkgaaDoor
namespace Go.Proofs.YtdmnjjknkcnkgaaDoor
open Go.RowKit
set_option linter.unusedSimpArgs false

set_option maxRecDepth 100000 in
set_option maxHeartbeats 1000000 in
theorem rleaf_any (a0 : Option Addr) (n0 c0 : Nat) (l : List UInt8) (w : World) (h : IsB w a0 n0 c0 l) (hn : n0 ≤ 90000) :
    Calls Tryd.prog 26 #[.slice a0 n0 c0] w fun e w' => e = .returned (.agg (bcs (leafS l)).toArray) ∧ Below w.heap.size w w' := by
  go_enter Tryd.func26, Tryd.ntmps26
  go_wp2_with (first
    | (with_reducible refine wpList_alloc_blk (o := ⟨some 2, _, _, _, _, _⟩) rfl 47 rfl _ zeroHash ?_; intro w1 gr h1 b1 q1)
    | (at_builtin; refine wpList_append_ob rfl (.tmp 3) (.tmp 4) 44 44 rfl 5 byteTy w1.heap.size 1 1 [0] rfl (own_lit w1 (.int .u8 0) 0 rfl) _ rfl n0 l (((h.past b1).alloc _).src byteTy.ht) (1 + n0) rfl (0 :: l) rfl (by omega) ?_; intro g2 c2 w2 o2 p2 q2))
  have hl1 : gr < w1.heap.size := (Array.getElem?_eq_some_iff.1 h1.out).1
  have b2 : Below w1.heap.size w1 w2 := ((Below.refl _ _).alloc (Nat.le_refl _) _).trans (p2.below (Nat.le_refl _) (by simp))
  have R2 : Hid (w2.heap[gr]? = some (.cells (bcs (List.replicate 32 0)).toArray 47 (0, 0))) := (b2.block gr hl1).trans h1.out
  have B2 : Below w.heap.size w w2 := b1.trans (b2.mono b1.size)
  have I2 := o2.isB
  clear h1 b1 o2 p2 q2 b2
  refine (rsum_any _ (1 + n0) c2 (0 :: l) _ I2 (by omega)).mono ?_
  rintro e w4 ⟨rfl, b4⟩
  have R4 : Hid (w4.heap[gr]? = some (.cells (bcs (List.replicate 32 0)).toArray 47 (0, 0))) := (b4.block gr (Array.getElem?_eq_some_iff.1 R2.out).1).trans R2.out
  have B4 := B2.trans (b4.mono B2.size)
  clear R2 B2 I2 b4
  go_wp2_with ((with_reducible refine wpList_store_blk rfl 47 _ _ rfl gr _ (bcs (leafS l)).toArray ?_ ?_ _ R4 32 sizeHash (by simp [bcs_length]) (by simp [bcs_length, leafS_length]) (bcs_all _) ?_); (rfl); (rfl); (intro w8 h8 b8))
  refine bodyPost_ret (v := .agg (bcs (leafS l)).toArray) (results_cell_row rfl _ _ gr _ _ (0, 0) _ rfl h8.out Tryd.underlying47 rfl (by rw [sizeHash]; simp [bcs_length, leafS_length])) rfl ⟨rfl, ?_⟩
  exact B4.grown b8 B4.size (fun k hk => by cases hk; omega)
end Go.Proofs.YtdmnjjknkcnkgaaDoor
namespace Go.Proofs.YtdmnjjknkcnkgaaDoor
open Go.RowKit
set_option linter.unusedSimpArgs false
theorem rowT_short (t s : Int) (c : Chg) (hok : ChOk c) : (rowT t s c).length ≤ 90000 := by
  have k1 := hok.1
  have k2 := hok.2.1
  have e6 := encVs_60 hok.2.2
  have e4 := tx_len c.1.1.data.toList
  have e5 := tx_len (encR c.2)
  have e40 : c.1.1.data.toList.length = c.1.1.size := by simp
  have e7 : (encR c.2).length = 1 + (encVs c.2).length := by unfold encR; rw [List.length_append, le_length]
  simp only [rowT, List.length_append, le_length]
  omega
set_option maxRecDepth 100000 in
set_option maxHeartbeats 1600000 in
theorem rrow_any (w : World) (t s : Int) (c : Chg) (ra : Option Addr) (rn rc : Nat) (h : IsR EV w ra rn rc c.2) (hok : ChOk c) :
    Calls Tryd.prog 12 #[.int .i64 t, .int .i64 s, .agg #[.string c.1.1, .int .i64 c.1.2, .slice ra rn rc]] w fun e w' => e = .returned (.agg (bcs (rowS t s c)).toArray) ∧ Below w.heap.size w w' := by
  have HH0 := rowS_len t s c
  have HR0 := fun (w' : World) (b : Below w.heap.size w w') => rowText_any w' t s c ra rn rc (h.past b) hok
  have HL0 := fun (w' : World) (ao : Option Addr) (c0 : Nat) (hI : IsB w' ao (rowT t s c).length c0 (rowT t s c)) => rleaf_any ao _ c0 (rowT t s c) w' hI (rowT_short t s c hok)
  have hLe : leafS (rowT t s c) = rowS t s c := rfl
  obtain ⟨H, hH⟩ : ∃ x, rowS t s c = x := ⟨_, rfl⟩
  obtain ⟨L, hL⟩ : ∃ x, rowT t s c = x := ⟨_, rfl⟩
  obtain ⟨N, hN⟩ : ∃ x, L.length = x := ⟨_, rfl⟩
  simp only [hLe] at HL0
  simp only [hL, hN] at HR0 HL0
  simp only [hH] at HL0
  rw [hH] at HH0 ⊢
  obtain ⟨HA, hHA⟩ : ∃ z, (bcs H).toArray = z := ⟨_, rfl⟩
  have HA0 : Hid (HA.size = 32) := Lib.hid (by rw [← hHA]; simp [bcs_length, HH0])
  have HA1 : Hid (HA.all (·.oneCell') = true) := Lib.hid (by rw [← hHA]; exact bcs_all _)
  simp only [hHA] at HL0
  rw [hHA]
  obtain ⟨⟨tb, op⟩, l⟩ := c
  simp only at HR0 ⊢
  clear hHA hH hL hN hLe HH0 h hok
  have B0 : Below w.heap.size w (w.alloc (.cells #[.string tb, .int .i64 op, .slice ra rn rc] 39)) := (Below.refl _ _).alloc (Nat.le_refl _) _
  have hP0 : Bk (w.alloc (.cells #[.string tb, .int .i64 op, .slice ra rn rc] 39)) w.heap.size #[.string tb, .int .i64 op, .slice ra rn rc] 39 := Bk.new w _ _
  go_enter Tryd.func12, Tryd.ntmps12
  go_upto_region 1 with (with_reducible refine wpList_alloc_blk (o := ⟨some 6, _, _, _, _, _⟩) rfl 47 rfl _ zeroHash ?_; intro W q hq b1 q1)
  have hP1 := hP0.past b1
  have B1' := B0.trans (b1.mono B0.size)
  have hq1 : w.heap.size < q := by rw [World.size_alloc] at q1; omega
  obtain ⟨Z0, hZ0⟩ : ∃ z, (bcs (List.replicate 32 0)).toArray = z := ⟨_, rfl⟩
  have HZ0 : Hid (Z0.size = 32) := Lib.hid (by rw [← hZ0]; simp [bcs_length])
  have hQ : Bk W q Z0 47 := by rw [← hZ0]; exact hq.out
  clear hZ0
  obtain ⟨p, hp⟩ : ∃ p, w.heap.size = p := ⟨_, rfl⟩
  have HG := Lib.hid hp
  rw [hp] at hP1 hq1 B1'
  simp only [hp]
  have hP := hP1
  have B1 : Below p w W := B1'
  have hBq : p ≤ q := by omega
  have hpq : some p ≠ some q := fun e => by have := Option.some.inj e; omega
  have hB0 : p ≤ W.heap.size := Nat.le_of_lt hP.lt
  have hqW := hQ.lt
  clear hq b1 q1 hp hP0 hP1 B0 B1'
  have HR := HR0 W (by rw [HG.out]; exact B1)
  obtain ⟨c0, c1, c2⟩ := chg_cells hP
  simp only [Act.put, List.setIfInBounds_toArray, List.set_cons_zero, List.set_cons_succ]
  go_wp2_with (first
    | (go_at_call 10; refine HR.mono ?_; rintro e w2 ⟨g, cp, rfl, o2, b2, -⟩; have HLf := HL0 w2 _ cp o2.isB)
    | (go_at_call 26; refine HLf.mono ?_; rintro e w3 ⟨rfl, b3⟩; have B3 := b2.trans (b3.mono b2.size); have R3 : Hid (w3.heap[q]? = some (.cells Z0 47 (0, 0))) := Lib.hid (hQ.past B3))
    | ((with_reducible refine wpList_store_blk rfl 47 _ _ rfl q Z0 HA ?_ ?_ _ R3 32 sizeHash HZ0.out HA0.out HA1.out ?_); (rfl); (rfl); (intro w8 h8 b8)))
  refine bodyPost_ret (v := .agg HA) (results_cell_row rfl _ _ q _ _ (0, 0) _ rfl h8.out Tryd.underlying47 rfl (by rw [sizeHash, HA0.out])) rfl ⟨rfl, ?_⟩
  rw [HG.out]
  exact (B1.trans (B3.mono hB0)).grown b8 (Nat.le_trans hB0 B3.size) (fun k hk => by cases hk; exact hBq)
end Go.Proofs.YtdmnjjknkcnkgaaDoor
