/-
  The reference's Sum.
  A number below another one, as the statements take it: plain.
  Of no statement: a row of noughts, sums held against each other, numbers below another one.
  Pieces of a slice of bytes; append to a row of slices of the call's own.
  Bytes at an address: a whole load, a whole store, a copy into part of a block. Of no program.
-/
import Derived.Test.YtdmnjjknkcnkgaaDoorMg5
import Derived.Test.YtdmnjjknkcnkgaaDoorMg3
import Derived.Outline
import Derived.WalkKit
import Derived.Lib.SmallJoins
import Derived.Test.YtdmnjjknkcnkgaaDoorMg0
import Derived.Deep.Upon
import Derived.Still
import Derived.StillTailTactics
import Derived.Deep.RegionHeld
import Derived.Laws.CopyOwn
namespace Go.Proofs.YtdmnjjknkcnkgaaDoor
open Go.RowKit

theorem below_st {w a b : World} {g : Nat} (h : Below w.heap.size w a) (k : a.grownBy b (some g)) (hg : w.heap.size ≤ g) : Below w.heap.size w b := h.grown k h.size (fun k h => by cases h; exact hg)
theorem below_pt {w a b : World} {g n : Nat} (h : Below w.heap.size w a) (k : Puts a b g n) (hg : w.heap.size ≤ g) : Below w.heap.size w b := h.trans (k.below hg h.size)

/-- WHAT STANDS IN THE BLOCKS UP TO gs: the answer (zeros), the 64 numbers, the state s; what was there when the call began is as it was. -/
structure Fr (w wr : World) (gr gk gs : Nat) (s : St) : Prop where
  r : wr.heap[gr]? = some (.cells (bcs (List.replicate 32 0)).toArray 47 (0, 0))
  k : Ar wr 101 gk K64
  s : Ar wr 103 gs s.l
  b : Below w.heap.size w wr
  o1 : w.heap.size ≤ gr
  o2 : gr < gk
  o3 : gk < gs
theorem Fr.on {w wr w' : World} {gr gk gs : Nat} {s : St} (F : Fr w wr gr gk gs s) (h : Below (gs + 1) wr w') : Fr w w' gr gk gs s := by
  have h1 := F.o1
  have h2 := F.o2
  have h3 := F.o3
  exact ⟨(h.block gr (by omega)).trans F.r, F.k.kept (h.block gk (by omega)), F.s.kept (h.block gs (by omega)), F.b.trans (h.mono (by omega)), h1, h2, h3⟩
theorem Fr.put {w wr w' : World} {gr gk gs : Nat} {s : St} {g n : Nat} (F : Fr w wr gr gk gs s) (h : Puts wr w' g n) (hg : gs < g) : Fr w w' gr gk gs s :=
  F.on (h.below (by omega) (by have := F.s.lt; omega))
theorem Fr.alloc {w wr : World} {gr gk gs : Nat} {s : St} (F : Fr w wr gr gk gs s) (o : Obj) : Fr w (wr.alloc o) gr gk gs s :=
  F.on ((Below.refl _ _).alloc (by have := F.s.lt; omega) o)
theorem pad_more {n0 z j : Nat} (hz : z = (119 - n0 % 64) % 64) (hj : j < z) : (((n0 : Int) + 1 + (j : Int)) % 64 != 56) = true := by
  simp only [bne_iff_ne, ne_eq]; omega
theorem pad_done {n0 z : Nat} (hz : z = (119 - n0 % 64) % 64) : (((n0 : Int) + 1 + (z : Int)) % 64 != 56) = false := by
  simp only [bne_eq_false_iff_eq]; omega
theorem rep_snoc (j : Nat) (x : UInt8) : List.replicate j x ++ [x] = List.replicate (j + 1) x := List.replicate_succ'.symm
theorem be_take (x k q : Nat) (h : k + q = 7) : (be 8 x).take k ++ [UInt8.ofNat (x / 256 ^ q)] = (be 8 x).take (k + 1) := by
  have e : (be 8 x)[k]? = some (UInt8.ofNat (x / 256 ^ q)) := by
    unfold be
    rw [List.getElem?_map, List.getElem?_range (by omega)]
    simp only [Option.map_some]
    rw [show 8 - 1 - k = q by omega]
  rw [List.take_add_one, e]
  rfl
theorem be_byte (n q : Nat) : Value.int .u8 ((n : Int) * 8 / 2 ^ (8 * q) % 256) = bc (UInt8.ofNat (8 * n / 256 ^ q)) := by
  have e : (2 : Int) ^ (8 * q) = ((256 ^ q : Nat) : Int) := by rw [Int.pow_mul]; simp
  have e2 : (n : Int) * 8 = ((8 * n : Nat) : Int) := by omega
  rw [e, e2, ← Int.natCast_ediv, bc_mod]
  simp [bc]


set_option maxRecDepth 100000 in
set_option maxHeartbeats 20000000 in
theorem rsum_any (a0 : Option Addr) (n0 c0 : Nat) (l : List UInt8) (w : World) (h : IsB w a0 n0 c0 l) (hn : n0 ≤ 100000) :
    Calls Tryd.prog 37 #[.slice a0 n0 c0] w fun e w' => e = .returned (.agg (bcs (sha l)).toArray) ∧ Below w.heap.size w w' := by
  go_enter Tryd.func37, Tryd.ntmps37
  go_wp2_with (first
    | (go_at_call 50; refine (words_any _).mono ?_; rintro e w1 ⟨rfl, b1⟩; have B1 := below_on B0 b1)
    | (with_reducible refine wpList_alloc_blk rfl 47 rfl _ zeroH ?_; intro w0 gr h0 B0 q0)
    | (with_reducible refine wpList_alloc_ar rfl 101 rfl 64 zero64 ?_; intro w2 gk h2 b2 q2; have B2 := below_on B1 b2)
    | ((with_reducible refine wpList_store_ar rfl 101 _ _ rfl _ _ K64 ?_ ?_ _ h2 64 size64 List.length_replicate K64_length ?_); (rfl); (rfl); (intro w3 h3 b3; have B3 := below_st B2 b3 (Nat.le_trans B1.size q2)))
    | (with_reducible refine wpList_alloc_ar rfl 103 rfl 8 zero8 ?_; intro w4 gs h4 b4 q4; have B4 := below_on B3 b4)
    | ((with_reducible refine wpList_store_ar rfl 103 _ _ rfl _ _ H0.l ?_ ?_ _ h4 8 size8 List.length_replicate H0.l_length ?_); (rfl); (rfl); (intro w5 h5 b5; have B5 := below_st B4 b5 (Nat.le_trans B3.size q4)))
    | (at_builtin; refine wpList_append_ob rfl (.tmp 25) (.tmp 26) 44 44 rfl 5 byteTy _ 0 0 [] rfl (own_empty w5) _ rfl n0 l (((h.past B5).alloc _).src byteTy.ht) n0 (Nat.zero_add _) l rfl (by omega) ?_; intro g6 c6 w6 o6 p6 q6)
    | (at_builtin; refine wpList_append_ob rfl (.tmp 28) (.tmp 29) 44 44 rfl 5 byteTy _ n0 c6 l rfl (o6.alloc _) _ rfl 1 [128] (src_one byteTy.ht _ _ 128 rfl) (n0 + 1) rfl (l ++ [128]) rfl (by omega) ?_; intro g7 c7 w7 o7 p7 q7))
  obtain ⟨F, hg7⟩ : Fr w w7 gr gk gs H0 ∧ gs < g7 := by
    have t1 := b1.size
    have t2 := b2.size
    have t3 := b3.size
    have t4 := b4.size
    have t5 := b5.size
    have t6 := p6.size
    have e2 := h2.lt
    have e4 := h4.lt
    have e0 : gr < w0.heap.size := (Array.getElem?_eq_some_iff.1 h0.out).1
    have hne : gr ≠ gs := by omega
    have F : Fr w w5 gr gk gs H0 := by
      refine ⟨?_, ?_, h5, B5, q0, by omega, by omega⟩
      · rw [b5.block gr (by omega) (by simp; omega), b4.block gr (by omega), b3.block gr (by omega) (by simp; omega), b2.block gr (by omega), b1.block gr e0]
        exact h0.out
      · exact (h3.kept (b4.block gk (by omega))).kept (b5.block gk (by omega) (by simp; omega))
    simp at q6 q7 t6
    have hl := F.s.lt
    have F6 := (F.alloc (.cells #[] 5)).put p6 hl
    exact ⟨(F6.alloc _).put p7 (by omega), by omega⟩
  obtain ⟨z, hz⟩ : ∃ z, z = (119 - n0 % 64) % 64 := ⟨_, rfl⟩
  have hz63 : z ≤ 63 := by omega
  have HZ := Lib.hid hz
  clear hz h0 B0 q0 b1 B1 h2 b2 q2 B2 h3 b3 B3 h4 b4 q4 B4 h5 b5 B5 o6 p6 q6 p7 q7
  go_loopw [5] (fun v wr => ∃ j g cap, j ≤ z ∧ v = .slice (some ⟨g, 0, none⟩) (n0 + 1 + j) cap ∧ OwnB wr 5 g (n0 + 1 + j) cap (l ++ [128] ++ List.replicate j 0) ∧ gs < g ∧ Fr w wr gr gk gs H0) (fun v _ => match v with | .slice _ n _ => n0 + 1 + z - n | _ => 0)
  case atStart => exact ⟨0, g7, c7, Nat.zero_le _, rfl, by simpa using o7, hg7, F⟩
  case round =>
    obtain ⟨j, g, cap, hj, rfl, ho, hg, Fj⟩ := hrel
    by_cases hlt : j < z
    · have HL : Hid (l ++ [128] ++ List.replicate j 0 ++ [0] = l ++ [128] ++ List.replicate (j + 1) 0) := by unfold Hid; rw [List.append_assoc, rep_snoc]
      have ht := pad_more HZ.out hlt
      go_wp2_with (at_builtin; refine wpList_append_ob rfl (.tmp 35) (.tmp 36) 44 44 rfl 5 byteTy g (n0 + 1 + j) cap _ rfl (ho.alloc _) _ rfl 1 [0] (src_one byteTy.ht _ _ 0 rfl) (n0 + 1 + (j + 1)) rfl (l ++ [128] ++ List.replicate (j + 1) 0) HL.out (by omega) ?_; intro g2 cap2 w2 ho2 hp2 hg2)
      go_roundw
      case rel => exact ⟨j + 1, g2, cap2, by omega, rfl, ho2, by have := Fj.s.lt; simp at hg2; omega, (Fj.alloc _).put hp2 hg⟩
      case measure => simp; omega
    · obtain rfl : j = z := by omega
      have ht := pad_done HZ.out
      go_wp2_with fail
      clear ht hj hlt
      have hM : l.length = n0 := h.len
      have HM := Lib.hid hM
      clear hM
      go_loopw [5, 7] (fun v i wq => ∃ (k m g2 cap2 : Nat), k + m = 8 ∧ i = .int .i64 ((m : Int) - 1) ∧ v = .slice (some ⟨g2, 0, none⟩) (n0 + 1 + j + k) cap2 ∧ OwnB wq 5 g2 (n0 + 1 + j + k) cap2 (l ++ [128] ++ List.replicate j 0 ++ (be 8 (8 * n0)).take k) ∧ gs < g2 ∧ Fr w wq gr gk gs H0) (fun _ i _ => (intOf i + 1).toNat)
      case atStart => exact ⟨0, 8, g, cap, rfl, rfl, rfl, by simpa using ho, hg, Fj⟩
      case round =>
        obtain ⟨k, m, g2, cap2, hm, rfl, rfl, ho2, hg2, F2⟩ := hrel
        have HK := Lib.hid hm
        have hk8 : k ≤ 8 := by omega
        clear hm
        by_cases hm0 : 0 < m
        · obtain ⟨q, rfl⟩ : ∃ q : Nat, m = q + 1 := ⟨m - 1, by omega⟩
          have eq1 : (((q + 1 : Nat) : Int) - 1) = q := by omega
          have hq7 : q ≤ 7 := by have := HK.out; omega
          simp only [eq1]
          have HB : Hid (Value.int .u8 ((n0 : Int) * 8 / 2 ^ (8 * q) % 256) = bc (UInt8.ofNat (8 * n0 / 256 ^ q))) := be_byte n0 q
          have HT : Hid (l ++ [128] ++ List.replicate j 0 ++ (be 8 (8 * n0)).take k ++ [UInt8.ofNat (8 * n0 / 256 ^ q)] = l ++ [128] ++ List.replicate j 0 ++ (be 8 (8 * n0)).take (k + 1)) := by
            unfold Hid
            rw [List.append_assoc, be_take _ _ _ (by have := HK.out; omega)]
          clear eq1
          go_wp2_with (at_builtin; refine wpList_append_ob rfl (.tmp 46) (.tmp 53) 44 44 rfl 5 byteTy g2 (n0 + 1 + j + k) cap2 _ rfl (ho2.alloc _) _ rfl 1 _ (src_one byteTy.ht _ _ _ HB.out) (n0 + 1 + j + (k + 1)) rfl _ HT.out (by omega) ?_; intro g3 cap3 w3 ho3 hp3 hg3)
          go_roundw
          case rel => exact ⟨k + 1, q, g3, cap3, by have := HK.out; omega, by go_num, rfl, ho3, by have := F2.s.lt; simp at hg3; omega, (F2.alloc _).put hp3 hg2⟩
          case measure => simp [intOf]
        · obtain rfl : m = 0 := by omega
          obtain rfl : k = 8 := HK.out
          have HP : Hid (l ++ [128] ++ List.replicate j 0 ++ (be 8 (8 * n0)).take 8 = padded l) := by
            unfold Hid padded padding
            rw [HM.out, ← HZ.out, List.take_of_length_le (by rw [be_length]; omega)]
            simp
          rw [HP.out] at ho2
          obtain ⟨M, hM⟩ : ∃ M, n0 + 1 + j + 8 = 64 * M := ⟨(n0 + 1 + j + 8) / 64, by have := HZ.out; omega⟩
          rw [hM] at ho2 ⊢
          have hM2 : M ≤ 2000 := by omega
          clear hM HP HM HZ hk8 hm0
          generalize hPP : padded l = P at ho2
          have HPP := Lib.hid hPP
          clear hPP
          have hg2l := ho2.lt
          go_wp2_with (first | (with_reducible refine wpList_alloc_ar rfl 101 rfl 64 zero64 ?_; intro w4 gw h4 b4 q4))
          have hgw : g2 < gw := by omega
          have F4 : Fr w w4 gr gk gs H0 := F2.on (b4.mono (by have := F2.s.lt; omega))
          have o4 := ho2.below b4 hg2l
          clear ho2 F2 b4 q4 hg2l hg F Fj hg7 o7
          go_loopw [9] (fun p wq => ∃ m : Nat, m ≤ M ∧ p = .int .i64 (64 * (m : Int)) ∧ OwnB wq 5 g2 (64 * M) cap2 P ∧ (∃ L, Ar wq 101 gw L ∧ L.length = 64) ∧ Fr w wq gr gk gs (blocks P H0 m)) (fun p _ => 64 * M - (intOf p).toNat)
          case atStart => exact ⟨0, Nat.zero_le _, rfl, o4, ⟨_, h4, List.length_replicate⟩, F4⟩
          case round =>
            clear h4 F4 o4
            obtain ⟨wo, rfl⟩ : ∃ wo : World, wo = wr := ⟨_, rfl⟩
            obtain ⟨m, hm, rfl, oP, ⟨L0, hL0, hl0⟩, FO⟩ := hrel
            by_cases hmM : m < M
            · have hlt : 64 * (m : Int) < 64 * (M : Int) := by omega
              have HL0 := Lib.hid hl0
              clear hl0
              go_wp2_with fail
              go_loopw [10] (fun i wq => ∃ (k : Nat) (L : List UInt32), k ≤ 16 ∧ i = .int .i64 k ∧ Ar wq 101 gw L ∧ Hid (L.length = 64) ∧ Hid (L.take k = words (P.drop (64 * m)) k) ∧ Below gw wo wq) (fun i _ => 16 - (intOf i).toNat)
              case atStart => exact ⟨0, L0, Nat.zero_le _, rfl, hL0, HL0, rfl, Below.refl _ _⟩
              case round =>
                obtain ⟨k, L, hk, rfl, hL, hl, ht, hb⟩ := hrel
                by_cases hk16 : k < 16
                · refine case4 hk16 hmM hM2 oP hgw hL hl ht hb ?_
                  intro u11 u61 u62 u63 u64 u65 u66 u67 u68 u69 u70 u71 u72 u73 u74 u75 u76 u77 u78 u79 u80 u81 u82 u83 u84 u85 u86 u87 u88 u89 u90 u91 u92 u93 u94 u95 u96 u97 u98 u99 L2 w' h1 h2 h3 h4
                  change _ ∧ _
                  refine ⟨?_, ?_⟩
                  · repeat apply Exists.intro
                    refine ⟨?_, rfl⟩
                    exact ⟨k + 1, L2, by omega, by go_num, h1, h2, h3, h4⟩
                  · show _ - (intOf (Value.int .i64 ((k : Int) + 1))).toNat < _ - (intOf (Value.int .i64 (k : Int))).toNat
                    simp [intOf]; omega
                · obtain rfl : k = 16 := by omega
                  have HT : Hid (L.take 16 = words (P.drop (64 * m)) 16) := ht
                  clear ht hk hk16
                  go_wp2_with fail
                  simp only [show ((16 : Nat) : Int) = 16 from rfl]
                  go_loopw [12] (fun i wq => ∃ (i0 : Nat) (L1 : List UInt32), 16 ≤ i0 ∧ i0 ≤ 64 ∧ i = .int .i64 i0 ∧ Ar wq 101 gw L1 ∧ Hid (L1.length = 64) ∧ Hid (L1.take i0 = sched (words (P.drop (64 * m)) 16) (i0 - 16)) ∧ Below gw wo wq) (fun i _ => 64 - (intOf i).toNat)
                  case atStart => exact ⟨16, L, by omega, by omega, rfl, hL, hl, HT, hb⟩
                  case round =>
                    clear hL hl HT hb
                    obtain ⟨i, L1, hi1, hi2, rfl, hL, hl, HT, hb⟩ := hrel
                    by_cases hi3 : i < 64
                    · refine case5 hi1 hi3 hL hl HT hb ?_
                      intro u13 u14 u100 u101 u102 u103 u104 u105 u106 u107 u108 u109 u110 u111 u112 u113 u114 u115 u116 u117 u118 u119 u120 u121 u122 u123 u124 u125 u126 u127 u128 u129 u130 u131 u132 u133 u134 u135 u136 u137 u138 u139 u140 L2 w' h1 h2 h3 h4
                      change _ ∧ _
                      refine ⟨?_, ?_⟩
                      · repeat apply Exists.intro
                        refine ⟨?_, rfl⟩
                        exact ⟨i + 1, L2, by omega, by omega, by go_num, h1, h2, h3, h4⟩
                      · show _ - (intOf (Value.int .i64 ((i : Int) + 1))).toNat < _ - (intOf (Value.int .i64 (i : Int))).toNat
                        simp [intOf]; omega
                    · obtain rfl : i = 64 := by omega
                      have hW : L1 = sched (words (P.drop (64 * m)) 16) 48 := by
                        have e := HT.out
                        rwa [List.take_of_length_le (by have := hl.out; omega)] at e
                      rw [hW] at hL
                      have hlW : (sched (words (P.drop (64 * m)) 16) 48).length = 64 := by rw [sched_length, words_length]
                      generalize hWW : sched (words (P.drop (64 * m)) 16) 48 = W at hL hlW
                      have HW := Lib.hid hWW
                      have HlW := Lib.hid hlW
                      have FB := FO.on (hb.mono (by omega))
                      have oB := oP.below hb hgw
                      have HS : Hid (blocks P H0 (m + 1) = (blocks P H0 m).mix (P.drop (64 * m))) := rfl
                      generalize blocks P H0 m = S at FB HS
                      clear hWW hlW hW HT hl hi1 hi2 hi3
                      go_wp2_with (first
                        | ((with_reducible refine wpList_load_ar rfl 103 _ rfl gs _ ?_ _ FB.s _ _ Tryd.underlying103 8 size8 S.l_length ?_); (rfl))
                        | (with_reducible refine wpList_alloc_ar rfl 103 rfl 8 zero8 ?_; intro w8 ga h8 b8 q8)
                        | ((with_reducible refine wpList_store_ar rfl 103 _ _ rfl _ _ S.l ?_ ?_ _ h8 8 size8 List.length_replicate S.l_length ?_); (rfl); (rfl); (intro w9 h9 b9)))
                      have hgs := FB.s.lt
                      have hgwl := hL.lt
                      have ha9 : Below wr.heap.size wr w9 := b8.grown b9 b8.size (fun k h => by cases h; exact q8)
                      have k9 : Ar w9 101 gk K64 := FB.k.kept (ha9.block gk (by have := FB.o3; omega))
                      have L9 : Ar w9 101 gw W := hL.kept (ha9.block gw hgwl)
                      have hgka : gk < ga := by have := FB.o3; omega
                      have hgwa : gw < ga := by omega
                      have hga9 := h9.lt
                      go_loopw [16] (fun i wq => ∃ t : Nat, t ≤ 64 ∧ i = .int .i64 t ∧ Ar wq 103 ga (rounds W S t).l ∧ Below ga w9 wq) (fun i _ => 64 - (intOf i).toNat)
                      case atStart => exact ⟨0, Nat.zero_le _, rfl, h9, Below.refl _ _⟩
                      case round =>
                        clear h8 b8 b9 h9
                        obtain ⟨t, ht, rfl, hT, bT⟩ := hrel
                        by_cases ht64 : t < 64
                        · refine case6 ht64 k9 L9 hgka hgwa HlW hT bT ?_
                          intro u17 u18 u19 u142 u143 u144 u145 u146 u147 u148 u149 u150 u151 u152 u153 u154 u155 u156 u157 u158 u159 u160 u161 u162 u163 u164 u165 u166 u167 u168 u169 u170 u171 u172 u173 u174 u175 u176 u177 u178 u179 u180 u181 u182 u183 u184 u185 u186 u187 u188 u189 u190 u191 u192 u193 u194 u195 u196 u197 u198 u199 u200 u201 u202 u203 u204 u205 u206 u207 u208 u209 u210 u211 u212 u213 u214 u215 u216 u217 u218 u219 u220 u221 u222 u223 u224 u225 u226 w' h1 h2
                          change _ ∧ _
                          refine ⟨?_, ?_⟩
                          · repeat apply Exists.intro
                            refine ⟨?_, rfl⟩
                            exact ⟨t + 1, by omega, by go_num, h1, h2⟩
                          · show _ - (intOf (Value.int .i64 ((t : Int) + 1))).toNat < _ - (intOf (Value.int .i64 (t : Int))).toNat
                            simp [intOf]; omega
                        · obtain rfl : t = 64 := by omega
                          clear ht ht64
                          have HS2 : Hid (blocks P H0 (m + 1) = S.add (rounds W S 64)) := by unfold Hid; rw [HS.out, ← HW.out]; rfl
                          generalize rounds W S 64 = T at hT HS2
                          obtain ⟨wx, hwx⟩ : ∃ wx : World, Hid (wx = wr) := ⟨_, rfl⟩
                          have bX : Below ga w9 wx := by rw [hwx.out]; exact bT
                          have S9 : Ar wr 103 gs S.l := (FB.s.kept (ha9.block gs hgs)).kept (bT.block gs (by omega))
                          have hgsa : gs ≠ ga := by omega
                          go_wp2_with fail
                          simp only [show ((64 : Nat) : Int) = 64 from rfl]
                          go_loopw [20] (fun i wq => ∃ t : Nat, t ≤ 8 ∧ i = .int .i64 t ∧ Ar wq 103 gs (sums S T t) ∧ Ar wq 103 ga T.l ∧ wx.grownBy wq (some gs)) (fun i _ => 8 - (intOf i).toNat)
                          case atStart => exact ⟨0, Nat.zero_le _, rfl, S9, hT, by rw [hwx.out]; exact World.grownBy.refl _ _⟩
                          case round =>
                            clear S9 hT
                            obtain ⟨t, ht, rfl, hA, hT, gT⟩ := hrel
                            by_cases ht8 : t < 8
                            · refine case7 ht8 hgsa hA hT gT ?_
                              intro u227 u228 u229 u230 u231 u232 u233 u234 u235 u236 u237 u238 w' h1 h2 h3
                              change _ ∧ _
                              refine ⟨?_, ?_⟩
                              · repeat apply Exists.intro
                                refine ⟨?_, rfl⟩
                                exact ⟨t + 1, by omega, by go_num, h1, h2, h3⟩
                              · show _ - (intOf (Value.int .i64 ((t : Int) + 1))).toNat < _ - (intOf (Value.int .i64 (t : Int))).toNat
                                simp [intOf]; omega
                            · obtain rfl : t = 8 := by omega
                              rw [sums_all] at hA
                              have gOb : gs < wx.heap.size := by rw [hwx.out]; exact Nat.lt_of_lt_of_le hgs (Nat.le_trans ha9.size bT.size)
                              clear ht ht8
                              go_wp2_with fail
                              go_roundw
                              case rel =>
                                have e1 := FB.o1
                                have e2 := FB.o2
                                have e3 := FB.o3
                                refine ⟨m + 1, by omega, by congr 1, ?_, ?_, ?_⟩
                                · exact ((oB.below ha9 oB.lt).below bX (by omega)).grown gT (by simp; omega)
                                · exact ⟨W, (L9.kept (bX.block gw hgwa)).kept (gT.block gw (by have := bX.size; omega) (by simp; omega)), HlW.out⟩
                                · rw [HS2.out]
                                  refine ⟨?_, ?_, hA, ?_, e1, e2, e3⟩
                                  · rw [gT.block gr (by omega) (by simp; omega), bX.block gr (by omega), ha9.block gr (by omega)]
                                    exact FB.r
                                  · exact (k9.kept (bX.block gk hgka)).kept (gT.block gk (by omega) (by simp; omega))
                                  · exact ((FB.b.trans (ha9.mono (by omega))).trans (bX.mono (by omega))).grown gT (by omega) (fun k h => by cases h; omega)
                              case measure => simp [intOf]; omega
            · obtain rfl : m = M := by omega
              clear hL0 hl0
              have HS3 : Hid ((bcs (outs (blocks P H0 m) 8)).toArray = (bcs (sha l)).toArray) := by
                unfold Hid
                rw [outs_all, ← HPP.out]
                unfold sha
                rw [HPP.out, oP.len, Nat.mul_div_cancel_left m (by decide)]
              generalize blocks P H0 m = S at FO HS3
              go_wp2_with (first | (with_reducible refine wpList_alloc_blk rfl 47 rfl _ zeroH ?_; intro wa go ha ba qa))
              have hgo : gs < go := Nat.lt_of_lt_of_le FO.s.lt qa
              have gsl := FO.s.lt
              have Sa : Ar wa 103 gs S.l := FO.s.kept (ba.block gs gsl)
              have hgr : gr < gs := by have := FO.o2; have := FO.o3; omega
              have Ba : Below w.heap.size w wa := FO.b.trans (ba.mono FO.b.size)
              have Ra : Hid (wa.heap[gr]? = some (.cells (bcs (List.replicate 32 0)).toArray 47 (0, 0))) := (ba.block gr (by omega)).trans FO.r
              have q1 := FO.o1
              have hwgo : w.heap.size ≤ go := by omega
              have hA0 : Ab wa 47 go (outs S 0) := ha.out
              clear ha oP FO hm hmM ba qa gsl
              go_loopw [22] (fun i wq => ∃ t : Nat, t ≤ 8 ∧ i = .int .i64 t ∧ Ab wq 47 go (outs S t) ∧ Below go wa wq) (fun i _ => 8 - (intOf i).toNat)
              case atStart => exact ⟨0, Nat.zero_le _, rfl, hA0, Below.refl _ _⟩
              case round =>
                clear hA0
                obtain ⟨t, ht, rfl, hA, bA⟩ := hrel
                by_cases ht8 : t < 8
                · refine case8 ht8 hgo Sa hA bA ?_
                  intro u239 u240 u241 u242 u243 u244 u245 u246 u247 u248 u249 u250 u251 u252 u253 u254 u255 u256 u257 u258 u259 u260 u261 u262 u263 u264 u265 u266 u267 u268 u269 u270 u271 u272 u273 u274 u275 u276 w' h1 h2
                  change _ ∧ _
                  refine ⟨?_, ?_⟩
                  · repeat apply Exists.intro
                    refine ⟨?_, rfl⟩
                    exact ⟨t + 1, by omega, by go_num, h1, h2⟩
                  · show _ - (intOf (Value.int .i64 ((t : Int) + 1))).toNat < _ - (intOf (Value.int .i64 (t : Int))).toNat
                    simp [intOf]; omega
                · obtain rfl : t = 8 := by omega
                  have hAH : Hid (wr.heap[go]? = some (.cells (bcs (sha l)).toArray 47 (0, 0))) := by
                    have e : (bcs (outs S 8)).toArray = (bcs (sha l)).toArray := HS3.out
                    unfold Hid
                    rw [← e]
                    exact hA
                  have hRH : Hid (wr.heap[gr]? = some (.cells (bcs (List.replicate 32 0)).toArray 47 (0, 0))) := (bA.block gr (by omega)).trans Ra.out
                  have sz : (bcs (sha l)).toArray.size = 32 := by simp [bcs_length, sha_length]
                  have SZ := Lib.hid sz
                  clear sz hA ht ht8
                  go_wp2_with (first
                    | ((with_reducible refine wpList_load_blk rfl 47 _ rfl go _ ?_ _ hAH _ _ Tryd.underlying47 32 sizeH SZ.out ?_); (rfl))
                    | ((with_reducible refine wpList_store_blk rfl 47 _ _ rfl gr _ (bcs (sha l)).toArray ?_ ?_ _ hRH 32 sizeH List.size_toArray SZ.out ?_ ?_); (rfl); (rfl); (exact bcs_all _); (intro wz hz bz)))
                  have Bz := (Ba.trans (bA.mono hwgo))
                  refine bodyPost_ret (v := .agg (bcs (sha l)).toArray) (results_cell_row rfl _ _ gr _ _ (0, 0) _ rfl hz.out Tryd.underlying47 rfl (sizeH.trans (by rw [SZ.out]))) rfl ⟨rfl, ?_⟩
                  exact Bz.grown bz Bz.size (fun k h => by cases h; exact q1)
end Go.Proofs.YtdmnjjknkcnkgaaDoor
namespace Go.Proofs.YtdmnjjknkcnkgaaDoor

/-- A number from 0 to n - 1, as the statements take it. -/
def wth (a n : Int) : Int := if a.tmod n < 0 then a.tmod n + n else a.tmod n
theorem wth_lo (a n : Int) (h : 0 < n) : 0 ≤ wth a n := by
  unfold wth
  have := Int.lt_tmod_of_pos a h
  split <;> omega
theorem wth_hi (a n : Int) (h : 0 < n) : wth a n < n := by
  unfold wth
  have := Int.tmod_lt_of_pos a h
  split <;> omega
theorem wth_of (a n : Int) (h : 0 < n) : ∃ k : Nat, wth a n = (k : Int) ∧ (k : Int) < n := by
  have h1 := wth_lo a n h
  have h2 := wth_hi a n h
  exact ⟨(wth a n).toNat, by omega, by omega⟩
end Go.Proofs.YtdmnjjknkcnkgaaDoor
namespace Go.Proofs.YtdmnjjknkcnkgaaDoor
open Go.RowKit
set_option linter.unusedSimpArgs false

theorem wpList_make_ab {P : Program} {w : World} {ops : Array Oper} {rest : List Oper} {o : Oper} {a : Act} {Q : Exit → Act → World → Prop} (hgd : o.guard = none) (l c : Operand) (t : TypeId)
    (ho : o.op = Op.makeSlice t l c) (e : TypeId) (hB : ByteTy P t e) (kl kc : IntKind) (L C : Int) (N : Nat) (hl : a.eval l = .int kl L) (hc : a.eval c = .int kc C) (hL : L = (N : Int)) (hC : C = (N : Int)) (hN : N ≤ 1000000)
    (hK : ∀ w' g, Ab w' e g (List.replicate N 0) → Below w.heap.size w w' → w.heap.size ≤ g → wpList P ops Q rest (a.put o.dst (.slice (some ⟨g, 0, none⟩) N N)) w') :
    wpList P ops Q (o :: rest) a w := by
  obtain ⟨i, hi, hz, hsize, hby⟩ := hB.info
  refine wpList_make_full w hgd l c t ho w.heap.size e i (.int .u8 0) 1 hB.ht hi hz hsize kl kc L C N hl hc hL hC (by rw [hby]; omega) (by unfold maxLen; omega) (Nat.le_refl _) fun w' hown hgr => ?_
  refine hK w' _ ?_ ((Below.refl _ w).grown hgr (Nat.le_refl _) (fun k h => by cases h)) (Nat.le_refl _)
  rcases hown.2 with ⟨h, _⟩ | ⟨g, cap, cur, hv, _, hg, hnc, hcm, hcs, htake⟩
  · cases h
  · simp only [Value.slice.injEq, Option.some.injEq, Addr.mk.injEq, and_true] at hv
    obtain ⟨rfl, _, rfl⟩ := hv
    rw [Nat.mul_one] at htake hcs
    have e1 : cur.toList = (List.replicate N (0 : UInt8)).map fun x => Value.int .u8 (ub x) := by
      rw [← List.take_of_length_le (l := cur.toList) (i := N) (by simp; omega), htake]
      show (madeCells #[Value.int .u8 0] N).toList = _
      rw [toList_madeCells_one]
      simp [ub]
    have e2 : cur = ((List.replicate N (0 : UInt8)).map fun x => Value.int .u8 (ub x)).toArray := by
      apply Array.toList_inj.1
      rw [e1]
    unfold Ab
    rw [← e2]
    exact hg
theorem is_ub (z : Int) (h0 : 0 ≤ z) (h1 : z < 256) : ∃ y : UInt8, z = ub y := ⟨UInt8.ofNat z.toNat, by unfold ub; rw [UInt8.toNat_ofNat']; omega⟩
theorem equal_hash (a b : List UInt8) (ha : a.length = 32) (hb : b.length = 32) (w : World) : (Op.equalIn 10000 47 (.agg (bcs a).toArray) (.agg (bcs b).toArray)).run Tryd.prog w = .ok (a == b) w :=
  run_equalIn_bytes w 9998 47 5 32 Tryd.underlying47 Tryd.underlying5 (fun w' => by kernel_rfl) a b ha hb
theorem equal_sha (m : List UInt8) (w : World) : (Op.equalIn 10000 47 (.agg (bcs (sha m)).toArray) (.agg (bcs (sha m)).toArray)).run Tryd.prog w = .ok true w := by
  rw [equal_hash _ _ (sha_length m) (sha_length m)]
  simp
theorem wth_nat (a : Int) (n : Nat) (h : 0 < n) : ∃ k : Nat, wth a n = k ∧ k < n := by
  have h1 := wth_lo a n (by omega)
  have h2 := wth_hi a n (by omega)
  exact ⟨(wth a n).toNat, by omega, by omega⟩
theorem Ab.set_any {w : World} {t : TypeId} {g : Nat} {l : List UInt8} (h : Ab w t g l) (j : Nat) (z : Int) (h0 : 0 ≤ z) (h1 : z < 256) : ∃ l' : List UInt8, l'.length = l.length ∧ Ab (w.setCell ⟨g, j, none⟩ (.int .u8 z)) t g l' := by
  obtain ⟨y, rfl⟩ := is_ub z h0 h1
  exact ⟨l.set j y, by simp, h.set j y⟩
theorem one_flat (l : List UInt8) : [l].flatten = l := by simp
end Go.Proofs.YtdmnjjknkcnkgaaDoor
namespace Go.Proofs.YtdmnjjknkcnkgaaDoor
open Go.RowKit

/-- NIL, OR A ROW OF THE CALL'S OWN from block base on: n bytes l. -/
def OwnN (w : World) (e : TypeId) (base : Nat) (v : Value) (n : Nat) (l : List UInt8) : Prop :=
  (v = .slice none 0 0 ∧ n = 0 ∧ l = []) ∨ ∃ g cap, v = .slice (some ⟨g, 0, none⟩) n cap ∧ base ≤ g ∧ OwnB w e g n cap l
theorem OwnN.nil (w : World) (e : TypeId) (base : Nat) : OwnN w e base (.slice none 0 0) 0 [] := .inl ⟨rfl, rfl, rfl⟩
theorem OwnN.kept {w w' : World} {e : TypeId} {base : Nat} {v : Value} {n : Nat} {l : List UInt8} (h : OwnN w e base v n l) (hb : Below w.heap.size w w') : OwnN w' e base v n l := by
  rcases h with h | ⟨g, cap, rfl, hg, ho⟩
  · exact .inl h
  · exact .inr ⟨g, cap, rfl, hg, ho.below hb ho.lt⟩
theorem OwnN.isB {w : World} {e : TypeId} {base : Nat} {v : Value} {n : Nat} {l : List UInt8} (h : OwnN w e base v n l) : ∃ ao cap, v = .slice ao n cap ∧ IsB w ao n cap l := by
  rcases h with ⟨rfl, rfl, rfl⟩ | ⟨g, cap, rfl, hg, ho⟩
  · exact ⟨none, 0, rfl, IsB.nilB w⟩
  · exact ⟨_, cap, rfl, ho.isB⟩
theorem run_append_on {P : Program} (w : World) (t tx ty e : TypeId) (hB : ByteTy P t e) (base : Nat) (v : Value) (n : Nat) (l : List UInt8) (h : OwnN w e base v n l) (hbase : base ≤ w.heap.size)
    (x : Value) (m : Nat) (cs : List UInt8) (hs : Src P 1 tx x m (bcs cs) w) (hmax : n + m ≤ 70368744177664) :
    ∃ v' w', (Builtin.append_ #[t, tx] ty #[v, x]).run P w = .ok v' w' ∧ OwnN w' e base v' (n + m) (l ++ cs) ∧ Below base w w' := by
  rcases h with ⟨rfl, rfl, rfl⟩ | ⟨g, cap, rfl, hg, ho⟩
  · obtain ⟨i, hi, hz, hsize, hby⟩ := hB.info
    have ht := hB.ht
    have hs' : Src P i.size tx x m (bcs cs) w := by rw [hsize]; exact hs
    have hcl : cs.length = m := by have := hs.newsLen; rw [bcs_length, Nat.mul_one] at this; exact this
    by_cases hm : m = 0
    · subst hm
      have : cs = [] := List.eq_nil_of_length_eq_zero hcl
      subst this
      exact ⟨_, _, run_append_nothing w t tx ty e i ht hi none 0 0 (Nat.le_refl _) x hs', .inl ⟨rfl, rfl, rfl⟩, Below.refl _ _⟩
    · have hr := run_append_grow_src (P := P) w t tx ty e i (.int .u8 0) ht hi hz none 0 0 [] (run_firstCells_none _ _ _ _ _) x m (bcs cs) hs' (by omega) (by omega) (growslice_fits (by omega) (by rw [hby]; omega))
      have hge := grownCap_ge w (0 + m) 0 e
      have hcm : grownCap w (0 + m) 0 e ≤ maxLen := grownCap_le_maxLen w (0 + m) 0 e (by simp only [maxLen]; omega)
      refine ⟨_, _, hr, .inr ⟨_, _, rfl, hbase, ⟨by simp [hcl], hge, hcm, _, heap_alloc_new w.drew _, ?_, ?_⟩⟩, ((Below.refl _ _).drew.alloc hbase _)⟩
      · simp only [Array.size_append, List.size_toArray, size_zeroCells, List.length_append, bcs_length, Value.cells, List.length_nil]
        generalize grownCap w (0 + m) 0 e = G at hge
        simp
        omega
      · simp only [List.nil_append, Array.toList_append]
        rw [Nat.zero_add, ← hcl, ← bcs_length cs]
        exact List.take_left
  · obtain ⟨g', cap', w', hr, h1, h2, h3⟩ := run_append_ob (P := P) w t tx ty e hB g n cap l ho x m cs hs hmax
    exact ⟨_, w', hr, .inr ⟨g', cap', rfl, by rcases h3 with h3 | h3 <;> omega, h1⟩, h2.below hg hbase⟩
/-- The same, as the walk meets it. -/
theorem wpList_append_on {P : Program} {w : World} {ops : Array Oper} {rest : List Oper} {o : Oper} {a : Act} {Q : Exit → Act → World → Prop} (hgd : o.guard = none) (s x : Operand) (t tx : TypeId)
    (ho : o.op = .call { callee := .builtin .append, args := #[s, x], argTypes := #[t, tx] }) (e : TypeId) (hB : ByteTy P t e) (base : Nat) (v : Value) (n : Nat) (l : List UInt8) (hsv : a.eval s = v) (h : OwnN w e base v n l) (hbase : base ≤ w.heap.size)
    (X : Value) (hx : a.eval x = X) (m : Nat) (cs : List UInt8) (hs : Src P 1 tx X m (bcs cs) w) (hmax : n + m ≤ 70368744177664)
    (hK : ∀ v' w', OwnN w' e base v' (n + m) (l ++ cs) → Below base w w' → wpList P ops Q rest (a.put o.dst v') w') :
    wpList P ops Q (o :: rest) a w := by
  refine wpList_plain hgd fun K hK' => ?_
  obtain ⟨v', w', hr, h1, h2⟩ := run_append_on (P := P) w t tx o.type e hB base v n l h hbase X m cs hs hmax
  unfold Oper.wp execOp
  simp only [ho, resolve, invoke, builtin, Sem.run_bind, Sem.run_pure, Result.andThen_ok, List.map_toArray, List.map_cons, List.map_nil, hsv, hx, hr]
  exact hK' _ _ (hK v' w' h1 h2)
end Go.Proofs.YtdmnjjknkcnkgaaDoor

namespace Go.Proofs.YtdmnjjknkcnkgaaDoor
open Go.RowKit

theorem IsB_mid {P : Program} {w : World} {ao : Option Addr} {n cap : Nat} {l : List UInt8} {t : TypeId} (h : IsB w ao n cap l) (ht : P.underlying t = some (.slice (P.elem t))) (hz : ∀ w' : World, (sizeOf (P.elem t)).run P w' = .ok 1 w') (lo hi : Nat) (h1 : lo ≤ hi) (h2 : hi ≤ n) :
    ∃ ao2, (∀ w' : World, (Instr.slice t (.slice ao n cap) (some (.int .i64 lo)) (some (.int .i64 hi)) none).run P w' = .ok (.slice ao2 (hi - lo) (cap - lo)) w') ∧ IsB w ao2 (hi - lo) (cap - lo) ((l.drop lo).take (hi - lo)) := by
  have hle := h.le
  have hrun : ∀ w' : World, (Instr.slice t (.slice ao n cap) (some (.int .i64 lo)) (some (.int .i64 hi)) none).run P w' = .ok (sliced ao lo hi cap 1) w' := fun w' => by
    rw [run_slice_lh w' t ao n cap ht .i64 .i64 (lo : Int) (hi : Int) (by omega) (by omega) (by omega), hz]
    simp [Result.andThen]
  by_cases he : cap = lo
  · have hn : n = lo := by omega
    have hh : hi = lo := by omega
    refine ⟨ao, fun w' => by rw [hrun, sliced, if_pos he], ?_⟩
    subst he
    subst hn
    subst hh
    rw [Nat.sub_self]
    have e : (l.drop hi).take 0 = l.drop hi := by
      have := h.len
      rw [List.take_zero, List.drop_eq_nil_of_le (by omega)]
    rw [e]
    exact IsB_end h
  · refine ⟨ao.map fun x => x.add lo, fun w' => by rw [hrun, sliced, if_neg he]; simp, ?_⟩
    have hd := IsB_drop h (m := lo) (by omega)
    exact IsB_take hd (m := hi - lo) (by omega)
/-- 'b[:k]'. -/
theorem IsB_head {P : Program} {w : World} {ao : Option Addr} {n cap : Nat} {l : List UInt8} {t : TypeId} (h : IsB w ao n cap l) (ht : P.underlying t = some (.slice (P.elem t))) (hz : ∀ w' : World, (sizeOf (P.elem t)).run P w' = .ok 1 w') (hi : Nat) (h2 : hi ≤ n) :
    ∃ ao2, (∀ w' : World, (Instr.slice t (.slice ao n cap) none (some (.int .i64 hi)) none).run P w' = .ok (.slice ao2 hi cap) w') ∧ IsB w ao2 hi cap (l.take hi) := by
  have hle := h.le
  have hrun : ∀ w' : World, (Instr.slice t (.slice ao n cap) none (some (.int .i64 hi)) none).run P w' = .ok (sliced ao 0 hi cap 1) w' := fun w' => by
    rw [run_slice_h w' t ao n cap ht .i64 (hi : Int) (by omega) (by omega), hz]
    simp [Result.andThen]
  by_cases he : cap = 0
  · exact ⟨ao, fun w' => by rw [hrun, sliced, if_pos he]; simp, IsB_take h h2⟩
  · refine ⟨ao.map fun x => x.add 0, fun w' => by rw [hrun, sliced, if_neg he]; simp, ?_⟩
    have hd := IsB_drop h (m := 0) (by omega)
    have := IsB_take hd (m := hi) (by omega)
    simpa using this

/-- A ROW OF THE CALL'S OWN, of slices that read as the pieces ps in the world w0. -/
def OwnP (w0 w : World) (base : Nat) (v : Value) (k : Nat) (ps : List (List UInt8)) : Prop :=
  ∃ xs, w.ownsRow base 44 1 v k xs ∧ ps.length = k ∧ ∀ j, j < k → ∃ bo bn bc, xs[j]? = some (.slice bo bn bc) ∧ IsB w0 bo bn bc (ps.getD j [])
theorem OwnP.nil (w0 w : World) (base : Nat) : OwnP w0 w base (.slice none 0 0) 0 [] := ⟨[], ⟨rfl, .inl ⟨rfl, rfl⟩⟩, rfl, fun j hj => by omega⟩
theorem OwnP.isP {w0 w : World} {base : Nat} {v : Value} {k : Nat} {ps : List (List UInt8)} (h : OwnP w0 w base v k ps) (hb : Below w0.heap.size w0 w) : ∃ ao cap, v = .slice ao k cap ∧ IsP w ao k ps := by
  obtain ⟨xs, ⟨hl, ho⟩, hp, hx⟩ := h
  rcases ho with ⟨rfl, rfl⟩ | ⟨g, cap, cur, rfl, hg, hc, hn, hm, hs, ht⟩
  · have : ps = [] := List.eq_nil_of_length_eq_zero hp
    subst this
    exact ⟨none, 0, rfl, isP_nil w none⟩
  · refine ⟨_, _, rfl, hp, fun _ => ⟨_, rfl⟩, fun a ha j hj => ?_⟩
    obtain rfl := Option.some.inj ha
    obtain ⟨bo, bn, bc, h1, h2⟩ := hx j hj
    refine ⟨bo, bn, bc, ?_, h2.past hb⟩
    rw [Addr.add_lit, Nat.zero_add, cell_of_row w g j cur _ (0, 0) hc]
    rw [← ht, Nat.mul_one, List.getElem?_take_of_lt hj] at h1
    simpa using h1
theorem OwnP.alloc {w0 w : World} {base : Nat} {v : Value} {k : Nat} {ps : List (List UInt8)} (h : OwnP w0 w base v k ps) (o : Obj) : OwnP w0 (w.alloc o) base v k ps := by
  obtain ⟨xs, ho, hp, hx⟩ := h
  exact ⟨xs, ho.alloc o, hp, hx⟩
theorem OwnP.ge {w0 w : World} {base : Nat} {v : Value} {k : Nat} {ps : List (List UInt8)} (h : OwnP w0 w base v k ps) (g : Nat) (hg : v.ownBlock = some g) : base ≤ g := by
  obtain ⟨xs, ⟨_, ho⟩, _, _⟩ := h
  rcases ho with ⟨rfl, rfl⟩ | ⟨g', cap, cur, rfl, hg', _⟩
  · cases hg
  · cases hg
    exact hg'
theorem OwnP.step {w0 w w' : World} {B base : Nat} {v : Value} {k : Nat} {ps : List (List UInt8)} {o : Obj} (h : OwnP w0 w base v k ps) (hb : Below B w0 w) (hB : B ≤ w.heap.size) (hbase : B ≤ base) (g : (w.alloc o).grownBy w' v.ownBlock) : Below B w0 w' :=
  (hb.alloc hB o).grown g (by simp; omega) (fun k hk => Nat.le_trans hbase (h.ge k hk))
theorem cell_new (w : World) (v : Value) (t : TypeId) : (w.alloc (.cells #[v] t)).cell? ⟨w.heap.size, 0, none⟩ = some v := by
  rw [cell_of_row _ _ _ _ t (0, 0) (heap_alloc_new w _)]
  rfl
theorem info_row : (Tryd.prog.info? 44).map (fun i => (i.zero, i.size, i.bytes)) = some (some (.slice none 0 0), 1, 24) := by kernel_rfl
/-- append of one piece. -/
theorem wpList_append_piece {w0 w : World} {ops : Array Oper} {rest : List Oper} {o : Oper} {a : Act} {Q : Exit → Act → World → Prop} (hgd : o.guard = none) (s x : Operand)
    (ho : o.op = .call { callee := .builtin .append, args := #[s, x], argTypes := #[87, 87] }) (base : Nat) (hbase : base ≤ w.heap.size)
    (v : Value) (k : Nat) (ps : List (List UInt8)) (hs : a.eval s = v) (hown : OwnP w0 w base v k ps) (g : Nat) (bo : Option Addr) (bn bc : Nat) (l : List UInt8) (hx : a.eval x = .slice (some ⟨g, 0, none⟩) 1 1)
    (hcell : w.cell? ⟨g, 0, none⟩ = some (.slice bo bn bc)) (hl : IsB w0 bo bn bc l) (hk : k ≤ 1000000)
    (h : ∀ v' w', OwnP w0 w' base v' (k + 1) (ps ++ [l]) → w.grownBy w' v.ownBlock → wpList Tryd.prog ops Q rest (a.put o.dst v') w') : wpList Tryd.prog ops Q (o :: rest) a w := by
  obtain ⟨xs, ho2, hp, hxs⟩ := hown
  obtain ⟨i0, hi, hz0, hz1, hz2⟩ := info_parts info_row
  refine wpList_append_own w hgd s x 87 ho base 44 i0 (.slice none 0 0) 1 24 Tryd.underlying87 hi hz0 hz1 hz2 rfl (by decide) v k xs hs ho2 ⟨g, 0, none⟩ 1 1 [.slice bo bn bc] hx rfl ?_ ?_ (by unfold maxLen; omega) (by omega) hbase fun v' w' h1 h2 _ => h v' w' ⟨_, h1, by simp [hp], fun j hj => ?_⟩ h2
  · intro j u hu
    obtain rfl : j = 0 := by have := (List.getElem?_eq_some_iff.1 hu).1; simpa using this
    simp at hu
    rw [← hu, Addr.add_lit]
    exact hcell
  · intro u hu
    simp at hu
    subst hu
    rfl
  · have hxl : xs.length = k := by have := ho2.1; omega
    by_cases hjk : j < k
    · obtain ⟨b1, b2, b3, h3, h4⟩ := hxs j hjk
      refine ⟨b1, b2, b3, ?_, ?_⟩
      · rw [List.getElem?_append_left (by omega)]
        exact h3
      · have e : (ps ++ [l]).getD j [] = ps.getD j [] := by simp only [List.getD]; rw [List.getElem?_append_left (by omega)]
        rw [e]
        exact h4
    · obtain rfl : j = k := by omega
      refine ⟨bo, bn, bc, ?_, ?_⟩
      · rw [List.getElem?_append_right (by omega)]
        simp [hxl]
      · have e : (ps ++ [l]).getD j [] = l := by simp only [List.getD]; rw [List.getElem?_append_right (by omega)]; simp [hp]
        rw [e]
        exact hl
end Go.Proofs.YtdmnjjknkcnkgaaDoor
namespace Go.Proofs.YtdmnjjknkcnkgaaDoor
open Go.RowKit

/-- AT a LIE THE BYTES l. -/
def AtA (w : World) (a : Addr) (l : List UInt8) : Prop := ∀ j u, l[j]? = some u → w.cell? (a.add j) = some (bc u)
theorem AtA.past {w w' : World} {a : Addr} {l : List UInt8} (h : AtA w a l) (hb : Below w.heap.size w w') : AtA w' a l := fun j u hu => by
  have hc := h j u hu
  rw [hb.cell (World.block_lt_of_cell? w _ hc)]
  exact hc
theorem run_load_at {P : Program} (w : World) (ty : TypeId) (a : Addr) (l : List UInt8) (n : Nat) (e : TypeId) (hu : P.underlying ty = some (.array n e)) (hi : (P.info? ty).map (·.size) = some l.length) (h : AtA w a l) : (loadVar ty a).run P w = .ok (.agg (bcs l).toArray) w := by
  have hl : (loadCells a (bcs l).length).run P w = .ok (bcs l).toArray w :=
    run_loadCells_list (P := P) w a (bcs l) (fun j v hv => by
      rw [bcs_get] at hv
      obtain ⟨x, hx, rfl⟩ := Option.map_eq_some_iff.1 hv
      exact h j x hx)
  rw [bcs_length] at hl
  cases hq : P.info? ty with
  | none => simp [hq] at hi
  | some i =>
    have hs : i.size = l.length := by simpa [hq] using hi
    have hagg : (isAgg ty).run P w = .ok true w := by
      unfold isAgg
      rw [Sem.run_bind, run_underlying hu w]
      rfl
    simp [loadVar, Sem.run_bind, hagg, sizeOf, typeInfo, hq, hs, hl]
theorem wp_load_at {P : Program} {o : Oper} {a : Act} {w : World} {K : Act → World → Prop} {Q : Exit → Act → World → Prop} (ty : TypeId) (x : Operand) (ho : o.op = .load ty x)
    (p : Addr) (hx : a.eval x = .pointer (some p)) (l : List UInt8) (hc : AtA w p l) (n : Nat) (e : TypeId) (hu : P.underlying ty = some (.array n e)) (hi : (P.info? ty).map (·.size) = some l.length)
    (h : K (a.put o.dst (.agg (bcs l).toArray)) w) : o.wp P a w K Q := by
  unfold Oper.wp execOp
  simp only [ho, hx, Instr.loadAt, Instr.sureAddr, Sem.run_bind, Sem.run_pure, Result.andThen_ok, run_load_at w ty p l n e hu hi hc]
  exact h
theorem wpList_load_at {P : Program} {ops : Array Oper} {rest : List Oper} {o : Oper} {a : Act} {w : World} {Q : Exit → Act → World → Prop} (hgd : o.guard = none) (ty : TypeId) (x : Operand) (ho : o.op = .load ty x)
    (p : Addr) (hx : a.eval x = .pointer (some p)) (l : List UInt8) (hc : AtA w p l) (n : Nat) (e : TypeId) (hu : P.underlying ty = some (.array n e)) (hi : (P.info? ty).map (·.size) = some l.length)
    (h : wpList P ops Q rest (a.put o.dst (.agg (bcs l).toArray)) w) : wpList P ops Q (o :: rest) a w :=
  wpList_plain hgd fun _ hK => wp_load_at ty x ho p hx l hc n e hu hi (hK _ _ h)
theorem wpStill_load_at {P : Program} {ops : Array Oper} {w : World} {Q : Act → Prop} {a : Act} {o : Oper} {rest : List Oper} (hgd : Region.wanted o (yielded ops a.tmps) = true) (ty : TypeId) (x : Operand) (ho : o.op = .load ty x)
    (p : Addr) (hx : a.eval x = .pointer (some p)) (l : List UInt8) (hc : AtA w p l) (n : Nat) (e : TypeId) (hu : P.underlying ty = some (.array n e)) (hi : (P.info? ty).map (·.size) = some l.length)
    (h : wpStill P ops w Q rest (a.put o.dst (.agg (bcs l).toArray))) : wpStill P ops w Q (o :: rest) a := by
  simp only [wpStill]
  rw [if_pos hgd]
  unfold Oper.still execOp
  simp only [ho, hx, Instr.loadAt, Instr.sureAddr, Sem.run_bind, Sem.run_pure, Result.andThen_ok, run_load_at w ty p l n e hu hi hc, Oper.stillUpon]
  exact ⟨trivial, h⟩
theorem yieldsIf_load_at {P : Program} {ops : Array Oper} {S : World → Prop} {op : Oper} {a : Act} (hw : Region.wanted op (yielded ops a.tmps) = true) (ty : TypeId) (x : Operand) (ho : op.op = .load ty x)
    (p : Addr) (hx : a.eval x = .pointer (some p)) (l : List UInt8) (hS : ∀ w, S w → AtA w p l) (n : Nat) (e : TypeId) (hu : P.underlying ty = some (.array n e)) (hi : (P.info? ty).map (·.size) = some l.length) : YieldsIf P ops S op (.agg (bcs l).toArray) a :=
  .inl ⟨hw, fun w hw' => by
    unfold execOp
    simp only [ho, hx, Instr.loadAt, Instr.sureAddr, Sem.run_bind, Sem.run_pure, Result.andThen_ok, run_load_at w ty p l n e hu hi (hS w hw')]⟩

theorem wp_store_in {P : Program} {o : Oper} {a : Act} {w : World} {K : Act → World → Prop} {Q : Exit → Act → World → Prop} (ty : TypeId) (x y : Operand) (ho : o.op = .store ty x y)
    (g i : Nat) (cs old : List Value) (t : TypeId) (hx : a.eval x = .pointer (some ⟨g, i, none⟩)) (hy : a.eval y = .agg cs.toArray) (hg : w.heap[g]? = some (.cells old.toArray t (0, 0)))
    (n : Nat) (hi : (P.info? ty).map (·.size) = some n) (hn : cs.length = n) (hl : i + n ≤ old.length) (h1 : cs.toArray.all (·.oneCell') = true)
    (hK : ∀ w', w'.heap[g]? = some (.cells (old.take i ++ cs ++ old.drop (i + n)).toArray t (0, 0)) → w.grownBy w' (some g) → K (a.put o.dst undef) w') : o.wp P a w K Q := by
  have hst := run_storeCells_at P g i t cs 0 old.toArray w hg (by simp; omega) (fun v hv => (Array.all_eq_true_iff_forall_mem.1 h1) v (by simpa using hv))
  simp only [Nat.add_zero] at hst
  have hr : (storeVar ty ⟨g, i, none⟩ (.agg cs.toArray)).run P w = .ok () (w.setRow g (old.take i ++ cs ++ old.drop (i + n)).toArray) := by
    cases hq : P.info? ty with
    | none => simp [hq] at hi
    | some ii =>
      have hs : ii.size = n := by simpa [hq] using hi
      simp [storeVar, sizeOf, typeInfo, hq, Value.cells, hs, hn, hst]
  unfold Oper.wp execOp
  simp only [ho, hx, hy, Instr.storeAt, Instr.sureAddr, Sem.run_bind, Sem.run_pure, Result.andThen_ok, hr]
  exact hK _ (setRow_heap w g _ _ _ _ hg) ⟨rfl, rfl, rfl, by simp, fun k _ hk => setRow_other w g k _ (fun e => hk (by rw [e]))⟩
/-- copy, into part of a block. -/
theorem run_copy_at {P : Program} (w : World) (dT sT ty elem : TypeId) (hu : P.underlying dT = some (.slice elem)) (hsz : (P.info? elem).map (·.size) = some 1) (g o dn dc : Nat) (cur : Array Value) (t : TypeId) (hg : w.heap[g]? = some (.cells cur t (0, 0)))
    (ao : Option Addr) (m mc : Nat) (p : List UInt8) (hp : IsB w ao m mc p) (k : Nat) (hk : k = min m dn) (hfit : o + k ≤ cur.size) :
    ∃ w', (Builtin.copy_ #[dT, sT] ty #[.slice (some ⟨g, o, none⟩) dn dc, .slice ao m mc]).run P w = .ok (.int .i64 k) w' ∧ w'.heap[g]? = some (.cells (cur.toList.take o ++ bcs (p.take k) ++ cur.toList.drop (o + k)).toArray t (0, 0)) ∧ w.grownBy w' (some g) := by
  have hpl := hp.len
  have hcl : (p.take k).length = k := by rw [List.length_take]; omega
  have hbl : (bcs (p.take k)).length = k := by rw [bcs_length, hcl]
  cases ao with
  | none =>
    have h1 := hp.nil rfl
    have h2 := hp.le
    obtain rfl : m = 0 := by omega
    obtain rfl : mc = 0 := h1
    obtain rfl : k = 0 := by omega
    refine ⟨w, run_copy_nil P w dT sT ty elem _ dn dc hu (by rw [hsz]; rfl), ?_, World.grownBy.refl _ _⟩
    simp [bcs, hg]
  | some ad =>
    have hrun := run_copy_row (P := P) w dT sT ty elem g o dn dc ad m mc cur t (bcs (p.take k)) hu hsz hg
      (by rw [hbl, hk])
      (fun j v hj => by
        rw [bcs_get] at hj
        obtain ⟨x, hx, rfl⟩ := Option.map_eq_some_iff.1 hj
        refine hp.cell ad rfl j x ?_
        rw [List.getElem?_take] at hx
        split at hx
        · exact hx
        · cases hx)
      (by rw [hbl]; exact hfit) (bcs_one _)
    rw [hbl] at hrun
    exact ⟨_, hrun, setRow_heap w g _ _ _ _ hg, ⟨rfl, rfl, rfl, by simp, fun j _ hj => setRow_other w g j _ (fun e => hj (by rw [e]))⟩⟩
theorem wp_copy_at {P : Program} {o : Oper} {a : Act} {w : World} {K : Act → World → Prop} {Q : Exit → Act → World → Prop} (d s : Operand) (dT sT : TypeId)
    (ho : o.op = .call { callee := .builtin .copy, args := #[d, s], argTypes := #[dT, sT] }) (elem : TypeId) (hu : P.underlying dT = some (.slice elem)) (hsz : (P.info? elem).map (·.size) = some 1)
    (g i dn dc : Nat) (hd : a.eval d = .slice (some ⟨g, i, none⟩) dn dc) (cur : Array Value) (t : TypeId) (hg : w.heap[g]? = some (.cells cur t (0, 0)))
    (ao : Option Addr) (m mc : Nat) (p : List UInt8) (hs : a.eval s = .slice ao m mc) (hp : IsB w ao m mc p) (k : Nat) (hk : k = min m dn) (hfit : i + k ≤ cur.size)
    (h : ∀ w', w'.heap[g]? = some (.cells (cur.toList.take i ++ bcs (p.take k) ++ cur.toList.drop (i + k)).toArray t (0, 0)) → w.grownBy w' (some g) → K (a.put o.dst (.int .i64 k)) w') : o.wp P a w K Q := by
  obtain ⟨w', hr, h1, h2⟩ := run_copy_at (P := P) w dT sT o.type elem hu hsz g i dn dc cur t hg ao m mc p hp k hk hfit
  unfold Oper.wp execOp
  simp only [ho, resolve, invoke, builtin, hd, hs, hr, Sem.run_bind, Sem.run_pure, Result.andThen_ok, List.map_toArray, List.map_cons, List.map_nil]
  exact h w' h1 h2
/-- copy, into a row of the call's own. -/
theorem OwnB.spliced {w w' : World} {e : TypeId} {g n c i k : Nat} {l q : List UInt8} {cur : Array Value} (h : OwnB w e g n c l) (hg : w.heap[g]? = some (.cells cur e (0, 0))) (hq : q.length = k) (hi : i + k ≤ n)
    (hw : w'.heap[g]? = some (.cells (cur.toList.take i ++ bcs q ++ cur.toList.drop (i + k)).toArray e (0, 0))) : OwnB w' e g n c (l.take i ++ q ++ l.drop (i + k)) := by
  obtain ⟨cur', hg', hs, ht⟩ := h.row
  rw [hg] at hg'
  obtain rfl : cur = cur' := by simpa using hg'
  have hl := h.len
  have hle := h.le
  have hcl : cur.toList.length = c := by simpa using hs
  refine ⟨by simp [hq, hl]; omega, hle, h.max, _, hw, by simp [bcs_length, hq, hs]; omega, ?_⟩
  have e1 : cur.toList = bcs l ++ cur.toList.drop n := by rw [← ht, List.take_append_drop]
  have e2 : cur.toList.take i = bcs (l.take i) := by rw [e1, List.take_append_of_le_length (by rw [bcs_length]; omega), bcs_take]
  have e3 : cur.toList.drop (i + k) = bcs (l.drop (i + k)) ++ cur.toList.drop n := by
    conv => lhs; rw [e1]
    rw [List.drop_append_of_le_length (by rw [bcs_length]; omega)]
    simp [bcs]
  show List.take n (cur.toList.take i ++ bcs q ++ cur.toList.drop (i + k)) = _
  rw [e2, e3, ← List.append_assoc, ← bcs_append, ← bcs_append]
  exact List.take_left' (by rw [bcs_length]; simp [hq, hl]; omega)
theorem wpList_copy_ob {P : Program} {ops : Array Oper} {rest : List Oper} {o : Oper} {a : Act} {w : World} {Q : Exit → Act → World → Prop} (hgd : o.guard = none) (d s : Operand) (dT sT : TypeId)
    (ho : o.op = .call { callee := .builtin .copy, args := #[d, s], argTypes := #[dT, sT] }) (elem : TypeId) (hu : P.underlying dT = some (.slice elem)) (hsz : (P.info? elem).map (·.size) = some 1)
    (g n c : Nat) (l : List UInt8) (e : TypeId) (hd : a.eval d = .slice (some ⟨g, 0, none⟩) n c) (hO : OwnB w e g n c l)
    (ao : Option Addr) (m mc : Nat) (p : List UInt8) (hs : a.eval s = .slice ao m mc) (hp : IsB w ao m mc p)
    (h : ∀ w', OwnB w' e g n c (p.take (min m n) ++ l.drop (min m n)) → w.grownBy w' (some g) → wpList P ops Q rest (a.put o.dst (.int .i64 (min m n : Nat))) w') : wpList P ops Q (o :: rest) a w := by
  obtain ⟨cur, hg, hs', ht⟩ := id hO.row
  have hle := hO.le
  have hpl := hp.len
  refine wpList_plain hgd fun K hK => wp_copy_at d s dT sT ho elem hu hsz g 0 n c hd cur e hg ao m mc p hs hp (min m n) rfl (by omega) fun w' h1 h2 => hK _ _ (h w' ?_ h2)
  have := hO.spliced (i := 0) (k := min m n) hg (by rw [List.length_take]; omega) (by omega) h1
  simpa using this
/-- A slice that holds something lies in some block, at some place. -/
theorem IsB.open {w : World} {ao : Option Addr} {n c : Nat} {l : List UInt8} (h : IsB w ao n c l) (hn : 0 < n) : ∃ b off, ao = some ⟨b, off, none⟩ ∧ b < w.heap.size ∧ ∀ j u, l[j]? = some u → w.cell? ⟨b, off + j, none⟩ = some (bc u) := by
  cases ao with
  | none => have := h.nil rfl; have := h.le; omega
  | some a =>
    obtain ⟨b, off, spot⟩ := a
    have hl := h.len
    have h0 := h.cell _ rfl 0 _ (List.getElem?_eq_getElem (by omega))
    have hspot : spot = none := by simpa [Addr.add] using World.cell?_spot h0
    subst hspot
    refine ⟨b, off, rfl, World.block_lt_of_cell? w _ h0, fun j u hu => ?_⟩
    have := h.cell _ rfl j u hu
    rwa [Addr.add_lit] at this
theorem wpAnyH_renew {P : Program} {ops : Array Oper} {Q : Exit → Act → World → Prop} {md : Region.Mode} {S S' : World → Prop} (hS : ∀ w, S' w → S w) :
    ∀ (fuel : Nat) (listed : Array Bool) (a : Act) (w : World), wpAnyH P md ops Q S' fuel listed a w → wpAnyH P md ops Q S fuel listed a w
  | 0, _, _, _, h => h
  | fuel + 1, _, _, _, h => ⟨h.1, fun i hi => wpOp_mono (fun a' w' h' => ⟨hS _ h'.1, wpAnyH_renew hS fuel _ a' w' h'.2⟩) (h.2 i hi)⟩
end Go.Proofs.YtdmnjjknkcnkgaaDoor
