/-
  The reference's Sum.
  A number below another one, as the statements take it: plain.
  Of no statement: a row of noughts, sums held against each other, numbers below another one.
  Pieces of a slice of bytes; append to a row of slices of the call's own.
  Bytes at an address: a whole load, a whole store, a copy into part of a block. Of no program.
  Slices of sums: what they read as ('IsH'), a row of the call's own ('OwnH'), append to it; a sum is read whole.
  Roots, proofs and ways of a list of sums, plain: from above and from below they are the same.
  merkle's sums of marked bytes: marked, Leaf, pair; the reference's Leaf and Two.
  The sum over two: merkle's pair and Leaf.
  merkle's above: the row above.
  merkle.Root.
  What is summed of changes, transactions, blocks; a ledger that is added to and closed: plain.
-/
import Derived.Test.YtdmnjjknkcnkgaaGreatDoorMz2
import Derived.Test.YtdmnjjknkcnkgaaGreatDoorMz1
import Derived.Outline
import Derived.WalkKit
import Derived.Lib.SmallJoins
import Derived.Test.YtdmnjjknkcnkgaaGreatDoorMz0
import Derived.Deep.Upon
import Derived.Still
import Derived.StillTailTactics
import Derived.Deep.RegionHeld
import Derived.Laws.CopyOwn
import Derived.Great.BuildSlice
import Derived.KernelRfl
import Derived.Deep.RegionHeld3
namespace Go.Proofs.YtdmnjjknkcnkgaaGreatDoor
open List (setIfInBounds_toArray set_cons_zero set_cons_succ)
open Go.RowKit

theorem below_st {w a b : World} {g : Nat} (h : Below w.heap.size w a) (k : a.grownBy b (some g)) (hg : w.heap.size ≤ g) : Below w.heap.size w b := h.grown k h.size (fun k h => by cases h; exact hg)

structure Fr (w wr : World) (gr gk gs : Nat) (s : St) : Prop where
  r : wr.heap[gr]? = some (.cells (bcs (List.replicate 32 0)).toArray 53 (0, 0))
  k : Ar wr 135 gk K64
  s : Ar wr 137 gs s.l
  b : Below w.heap.size w wr
  o1 : w.heap.size ≤ gr
  o2 : gr < gk
  o3 : gk < gs
theorem Fr.on {w wr w' : World} {gr gk gs : Nat} {s : St} (F : Fr w wr gr gk gs s) (h : Below (gs + 1) wr w') : Fr w w' gr gk gs s := by
  have h1 := F.o1
  have h2 := F.o2
  have h3 := F.o3
  exact ⟨(h.block gr (by omega)).trans F.r, F.k.kept (h.block gk (by omega)), F.s.kept (h.block gs (by omega)), F.b.trans (h.mono (by omega)), h1, h2, h3⟩
theorem Fr.put {w wr w' : World} {gr gk gs : Nat} {s : St} {g n : Nat} (F : Fr w wr gr gk gs s) (h : Puts wr w' g n) (hg : gs < g) : Fr w w' gr gk gs s :=
  F.on (h.below (by omega) (by have := F.s.lt; omega))
theorem Fr.alloc {w wr : World} {gr gk gs : Nat} {s : St} (F : Fr w wr gr gk gs s) (o : Obj) : Fr w (wr.alloc o) gr gk gs s :=
  F.on ((Below.refl _ _).alloc (by have := F.s.lt; omega) o)
theorem pad_more {n0 z j : Nat} (hz : z = (119 - n0 % 64) % 64) (hj : j < z) : (((n0 : Int) + 1 + (j : Int)) % 64 != 56) = true := by
  simp only [bne_iff_ne, ne_eq]; omega
theorem pad_done {n0 z : Nat} (hz : z = (119 - n0 % 64) % 64) : (((n0 : Int) + 1 + (z : Int)) % 64 != 56) = false := by
  simp only [bne_eq_false_iff_eq]; omega
theorem rep_snoc (j : Nat) (x : UInt8) : List.replicate j x ++ [x] = List.replicate (j + 1) x := List.replicate_succ'.symm
theorem be_take (x k q : Nat) (h : k + q = 7) : (be 8 x).take k ++ [UInt8.ofNat (x / 256 ^ q)] = (be 8 x).take (k + 1) := by
  have e : (be 8 x)[k]? = some (UInt8.ofNat (x / 256 ^ q)) := by
    unfold be
    rw [List.getElem?_map, List.getElem?_range (by omega)]
    simp only [Option.map_some]
    rw [show 8 - 1 - k = q by omega]
  rw [List.take_add_one, e]
  rfl
theorem be_byte (n q : Nat) : Value.int .u8 ((n : Int) * 8 / 2 ^ (8 * q) % 256) = bc (UInt8.ofNat (8 * n / 256 ^ q)) := by
  have e : (2 : Int) ^ (8 * q) = ((256 ^ q : Nat) : Int) := by rw [Int.pow_mul]; simp
  have e2 : (n : Int) * 8 = ((8 * n : Nat) : Int) := by omega
  rw [e, e2, ← Int.natCast_ediv, bc_mod]
  simp [bc]


set_option maxRecDepth 100000 in
set_option maxHeartbeats 20000000 in
theorem rsum_any (a0 : Option Addr) (n0 c0 : Nat) (l : List UInt8) (w : World) (h : IsB w a0 n0 c0 l) (hn : n0 ≤ 100000) :
    Calls Tryz.prog 41 #[.slice a0 n0 c0] w fun e w' => e = .returned (.agg (bcs (sha l)).toArray) ∧ Below w.heap.size w w' := by
  go_enter Tryz.func41, Tryz.ntmps41
  go_wp2_with (first
    | (go_at_call 73; refine (words_any _).mono ?_; rintro e w1 ⟨rfl, b1⟩; have B1 := below_on B0 b1)
    | (with_reducible refine wpList_alloc_blk rfl 53 rfl _ zeroH ?_; intro w0 gr h0 B0 q0)
    | (with_reducible refine wpList_alloc_ar rfl 135 rfl 64 zero64 ?_; intro w2 gk h2 b2 q2; have B2 := below_on B1 b2)
    | ((with_reducible refine wpList_store_ar rfl 135 _ _ rfl _ _ K64 ?_ ?_ _ h2 64 size64 List.length_replicate K64_length ?_); (rfl); (rfl); (intro w3 h3 b3; have B3 := below_st B2 b3 (Nat.le_trans B1.size q2)))
    | (with_reducible refine wpList_alloc_ar rfl 137 rfl 8 zero8 ?_; intro w4 gs h4 b4 q4; have B4 := below_on B3 b4)
    | ((with_reducible refine wpList_store_ar rfl 137 _ _ rfl _ _ H0.l ?_ ?_ _ h4 8 size8 List.length_replicate H0.l_length ?_); (rfl); (rfl); (intro w5 h5 b5; have B5 := below_st B4 b5 (Nat.le_trans B3.size q4)))
    | (at_builtin; refine wpList_append_ob rfl (.tmp 25) (.tmp 26) 81 81 rfl 5 byteTy _ 0 0 [] rfl (own_empty w5) _ rfl n0 l (((h.past B5).alloc _).src byteTy.ht) n0 (Nat.zero_add _) l rfl (by omega) ?_; intro g6 c6 w6 o6 p6 q6)
    | (at_builtin; refine wpList_append_ob rfl (.tmp 28) (.tmp 29) 81 81 rfl 5 byteTy _ n0 c6 l rfl (o6.alloc _) _ rfl 1 [128] (src_one byteTy.ht _ _ 128 rfl) (n0 + 1) rfl (l ++ [128]) rfl (by omega) ?_; intro g7 c7 w7 o7 p7 q7))
  obtain ⟨F, hg7⟩ : Fr w w7 gr gk gs H0 ∧ gs < g7 := by
    have t1 := b1.size
    have t2 := b2.size
    have t3 := b3.size
    have t4 := b4.size
    have t5 := b5.size
    have t6 := p6.size
    have e2 := h2.lt
    have e4 := h4.lt
    have e0 : gr < w0.heap.size := (Array.getElem?_eq_some_iff.1 h0.out).1
    have hne : gr ≠ gs := by omega
    have F : Fr w w5 gr gk gs H0 := by
      refine ⟨?_, ?_, h5, B5, q0, by omega, by omega⟩
      · rw [b5.block gr (by omega) (by simp; omega), b4.block gr (by omega), b3.block gr (by omega) (by simp; omega), b2.block gr (by omega), b1.block gr e0]
        exact h0.out
      · exact (h3.kept (b4.block gk (by omega))).kept (b5.block gk (by omega) (by simp; omega))
    simp at q6 q7 t6
    have hl := F.s.lt
    have F6 := (F.alloc (.cells #[] 5)).put p6 hl
    exact ⟨(F6.alloc _).put p7 (by omega), by omega⟩
  obtain ⟨z, hz⟩ : ∃ z, z = (119 - n0 % 64) % 64 := ⟨_, rfl⟩
  have hz63 : z ≤ 63 := by omega
  have HZ := Lib.hid hz
  clear hz h0 B0 q0 b1 B1 h2 b2 q2 B2 h3 b3 B3 h4 b4 q4 B4 h5 b5 B5 o6 p6 q6 p7 q7
  go_loopw [5] (fun v wr => ∃ j g cap,j ≤ z ∧ v = .slice (some ⟨g,0,none⟩) (n0 + 1 + j) cap ∧ OwnB wr 5 g (n0 + 1 + j) cap (l ++ [128] ++ List.replicate j 0) ∧ gs < g ∧ Fr w wr gr gk gs H0) (fun v _ => match v with | .slice _ n _ => n0 + 1 + z - n | _ => 0)
  case atStart => exact ⟨0, g7, c7, Nat.zero_le _, rfl, by simpa using o7, hg7, F⟩
  case round =>
    obtain ⟨j, g, cap, hj, rfl, ho, hg, Fj⟩ := hrel
    by_cases hlt : j < z
    · have HL : Hid (l ++ [128] ++ List.replicate j 0 ++ [0] = l ++ [128] ++ List.replicate (j + 1) 0) := by unfold Hid; rw [List.append_assoc, rep_snoc]
      have ht := pad_more HZ.out hlt
      go_wp2_with (at_builtin; refine wpList_append_ob rfl (.tmp 35) (.tmp 36) 81 81 rfl 5 byteTy g (n0 + 1 + j) cap _ rfl (ho.alloc _) _ rfl 1 [0] (src_one byteTy.ht _ _ 0 rfl) (n0 + 1 + (j + 1)) rfl (l ++ [128] ++ List.replicate (j + 1) 0) HL.out (by omega) ?_; intro g2 cap2 w2 ho2 hp2 hg2)
      go_roundw
      case rel => exact ⟨j + 1, g2, cap2, by omega, rfl, ho2, by have := Fj.s.lt; simp at hg2; omega, (Fj.alloc _).put hp2 hg⟩
      case measure => simp; omega
    · obtain rfl : j = z := by omega
      have ht := pad_done HZ.out
      go_wp2_with fail
      clear ht hj hlt
      have hM : l.length = n0 := h.len
      have HM := Lib.hid hM
      clear hM
      go_loopw [5,7] (fun v i wq => ∃ (k m g2 cap2 : Nat),k + m = 8 ∧ i = .int .i64 ((m : Int) - 1) ∧ v = .slice (some ⟨g2,0,none⟩) (n0 + 1 + j + k) cap2 ∧ OwnB wq 5 g2 (n0 + 1 + j + k) cap2 (l ++ [128] ++ List.replicate j 0 ++ (be 8 (8 * n0)).take k) ∧ gs < g2 ∧ Fr w wq gr gk gs H0) (fun _ i _ => (intOf i + 1).toNat)
      case atStart => exact ⟨0, 8, g, cap, rfl, rfl, rfl, by simpa using ho, hg, Fj⟩
      case round =>
        obtain ⟨k, m, g2, cap2, hm, rfl, rfl, ho2, hg2, F2⟩ := hrel
        have HK := Lib.hid hm
        have hk8 : k ≤ 8 := by omega
        clear hm
        by_cases hm0 : 0 < m
        · obtain ⟨q, rfl⟩ : ∃ q : Nat, m = q + 1 := ⟨m - 1, by omega⟩
          have eq1 : (((q + 1 : Nat) : Int) - 1) = q := by omega
          have hq7 : q ≤ 7 := by have := HK.out; omega
          simp only [eq1]
          have HB : Hid (Value.int .u8 ((n0 : Int) * 8 / 2 ^ (8 * q) % 256) = bc (UInt8.ofNat (8 * n0 / 256 ^ q))) := be_byte n0 q
          have HT : Hid (l ++ [128] ++ List.replicate j 0 ++ (be 8 (8 * n0)).take k ++ [UInt8.ofNat (8 * n0 / 256 ^ q)] = l ++ [128] ++ List.replicate j 0 ++ (be 8 (8 * n0)).take (k + 1)) := by
            unfold Hid
            rw [List.append_assoc, be_take _ _ _ (by have := HK.out; omega)]
          clear eq1
          go_wp2_with (at_builtin; refine wpList_append_ob rfl (.tmp 46) (.tmp 53) 81 81 rfl 5 byteTy g2 (n0 + 1 + j + k) cap2 _ rfl (ho2.alloc _) _ rfl 1 _ (src_one byteTy.ht _ _ _ HB.out) (n0 + 1 + j + (k + 1)) rfl _ HT.out (by omega) ?_; intro g3 cap3 w3 ho3 hp3 hg3)
          go_roundw
          case rel => exact ⟨k + 1, q, g3, cap3, by have := HK.out; omega, by go_num, rfl, ho3, by have := F2.s.lt; simp at hg3; omega, (F2.alloc _).put hp3 hg2⟩
          case measure => simp [intOf]
        · obtain rfl : m = 0 := by omega
          obtain rfl : k = 8 := HK.out
          have HP : Hid (l ++ [128] ++ List.replicate j 0 ++ (be 8 (8 * n0)).take 8 = padded l) := by
            unfold Hid padded padding
            rw [HM.out, ← HZ.out, List.take_of_length_le (by rw [be_length]; omega)]
            simp
          rw [HP.out] at ho2
          obtain ⟨M, hM⟩ : ∃ M, n0 + 1 + j + 8 = 64 * M := ⟨(n0 + 1 + j + 8) / 64, by have := HZ.out; omega⟩
          rw [hM] at ho2 ⊢
          have hM2 : M ≤ 2000 := by omega
          clear hM HP HM HZ hk8 hm0
          generalize hPP : padded l = P at ho2
          have HPP := Lib.hid hPP
          clear hPP
          have hg2l := ho2.lt
          go_wp2_with (first | (with_reducible refine wpList_alloc_ar rfl 135 rfl 64 zero64 ?_; intro w4 gw h4 b4 q4))
          have hgw : g2 < gw := by omega
          have F4 : Fr w w4 gr gk gs H0 := F2.on (b4.mono (by have := F2.s.lt; omega))
          have o4 := ho2.below b4 hg2l
          clear ho2 F2 b4 q4 hg2l hg F Fj hg7 o7
          go_loopw [9] (fun p wq => ∃ m : Nat,m ≤ M ∧ p = .int .i64 (64 * (m : Int)) ∧ OwnB wq 5 g2 (64 * M) cap2 P ∧ (∃ L,Ar wq 135 gw L ∧ L.length = 64) ∧ Fr w wq gr gk gs (blocks P H0 m)) (fun p _ => 64 * M - (intOf p).toNat)
          case atStart => exact ⟨0, Nat.zero_le _, rfl, o4, ⟨_, h4, List.length_replicate⟩, F4⟩
          case round =>
            clear h4 F4 o4
            obtain ⟨wo, rfl⟩ : ∃ wo : World, wo = wr := ⟨_, rfl⟩
            obtain ⟨m, hm, rfl, oP, ⟨L0, hL0, hl0⟩, FO⟩ := hrel
            by_cases hmM : m < M
            · have hlt : 64 * (m : Int) < 64 * (M : Int) := by omega
              have HL0 := Lib.hid hl0
              clear hl0
              go_wp2_with fail
              go_loopw [10] (fun i wq => ∃ (k : Nat) (L : List UInt32),k ≤ 16 ∧ i = .int .i64 k ∧ Ar wq 135 gw L ∧ Hid (L.length = 64) ∧ Hid (L.take k = words (P.drop (64 * m)) k) ∧ Below gw wo wq) (fun i _ => 16 - (intOf i).toNat)
              case atStart => exact ⟨0, L0, Nat.zero_le _, rfl, hL0, HL0, rfl, Below.refl _ _⟩
              case round =>
                obtain ⟨k, L, hk, rfl, hL, hl, ht, hb⟩ := hrel
                by_cases hk16 : k < 16
                · refine case4 hk16 hmM hM2 oP hgw hL hl ht hb ?_
                  intro u11 u61 u62 u63 u64 u65 u66 u67 u68 u69 u70 u71 u72 u73 u74 u75 u76 u77 u78 u79 u80 u81 u82 u83 u84 u85 u86 u87 u88 u89 u90 u91 u92 u93 u94 u95 u96 u97 u98 u99 L2 w' h1 h2 h3 h4
                  change _ ∧ _
                  refine ⟨?_, ?_⟩
                  · repeat apply Exists.intro
                    refine ⟨?_, rfl⟩
                    exact ⟨k + 1, L2, by omega, by go_num, h1, h2, h3, h4⟩
                  · show _ - (intOf (Value.int .i64 ((k : Int) + 1))).toNat < _ - (intOf (Value.int .i64 (k : Int))).toNat
                    simp [intOf]; omega
                · obtain rfl : k = 16 := by omega
                  have HT : Hid (L.take 16 = words (P.drop (64 * m)) 16) := ht
                  clear ht hk hk16
                  go_wp2_with fail
                  simp only [show ((16 : Nat) : Int) = 16 from rfl]
                  go_loopw [12] (fun i wq => ∃ (i0 : Nat) (L1 : List UInt32),16 ≤ i0 ∧ i0 ≤ 64 ∧ i = .int .i64 i0 ∧ Ar wq 135 gw L1 ∧ Hid (L1.length = 64) ∧ Hid (L1.take i0 = sched (words (P.drop (64 * m)) 16) (i0 - 16)) ∧ Below gw wo wq) (fun i _ => 64 - (intOf i).toNat)
                  case atStart => exact ⟨16, L, by omega, by omega, rfl, hL, hl, HT, hb⟩
                  case round =>
                    clear hL hl HT hb
                    obtain ⟨i, L1, hi1, hi2, rfl, hL, hl, HT, hb⟩ := hrel
                    by_cases hi3 : i < 64
                    · refine case5 hi1 hi3 hL hl HT hb ?_
                      intro u13 u14 u100 u101 u102 u103 u104 u105 u106 u107 u108 u109 u110 u111 u112 u113 u114 u115 u116 u117 u118 u119 u120 u121 u122 u123 u124 u125 u126 u127 u128 u129 u130 u131 u132 u133 u134 u135 u136 u137 u138 u139 u140 L2 w' h1 h2 h3 h4
                      change _ ∧ _
                      refine ⟨?_, ?_⟩
                      · repeat apply Exists.intro
                        refine ⟨?_, rfl⟩
                        exact ⟨i + 1, L2, by omega, by omega, by go_num, h1, h2, h3, h4⟩
                      · show _ - (intOf (Value.int .i64 ((i : Int) + 1))).toNat < _ - (intOf (Value.int .i64 (i : Int))).toNat
                        simp [intOf]; omega
                    · obtain rfl : i = 64 := by omega
                      have hW : L1 = sched (words (P.drop (64 * m)) 16) 48 := by
                        have e := HT.out
                        rwa [List.take_of_length_le (by have := hl.out; omega)] at e
                      rw [hW] at hL
                      have hlW : (sched (words (P.drop (64 * m)) 16) 48).length = 64 := by rw [sched_length, words_length]
                      generalize hWW : sched (words (P.drop (64 * m)) 16) 48 = W at hL hlW
                      have HW := Lib.hid hWW
                      have HlW := Lib.hid hlW
                      have FB := FO.on (hb.mono (by omega))
                      have oB := oP.below hb hgw
                      have HS : Hid (blocks P H0 (m + 1) = (blocks P H0 m).mix (P.drop (64 * m))) := rfl
                      generalize blocks P H0 m = S at FB HS
                      clear hWW hlW hW HT hl hi1 hi2 hi3
                      go_wp2_with (first
                        | ((with_reducible refine wpList_load_ar rfl 137 _ rfl gs _ ?_ _ FB.s _ _ Tryz.underlying137 8 size8 S.l_length ?_); (rfl))
                        | (with_reducible refine wpList_alloc_ar rfl 137 rfl 8 zero8 ?_; intro w8 ga h8 b8 q8)
                        | ((with_reducible refine wpList_store_ar rfl 137 _ _ rfl _ _ S.l ?_ ?_ _ h8 8 size8 List.length_replicate S.l_length ?_); (rfl); (rfl); (intro w9 h9 b9)))
                      have hgs := FB.s.lt
                      have hgwl := hL.lt
                      have ha9 : Below wr.heap.size wr w9 := b8.grown b9 b8.size (fun k h => by cases h; exact q8)
                      have k9 : Ar w9 135 gk K64 := FB.k.kept (ha9.block gk (by have := FB.o3; omega))
                      have L9 : Ar w9 135 gw W := hL.kept (ha9.block gw hgwl)
                      have hgka : gk < ga := by have := FB.o3; omega
                      have hgwa : gw < ga := by omega
                      have hga9 := h9.lt
                      go_loopw [16] (fun i wq => ∃ t : Nat, t ≤ 64 ∧ i = .int .i64 t ∧ Ar wq 137 ga (rounds W S t).l ∧ Below ga w9 wq) (fun i _ => 64 - (intOf i).toNat)
                      case atStart => exact ⟨0, Nat.zero_le _, rfl, h9, Below.refl _ _⟩
                      case round =>
                        clear h8 b8 b9 h9
                        obtain ⟨t, ht, rfl, hT, bT⟩ := hrel
                        by_cases ht64 : t < 64
                        · refine case6 ht64 k9 L9 hgka hgwa HlW hT bT ?_
                          intro u17 u18 u19 u142 u143 u144 u145 u146 u147 u148 u149 u150 u151 u152 u153 u154 u155 u156 u157 u158 u159 u160 u161 u162 u163 u164 u165 u166 u167 u168 u169 u170 u171 u172 u173 u174 u175 u176 u177 u178 u179 u180 u181 u182 u183 u184 u185 u186 u187 u188 u189 u190 u191 u192 u193 u194 u195 u196 u197 u198 u199 u200 u201 u202 u203 u204 u205 u206 u207 u208 u209 u210 u211 u212 u213 u214 u215 u216 u217 u218 u219 u220 u221 u222 u223 u224 u225 u226 w' h1 h2
                          change _ ∧ _
                          refine ⟨?_, ?_⟩
                          · repeat apply Exists.intro
                            refine ⟨?_, rfl⟩
                            exact ⟨t + 1, by omega, by go_num, h1, h2⟩
                          · show _ - (intOf (Value.int .i64 ((t : Int) + 1))).toNat < _ - (intOf (Value.int .i64 (t : Int))).toNat
                            simp [intOf]; omega
                        · obtain rfl : t = 64 := by omega
                          clear ht ht64
                          have HS2 : Hid (blocks P H0 (m + 1) = S.add (rounds W S 64)) := by unfold Hid; rw [HS.out, ← HW.out]; rfl
                          generalize rounds W S 64 = T at hT HS2
                          obtain ⟨wx, hwx⟩ : ∃ wx : World, Hid (wx = wr) := ⟨_, rfl⟩
                          have bX : Below ga w9 wx := by rw [hwx.out]; exact bT
                          have S9 : Ar wr 137 gs S.l := (FB.s.kept (ha9.block gs hgs)).kept (bT.block gs (by omega))
                          have hgsa : gs ≠ ga := by omega
                          go_wp2_with fail
                          simp only [show ((64 : Nat) : Int) = 64 from rfl]
                          go_loopw [20] (fun i wq => ∃ t : Nat,t ≤ 8 ∧ i = .int .i64 t ∧ Ar wq 137 gs (sums S T t) ∧ Ar wq 137 ga T.l ∧ wx.grownBy wq (some gs)) (fun i _ => 8 - (intOf i).toNat)
                          case atStart => exact ⟨0, Nat.zero_le _, rfl, S9, hT, by rw [hwx.out]; exact World.grownBy.refl _ _⟩
                          case round =>
                            clear S9 hT
                            obtain ⟨t, ht, rfl, hA, hT, gT⟩ := hrel
                            by_cases ht8 : t < 8
                            · refine case7 ht8 hgsa hA hT gT ?_
                              intro u227 u228 u229 u230 u231 u232 u233 u234 u235 u236 u237 u238 w' h1 h2 h3
                              change _ ∧ _
                              refine ⟨?_, ?_⟩
                              · repeat apply Exists.intro
                                refine ⟨?_, rfl⟩
                                exact ⟨t + 1, by omega, by go_num, h1, h2, h3⟩
                              · show _ - (intOf (Value.int .i64 ((t : Int) + 1))).toNat < _ - (intOf (Value.int .i64 (t : Int))).toNat
                                simp [intOf]; omega
                            · obtain rfl : t = 8 := by omega
                              rw [sums_all] at hA
                              have gOb : gs < wx.heap.size := by rw [hwx.out]; exact Nat.lt_of_lt_of_le hgs (Nat.le_trans ha9.size bT.size)
                              clear ht ht8
                              go_wp2_with fail
                              go_roundw
                              case rel =>
                                have e1 := FB.o1
                                have e2 := FB.o2
                                have e3 := FB.o3
                                refine ⟨m + 1, by omega, by congr 1, ?_, ?_, ?_⟩
                                · exact ((oB.below ha9 oB.lt).below bX (by omega)).grown gT (by simp; omega)
                                · exact ⟨W, (L9.kept (bX.block gw hgwa)).kept (gT.block gw (by have := bX.size; omega) (by simp; omega)), HlW.out⟩
                                · rw [HS2.out]
                                  refine ⟨?_, ?_, hA, ?_, e1, e2, e3⟩
                                  · rw [gT.block gr (by omega) (by simp; omega), bX.block gr (by omega), ha9.block gr (by omega)]
                                    exact FB.r
                                  · exact (k9.kept (bX.block gk hgka)).kept (gT.block gk (by omega) (by simp; omega))
                                  · exact ((FB.b.trans (ha9.mono (by omega))).trans (bX.mono (by omega))).grown gT (by omega) (fun k h => by cases h; omega)
                              case measure => simp [intOf]; omega
            · obtain rfl : m = M := by omega
              clear hL0 hl0
              have HS3 : Hid ((bcs (outs (blocks P H0 m) 8)).toArray = (bcs (sha l)).toArray) := by
                unfold Hid
                rw [outs_all, ← HPP.out]
                unfold sha
                rw [HPP.out, oP.len, Nat.mul_div_cancel_left m (by decide)]
              generalize blocks P H0 m = S at FO HS3
              go_wp2_with (first | (with_reducible refine wpList_alloc_blk rfl 53 rfl _ zeroH ?_; intro wa go ha ba qa))
              have hgo : gs < go := Nat.lt_of_lt_of_le FO.s.lt qa
              have gsl := FO.s.lt
              have Sa : Ar wa 137 gs S.l := FO.s.kept (ba.block gs gsl)
              have hgr : gr < gs := by have := FO.o2; have := FO.o3; omega
              have Ba : Below w.heap.size w wa := FO.b.trans (ba.mono FO.b.size)
              have Ra : Hid (wa.heap[gr]? = some (.cells (bcs (List.replicate 32 0)).toArray 53 (0, 0))) := (ba.block gr (by omega)).trans FO.r
              have q1 := FO.o1
              have hwgo : w.heap.size ≤ go := by omega
              have hA0 : Ab wa 53 go (outs S 0) := ha.out
              clear ha oP FO hm hmM ba qa gsl
              go_loopw [22] (fun i wq => ∃ t : Nat, t ≤ 8 ∧ i = .int .i64 t ∧ Ab wq 53 go (outs S t) ∧ Below go wa wq) (fun i _ => 8 - (intOf i).toNat)
              case atStart => exact ⟨0, Nat.zero_le _, rfl, hA0, Below.refl _ _⟩
              case round =>
                clear hA0
                obtain ⟨t, ht, rfl, hA, bA⟩ := hrel
                by_cases ht8 : t < 8
                · refine case8 ht8 hgo Sa hA bA ?_
                  intro u239 u240 u241 u242 u243 u244 u245 u246 u247 u248 u249 u250 u251 u252 u253 u254 u255 u256 u257 u258 u259 u260 u261 u262 u263 u264 u265 u266 u267 u268 u269 u270 u271 u272 u273 u274 u275 u276 w' h1 h2
                  change _ ∧ _
                  refine ⟨?_, ?_⟩
                  · repeat apply Exists.intro
                    refine ⟨?_, rfl⟩
                    exact ⟨t + 1, by omega, by go_num, h1, h2⟩
                  · show _ - (intOf (Value.int .i64 ((t : Int) + 1))).toNat < _ - (intOf (Value.int .i64 (t : Int))).toNat
                    simp [intOf]; omega
                · obtain rfl : t = 8 := by omega
                  have hAH : Hid (wr.heap[go]? = some (.cells (bcs (sha l)).toArray 53 (0, 0))) := by
                    have e : (bcs (outs S 8)).toArray = (bcs (sha l)).toArray := HS3.out
                    unfold Hid
                    rw [← e]
                    exact hA
                  have hRH : Hid (wr.heap[gr]? = some (.cells (bcs (List.replicate 32 0)).toArray 53 (0, 0))) := (bA.block gr (by omega)).trans Ra.out
                  have sz : (bcs (sha l)).toArray.size = 32 := by simp [bcs_length, sha_length]
                  have SZ := Lib.hid sz
                  clear sz hA ht ht8
                  go_wp2_with (first
                    | ((with_reducible refine wpList_load_blk rfl 53 _ rfl go _ ?_ _ hAH _ _ Tryz.underlying53 32 sizeH SZ.out ?_); (rfl))
                    | ((with_reducible refine wpList_store_blk rfl 53 _ _ rfl gr _ (bcs (sha l)).toArray ?_ ?_ _ hRH 32 sizeH List.size_toArray SZ.out ?_ ?_); (rfl); (rfl); (exact bcs_all _); (intro wz hz bz)))
                  have Bz := (Ba.trans (bA.mono hwgo))
                  refine bodyPost_ret (v := .agg (bcs (sha l)).toArray) (results_cell_row rfl _ _ gr _ _ (0,0) _ rfl hz.out Tryz.underlying53 rfl (sizeH.trans (by rw [SZ.out]))) rfl ⟨rfl,?_⟩
                  exact Bz.grown bz Bz.size (fun k h => by cases h; exact q1)

def wth (a n : Int) : Int := if a.tmod n < 0 then a.tmod n + n else a.tmod n
theorem wth_lo (a n : Int) (h : 0 < n) : 0 ≤ wth a n := by
  unfold wth
  have := Int.lt_tmod_of_pos a h
  split <;> omega
theorem wth_hi (a n : Int) (h : 0 < n) : wth a n < n := by
  unfold wth
  have := Int.tmod_lt_of_pos a h
  split <;> omega
set_option linter.unusedSimpArgs false

theorem equal_hash (a b : List UInt8) (ha : a.length = 32) (hb : b.length = 32) (w : World) : (Op.equalIn 10000 53 (.agg (bcs a).toArray) (.agg (bcs b).toArray)).run Tryz.prog w = .ok (a == b) w :=
  run_equalIn_bytes w 9998 53 5 32 Tryz.underlying53 Tryz.underlying5 (fun w' => by kernel_rfl) a b ha hb
theorem one_flat (l : List UInt8) : [l].flatten = l := by simp

def OwnN (w : World) (e : TypeId) (base : Nat) (v : Value) (n : Nat) (l : List UInt8) : Prop :=
  (v = .slice none 0 0 ∧ n = 0 ∧ l = []) ∨ ∃ g cap, v = .slice (some ⟨g, 0, none⟩) n cap ∧ base ≤ g ∧ OwnB w e g n cap l
theorem OwnN.nil (w : World) (e : TypeId) (base : Nat) : OwnN w e base (.slice none 0 0) 0 [] := .inl ⟨rfl, rfl, rfl⟩
theorem OwnN.kept {w w' : World} {e : TypeId} {base : Nat} {v : Value} {n : Nat} {l : List UInt8} (h : OwnN w e base v n l) (hb : Below w.heap.size w w') : OwnN w' e base v n l := by
  rcases h with h | ⟨g, cap, rfl, hg, ho⟩
  · exact .inl h
  · exact .inr ⟨g, cap, rfl, hg, ho.below hb ho.lt⟩
theorem OwnN.isB {w : World} {e : TypeId} {base : Nat} {v : Value} {n : Nat} {l : List UInt8} (h : OwnN w e base v n l) : ∃ ao cap, v = .slice ao n cap ∧ IsB w ao n cap l := by
  rcases h with ⟨rfl, rfl, rfl⟩ | ⟨g, cap, rfl, hg, ho⟩
  · exact ⟨none, 0, rfl, IsB.nilB w⟩
  · exact ⟨_, cap, rfl, ho.isB⟩


def OwnP (w0 w : World) (base : Nat) (v : Value) (k : Nat) (ps : List (List UInt8)) : Prop :=
  ∃ xs, w.ownsRow base 81 1 v k xs ∧ ps.length = k ∧ ∀ j, j < k → ∃ bo bn bc, xs[j]? = some (.slice bo bn bc) ∧ IsB w0 bo bn bc (ps.getD j [])
theorem OwnP.nil (w0 w : World) (base : Nat) : OwnP w0 w base (.slice none 0 0) 0 [] := ⟨[], ⟨rfl, .inl ⟨rfl, rfl⟩⟩, rfl, fun j hj => by omega⟩
theorem OwnP.isP {w0 w : World} {base : Nat} {v : Value} {k : Nat} {ps : List (List UInt8)} (h : OwnP w0 w base v k ps) (hb : Below w0.heap.size w0 w) : ∃ ao cap,v = .slice ao k cap ∧ IsP w ao k ps := by
  obtain ⟨xs, ⟨hl, ho⟩, hp, hx⟩ := h
  rcases ho with ⟨rfl, rfl⟩ | ⟨g, cap, cur, rfl, hg, hc, hn, hm, hs, ht⟩
  · have : ps = [] := List.eq_nil_of_length_eq_zero hp
    subst this
    exact ⟨none, 0, rfl, isP_nil w none⟩
  · refine ⟨_, _, rfl, hp, fun _ => ⟨_, rfl⟩, fun a ha j hj => ?_⟩
    obtain rfl := Option.some.inj ha
    obtain ⟨bo, bn, bc, h1, h2⟩ := hx j hj
    refine ⟨bo, bn, bc, ?_, h2.past hb⟩
    rw [Addr.add_lit, Nat.zero_add, cell_of_row w g j cur _ (0, 0) hc]
    rw [← ht, Nat.mul_one, List.getElem?_take_of_lt hj] at h1
    simpa using h1
theorem OwnP.alloc {w0 w : World} {base : Nat} {v : Value} {k : Nat} {ps : List (List UInt8)} (h : OwnP w0 w base v k ps) (o : Obj) : OwnP w0 (w.alloc o) base v k ps := by
  obtain ⟨xs, ho, hp, hx⟩ := h
  exact ⟨xs, ho.alloc o, hp, hx⟩
theorem OwnP.ge {w0 w : World} {base : Nat} {v : Value} {k : Nat} {ps : List (List UInt8)} (h : OwnP w0 w base v k ps) (g : Nat) (hg : v.ownBlock = some g) : base ≤ g := by
  obtain ⟨xs, ⟨_, ho⟩, _, _⟩ := h
  rcases ho with ⟨rfl, rfl⟩ | ⟨g', cap, cur, rfl, hg', _⟩
  · cases hg
  · cases hg
    exact hg'
theorem OwnP.step {w0 w w' : World} {B base : Nat} {v : Value} {k : Nat} {ps : List (List UInt8)} {o : Obj} (h : OwnP w0 w base v k ps) (hb : Below B w0 w) (hB : B ≤ w.heap.size) (hbase : B ≤ base) (g : (w.alloc o).grownBy w' v.ownBlock) : Below B w0 w' :=
  (hb.alloc hB o).grown g (by simp; omega) (fun k hk => Nat.le_trans hbase (h.ge k hk))
theorem info_row : (Tryz.prog.info? 81).map (fun i => (i.zero, i.size, i.bytes)) = some (some (.slice none 0 0), 1, 24) := by kernel_rfl

def AtA (w : World) (a : Addr) (l : List UInt8) : Prop := ∀ j u, l[j]? = some u → w.cell? (a.add j) = some (bc u)
theorem AtA.past {w w' : World} {a : Addr} {l : List UInt8} (h : AtA w a l) (hb : Below w.heap.size w w') : AtA w' a l := fun j u hu => by
  have hc := h j u hu
  rw [hb.cell (World.block_lt_of_cell? w _ hc)]
  exact hc
theorem run_load_at {P : Program} (w : World) (ty : TypeId) (a : Addr) (l : List UInt8) (n : Nat) (e : TypeId) (hu : P.underlying ty = some (.array n e)) (hi : (P.info? ty).map (·.size) = some l.length) (h : AtA w a l) : (loadVar ty a).run P w = .ok (.agg (bcs l).toArray) w := by
  have hl : (loadCells a (bcs l).length).run P w = .ok (bcs l).toArray w :=
    run_loadCells_list (P := P) w a (bcs l) (fun j v hv => by
      rw [bcs_get] at hv
      obtain ⟨x, hx, rfl⟩ := Option.map_eq_some_iff.1 hv
      exact h j x hx)
  rw [bcs_length] at hl
  cases hq : P.info? ty with
  | none => simp [hq] at hi
  | some i =>
    have hs : i.size = l.length := by simpa [hq] using hi
    have hagg : (isAgg ty).run P w = .ok true w := by
      unfold isAgg
      rw [Sem.run_bind, run_underlying hu w]
      rfl
    simp [loadVar, Sem.run_bind, hagg, sizeOf, typeInfo, hq, hs, hl]
theorem wp_load_at {P : Program} {o : Oper} {a : Act} {w : World} {K : Act → World → Prop} {Q : Exit → Act → World → Prop} (ty : TypeId) (x : Operand) (ho : o.op = .load ty x)
    (p : Addr) (hx : a.eval x = .pointer (some p)) (l : List UInt8) (hc : AtA w p l) (n : Nat) (e : TypeId) (hu : P.underlying ty = some (.array n e)) (hi : (P.info? ty).map (·.size) = some l.length)
    (h : K (a.put o.dst (.agg (bcs l).toArray)) w) : o.wp P a w K Q := by
  unfold Oper.wp execOp
  simp only [ho, hx, Instr.loadAt, Instr.sureAddr, Sem.run_bind, Sem.run_pure, Result.andThen_ok, run_load_at w ty p l n e hu hi hc]
  exact h
theorem wpList_load_at {P : Program} {ops : Array Oper} {rest : List Oper} {o : Oper} {a : Act} {w : World} {Q : Exit → Act → World → Prop} (hgd : o.guard = none) (ty : TypeId) (x : Operand) (ho : o.op = .load ty x)
    (p : Addr) (hx : a.eval x = .pointer (some p)) (l : List UInt8) (hc : AtA w p l) (n : Nat) (e : TypeId) (hu : P.underlying ty = some (.array n e)) (hi : (P.info? ty).map (·.size) = some l.length)
    (h : wpList P ops Q rest (a.put o.dst (.agg (bcs l).toArray)) w) : wpList P ops Q (o :: rest) a w :=
  wpList_plain hgd fun _ hK => wp_load_at ty x ho p hx l hc n e hu hi (hK _ _ h)
theorem yieldsIf_load_at {P : Program} {ops : Array Oper} {S : World → Prop} {op : Oper} {a : Act} (hw : Region.wanted op (yielded ops a.tmps) = true) (ty : TypeId) (x : Operand) (ho : op.op = .load ty x)
    (p : Addr) (hx : a.eval x = .pointer (some p)) (l : List UInt8) (hS : ∀ w,S w → AtA w p l) (n : Nat) (e : TypeId) (hu : P.underlying ty = some (.array n e)) (hi : (P.info? ty).map (·.size) = some l.length) : YieldsIf P ops S op (.agg (bcs l).toArray) a :=
  .inl ⟨hw, fun w hw' => by
    unfold execOp
    simp only [ho, hx, Instr.loadAt, Instr.sureAddr, Sem.run_bind, Sem.run_pure, Result.andThen_ok, run_load_at w ty p l n e hu hi (hS w hw')]⟩

theorem IsB.open {w : World} {ao : Option Addr} {n c : Nat} {l : List UInt8} (h : IsB w ao n c l) (hn : 0 < n) : ∃ b off,ao = some ⟨b,off,none⟩ ∧ b < w.heap.size ∧ ∀ j u,l[j]? = some u → w.cell? ⟨b,off + j,none⟩ = some (bc u) := by
  cases ao with
  | none => have := h.nil rfl; have := h.le; omega
  | some a =>
    obtain ⟨b, off, spot⟩ := a
    have hl := h.len
    have h0 := h.cell _ rfl 0 _ (List.getElem?_eq_getElem (by omega))
    have hspot : spot = none := by simpa [Addr.add] using World.cell?_spot h0
    subst hspot
    refine ⟨b, off, rfl, World.block_lt_of_cell? w _ h0, fun j u hu => ?_⟩
    have := h.cell _ rfl j u hu
    rwa [Addr.add_lit] at this

structure IsH (w : World) (ao : Option Addr) (n cap : Nat) (hs : List (List UInt8)) : Prop where
  len : hs.length = n
  le : n ≤ cap
  max : cap ≤ maxLen
  nil : ao = none → cap = 0
  all : ∀ h ∈ hs, h.length = 32
  at_ : ∀ a, ao = some a → ∀ i, i < n → AtA w (a.add (i * 32)) (hs.getD i [])
theorem IsH.past {w w' : World} {ao : Option Addr} {n cap : Nat} {hs : List (List UInt8)} (h : IsH w ao n cap hs) (hb : Below w.heap.size w w') : IsH w' ao n cap hs :=
  ⟨h.len, h.le, h.max, h.nil, h.all, fun a ha i hi => (h.at_ a ha i hi).past hb⟩
theorem IsH.one {w : World} {ao : Option Addr} {n cap : Nat} {hs : List (List UInt8)} (h : IsH w ao n cap hs) (i : Nat) (hi : i < n) : (hs.getD i []).length = 32 := by
  have hl := h.len
  have : hs.getD i [] = hs[i] := by simp [List.getD, show i < hs.length by omega]
  rw [this]
  exact h.all _ (List.getElem_mem _)
theorem IsH.has {w : World} {ao : Option Addr} {n cap : Nat} {hs : List (List UInt8)} (h : IsH w ao n cap hs) (hn : 0 < n) : ∃ a, ao = some a := by
  cases ao with
  | none => have := h.nil rfl; have := h.le; omega
  | some a => exact ⟨a, rfl⟩
theorem IsH.nilH (w : World) : IsH w none 0 0 [] := ⟨rfl, Nat.le_refl _, Nat.zero_le _, fun _ => rfl, by simp, fun a h => by cases h⟩
theorem getD_take' {α : Type} (l : List α) (d : α) (k j : Nat) (h : j < k) : (l.take k).getD j d = l.getD j d := by simp [List.getD, h]
theorem getD_drop' {α : Type} (l : List α) (d : α) (k j : Nat) : (l.drop k).getD j d = l.getD (k + j) d := by simp [List.getD]
theorem IsH_take {w : World} {ao : Option Addr} {n cap : Nat} {hs : List (List UInt8)} (h : IsH w ao n cap hs) (m : Nat) (hm : m ≤ n) : IsH w ao m cap (hs.take m) := by
  have h1 := h.len
  have h2 := h.le
  exact ⟨by rw [List.length_take]; omega, by omega, h.max, h.nil, fun x hx => h.all x (List.mem_of_mem_take hx), fun a ha i hi => by rw [getD_take' _ _ _ _ hi]; exact h.at_ a ha i (by omega)⟩
theorem IsH_drop {w : World} {ao : Option Addr} {n cap : Nat} {hs : List (List UInt8)} (h : IsH w ao n cap hs) (m : Nat) (hm : m ≤ n) : IsH w (ao.map fun x => x.add (m * 32)) (n - m) (cap - m) (hs.drop m) := by
  have h1 := h.len
  have h2 := h.le
  have h3 := h.max
  refine ⟨by rw [List.length_drop]; omega, by omega, by omega, fun hn => ?_, fun x hx => h.all x (List.mem_of_mem_drop hx), fun a ha i hi => ?_⟩
  · have := h.nil (by simpa using hn)
    omega
  · obtain ⟨b, rfl, rfl⟩ := Option.map_eq_some_iff.1 ha
    rw [Addr.add_add, getD_drop', ← Nat.add_mul]
    exact h.at_ b rfl (m + i) (by omega)
theorem IsH_end {w : World} {ao : Option Addr} {n cap : Nat} {hs : List (List UInt8)} (h : IsH w ao n cap hs) : IsH w ao 0 0 (hs.drop n) := by
  have h1 := h.len
  rw [List.drop_eq_nil_of_le (by omega)]
  exact ⟨rfl, Nat.le_refl _, Nat.zero_le _, fun _ => rfl, by simp, fun a ha i hi => by omega⟩
theorem elemH (w' : World) : (sizeOf (Tryz.prog.elem 77)).run Tryz.prog w' = .ok 32 w' := by kernel_rfl
theorem IsH_cut {w : World} {ao : Option Addr} {n cap : Nat} {hs : List (List UInt8)} (h : IsH w ao n cap hs) (c : Nat) (hc : c ≤ n) :
    ∃ ao2,(∀ w' : World,(Instr.slice 77 (.slice ao n cap) (some (.int .i64 c)) none none).run Tryz.prog w' = .ok (.slice ao2 (n - c) (cap - c)) w') ∧ IsH w ao2 (n - c) (cap - c) (hs.drop c) ∧ (∀ a,ao = some a → ∃ b,ao2 = some b) := by
  have hle := h.le
  have hrun : ∀ w' : World, (Instr.slice 77 (.slice ao n cap) (some (.int .i64 c)) none none).run Tryz.prog w' = .ok (sliced ao c n cap 32) w' := fun w' => by
    rw [run_slice_l w' 77 ao n cap (by kernel_rfl) .i64 (c : Int) (by omega) (by omega), elemH]
    simp [Result.andThen]
  by_cases he : cap = c
  · have hn : n = c := by omega
    refine ⟨ao, fun w' => by rw [hrun, sliced, if_pos he], ?_⟩
    subst he
    subst hn
    rw [Nat.sub_self]
    exact ⟨IsH_end h, fun a ha => ⟨a, ha⟩⟩
  · exact ⟨ao.map fun x => x.add (c * 32), fun w' => by rw [hrun, sliced, if_neg he], IsH_drop h c hc, fun a ha => ⟨_, by rw [ha]; rfl⟩⟩
theorem IsH_head {w : World} {ao : Option Addr} {n cap : Nat} {hs : List (List UInt8)} (h : IsH w ao n cap hs) (c : Nat) (hc : c ≤ n) :
    ∃ ao2, (∀ w' : World, (Instr.slice 77 (.slice ao n cap) none (some (.int .i64 c)) none).run Tryz.prog w' = .ok (.slice ao2 c cap) w') ∧ IsH w ao2 c cap (hs.take c) := by
  have hle := h.le
  have hrun : ∀ w' : World, (Instr.slice 77 (.slice ao n cap) none (some (.int .i64 c)) none).run Tryz.prog w' = .ok (sliced ao 0 c cap 32) w' := fun w' => by
    rw [run_slice_h w' 77 ao n cap (by kernel_rfl) .i64 (c : Int) (by omega) (by omega), elemH]
    simp [Result.andThen]
  by_cases he : cap = 0
  · exact ⟨ao, fun w' => by rw [hrun, sliced, if_pos he]; simp, IsH_take h c hc⟩
  · refine ⟨ao.map fun x => x.add 0, fun w' => by rw [hrun, sliced, if_neg he]; simp, ?_⟩
    have hd := IsH_drop h 0 (by omega)
    have := IsH_take hd c (by omega)
    simpa using this

def OwnH (w : World) (base : Nat) (v : Value) (k : Nat) (hs : List (List UInt8)) : Prop :=
  w.ownsRow base 53 32 v k (bcs hs.flatten) ∧ hs.length = k ∧ ∀ h ∈ hs, h.length = 32
theorem OwnH.nil (w : World) (base : Nat) : OwnH w base (.slice none 0 0) 0 [] := ⟨⟨rfl, .inl ⟨rfl, rfl⟩⟩, rfl, by simp⟩
theorem OwnH.alloc {w : World} {base : Nat} {v : Value} {k : Nat} {hs : List (List UInt8)} (h : OwnH w base v k hs) (o : Obj) : OwnH (w.alloc o) base v k hs := ⟨h.1.alloc o, h.2⟩
theorem OwnH.ge {w : World} {base : Nat} {v : Value} {k : Nat} {hs : List (List UInt8)} (h : OwnH w base v k hs) (g : Nat) (hg : v.ownBlock = some g) : base ≤ g := by
  obtain ⟨⟨_, ho⟩, _, _⟩ := h
  rcases ho with ⟨rfl, rfl⟩ | ⟨g', cap, cur, rfl, hg', _⟩
  · cases hg
  · cases hg
    exact hg'
theorem OwnH.past {w w' : World} {base : Nat} {v : Value} {k : Nat} {hs : List (List UInt8)} (h : OwnH w base v k hs) (hb : Below w.heap.size w w') : OwnH w' base v k hs := by
  obtain ⟨⟨hl, ho⟩, h2⟩ := h
  refine ⟨⟨hl, ?_⟩, h2⟩
  rcases ho with ho | ⟨g', cap, cur, rfl, hg', hc, hr⟩
  · exact .inl ho
  · exact .inr ⟨g', cap, cur, rfl, hg', by rw [hb.block _ (Array.getElem?_eq_some_iff.1 hc).1]; exact hc, hr⟩
theorem flat_get : ∀ (hs : List (List UInt8)) (i j : Nat), (∀ h ∈ hs, h.length = 32) → i < hs.length → j < 32 → hs.flatten[i * 32 + j]? = (hs.getD i [])[j]?
  | h :: hs, 0, j, ha, _, hj => by
    have := ha h (by simp)
    simp only [List.flatten_cons, Nat.zero_mul, Nat.zero_add, List.getD_cons_zero]
    rw [List.getElem?_append_left (by omega)]
  | h :: hs, i + 1, j, ha, hi, hj => by
    have h32 := ha h (by simp)
    simp only [List.flatten_cons, List.getD_cons_succ]
    rw [List.getElem?_append_right (by omega), h32, show (i + 1) * 32 + j - 32 = i * 32 + j by omega]
    exact flat_get hs i j (fun x hx => ha x (by simp [hx])) (by simpa using hi) hj
  | [], i, j, _, hi, _ => by simp at hi
theorem flat_length : ∀ (hs : List (List UInt8)), (∀ h ∈ hs, h.length = 32) → hs.flatten.length = hs.length * 32
  | [], _ => rfl
  | h :: hs, ha => by
    rw [List.flatten_cons, List.length_append, ha h (by simp), flat_length hs (fun x hx => ha x (by simp [hx])), List.length_cons]
    omega
theorem OwnH.isH {w : World} {base : Nat} {v : Value} {k : Nat} {hs : List (List UInt8)} (h : OwnH w base v k hs) : ∃ ao cap,v = .slice ao k cap ∧ IsH w ao k cap hs ∧ (∀ a,ao = some a → base ≤ a.block) := by
  obtain ⟨⟨hl, ho⟩, hk, ha⟩ := h
  rcases ho with ⟨rfl, rfl⟩ | ⟨g, cap, cur, rfl, hg, hc, hn, hm, hs', ht⟩
  · have : hs = [] := List.eq_nil_of_length_eq_zero hk
    subst this
    exact ⟨none, 0, rfl, IsH.nilH w, fun a h => by cases h⟩
  · refine ⟨_, cap, rfl, ⟨hk, hn, hm, fun h => (by cases h), ha, fun a e i hi j u hu => ?_⟩, fun a e => by cases e; exact hg⟩
    obtain rfl := Option.some.inj e
    have h32 : (hs.getD i []).length = 32 := by
      have : hs.getD i [] = hs[i]'(by omega) := by simp [List.getD, show i < hs.length by omega]
      rw [this]
      exact ha _ (List.getElem_mem _)
    have hj : j < 32 := by have := (List.getElem?_eq_some_iff.1 hu).1; omega
    rw [Addr.add_lit, Addr.add_lit, Nat.zero_add, cell_of_row w g _ cur _ (0, 0) hc]
    have h1 : (bcs hs.flatten)[i * 32 + j]? = some (bc u) := by rw [bcs_get, flat_get hs i j ha (by omega) hj, hu]; rfl
    rw [← ht, List.getElem?_take_of_lt (by omega)] at h1
    simpa using h1
theorem info_hash : (Tryz.prog.info? 53).map (fun i => (i.zero, i.size, i.bytes)) = some (some (.agg (bcs (List.replicate 32 0)).toArray), 32, 32) := by kernel_rfl
theorem wp_append_hs {w : World} {o : Oper} {a : Act} {K : Act → World → Prop} {Q : Exit → Act → World → Prop} (s x : Operand)
    (ho : o.op = .call { callee := .builtin .append, args := #[s, x], argTypes := #[77, 77] }) (base : Nat) (hbase : base ≤ w.heap.size)
    (v : Value) (k : Nat) (hs : List (List UInt8)) (hsv : a.eval s = v) (hown : OwnH w base v k hs) (ad : Addr) (m c : Nat) (ns : List (List UInt8)) (hx : a.eval x = .slice (some ad) m c)
    (hN : IsH w (some ad) m c ns) (hk : k + m ≤ 1000000)
    (h : ∀ v' w', OwnH w' base v' (k + m) (hs ++ ns) → w.grownBy w' v.ownBlock → K (a.put o.dst v') w') : o.wp Tryz.prog a w K Q := by
  obtain ⟨ho2, hp, ha⟩ := hown
  obtain ⟨i0, hi, hz0, hz1, hz2⟩ := info_parts info_hash
  have hfl := flat_length ns hN.all
  have hnl := hN.len
  refine wp_append_own w s x 77 ho base 53 i0 (.agg (bcs (List.replicate 32 0)).toArray) 32 32 Tryz.underlying77 hi hz0 hz1 hz2 (by simp [Value.cells,bcs_length]) (by decide) v k (bcs hs.flatten) hsv ho2 ad m c (bcs ns.flatten) hx (by rw [bcs_length,hfl,hnl]) ?_ (bcs_one _) (by unfold maxLen; omega) (by omega) hbase fun v' w' h1 h2 _ => h v' w' ⟨by rw [List.flatten_append,bcs_append]; exact h1,by simp [hp,hnl],fun y hy => ?_⟩ h2
  · intro j u hu
    rw [bcs_get] at hu
    obtain ⟨x', hx', rfl⟩ := Option.map_eq_some_iff.1 hu
    have hj : j < ns.flatten.length := (List.getElem?_eq_some_iff.1 hx').1
    have h2 := flat_get ns (j / 32) (j % 32) hN.all (by omega) (by omega)
    rw [show j / 32 * 32 + j % 32 = j by omega, hx'] at h2
    have := hN.at_ ad rfl (j / 32) (by omega) (j % 32) x' h2.symm
    rw [Addr.add_add, show j / 32 * 32 + j % 32 = j by omega] at this
    exact this
  · rcases List.mem_append.1 hy with h3 | h3
    · exact ha y h3
    · exact hN.all y h3
theorem wpList_append_hs {w : World} {ops : Array Oper} {rest : List Oper} {o : Oper} {a : Act} {Q : Exit → Act → World → Prop} (hgd : o.guard = none) (s x : Operand)
    (ho : o.op = .call { callee := .builtin .append, args := #[s, x], argTypes := #[77, 77] }) (base : Nat) (hbase : base ≤ w.heap.size)
    (v : Value) (k : Nat) (hs : List (List UInt8)) (hsv : a.eval s = v) (hown : OwnH w base v k hs) (ad : Addr) (m c : Nat) (ns : List (List UInt8)) (hx : a.eval x = .slice (some ad) m c)
    (hN : IsH w (some ad) m c ns) (hk : k + m ≤ 1000000)
    (h : ∀ v' w', OwnH w' base v' (k + m) (hs ++ ns) → w.grownBy w' v.ownBlock → wpList Tryz.prog ops Q rest (a.put o.dst v') w') : wpList Tryz.prog ops Q (o :: rest) a w :=
  wpList_plain hgd fun _ hK => wp_append_hs s x ho base hbase v k hs hsv hown ad m c ns hx hN hk fun v' w' h1 h2 => hK _ _ (h v' w' h1 h2)
theorem isH_blk {w : World} {g n : Nat} {t : TypeId} {hs : List (List UInt8)} (hb : w.heap[g]? = some (.cells (bcs hs.flatten).toArray t (0,0))) (hl : hs.length = n) (ha : ∀ h ∈ hs,h.length = 32) (hn : n ≤ 1000000) : IsH w (some ⟨g,0,none⟩) n n hs :=
  ⟨hl, Nat.le_refl _, by unfold maxLen; omega, (fun h => by cases h), ha, fun a e i hi j u hu => by
    obtain rfl := Option.some.inj e
    have h32 : (hs.getD i []).length = 32 := by
      have : hs.getD i [] = hs[i]'(by omega) := by simp [List.getD, show i < hs.length by omega]
      rw [this]
      exact ha _ (List.getElem_mem _)
    have hj : j < 32 := by have := (List.getElem?_eq_some_iff.1 hu).1; omega
    rw [Addr.add_lit, Addr.add_lit, Nat.zero_add, cell_of_row w g _ _ _ (0, 0) hb]
    have h1 : (bcs hs.flatten)[i * 32 + j]? = some (bc u) := by rw [bcs_get, flat_get hs i j ha (by omega) hj, hu]; rfl
    simpa using h1⟩
theorem cells_hs : ∀ hs : List (List UInt8), ((hs.map fun h => Value.agg (bcs h).toArray).flatMap fun v => v.cells.toList) = bcs hs.flatten
  | [] => rfl
  | h :: hs => by
    simp only [List.map_cons, List.flatMap_cons, List.flatten_cons, bcs_append, cells_hs hs]
    simp [Value.cells]
theorem wp_buildSlice_hs {o : Oper} {a : Act} {w : World} {K : Act → World → Prop} {Q : Exit → Act → World → Prop} (len : Nat) (parts : Array (Nat × Operand)) (ho : o.op = .buildSlice 77 len parts)
    (hs : List (List UInt8)) (hl : hs.length = len) (ha : ∀ h ∈ hs, h.length = 32) (hpos : 0 < len) (hsmall : len ≤ 1000)
    (hp : (parts.map fun (i, x) => (i, a.eval x)).toList = ((hs.map fun h => Value.agg (bcs h).toArray).zipIdx 0).map fun x => (x.2, x.1))
    (hK : ∀ w',w'.heap[w.heap.size]? = some (.cells (bcs hs.flatten).toArray 53 (0,0)) → IsH w' (some ⟨w.heap.size,0,none⟩) len len hs → Below w.heap.size w w' → K (a.put o.dst (.slice (some ⟨w.heap.size,0,none⟩) len len)) w') : o.wp Tryz.prog a w K Q := by
  obtain ⟨i0, hi, hz0, hz1, hz2⟩ := info_parts info_hash
  refine wp_buildSlice 77 53 len parts ho (bcs hs.flatten).toArray i0 _ Tryz.underlying77 hi hz0 (by rw [hz1]; omega) (by rw [hz1]; omega) ?_ (hK _ (heap_alloc_new w _) ?_ ((Below.refl _ _).alloc (Nat.le_refl _) _))
  · rw [hp, hz1, Great.fill_whole (by omega) _ _ (fun v hv => by obtain ⟨h, hh, rfl⟩ := List.mem_map.1 hv; simp [Value.cells, bcs_length, ha h hh]) (by simp [hl]), cells_hs]
  · exact isH_blk (heap_alloc_new w _) hl ha (by omega)
theorem wpList_buildSlice_hs {w : World} {ops : Array Oper} {rest : List Oper} {o : Oper} {a : Act} {Q : Exit → Act → World → Prop} (hgd : o.guard = none) (len : Nat) (parts : Array (Nat × Operand)) (ho : o.op = .buildSlice 77 len parts)
    (hs : List (List UInt8)) (hl : hs.length = len) (ha : ∀ h ∈ hs, h.length = 32) (hpos : 0 < len) (hsmall : len ≤ 1000)
    (hp : (parts.map fun (i, x) => (i, a.eval x)).toList = ((hs.map fun h => Value.agg (bcs h).toArray).zipIdx 0).map fun x => (x.2, x.1))
    (hK : ∀ w',w'.heap[w.heap.size]? = some (.cells (bcs hs.flatten).toArray 53 (0,0)) → IsH w' (some ⟨w.heap.size,0,none⟩) len len hs → Below w.heap.size w w' → wpList Tryz.prog ops Q rest (a.put o.dst (.slice (some ⟨w.heap.size,0,none⟩) len len)) w') : wpList Tryz.prog ops Q (o :: rest) a w :=
  wpList_plain hgd fun _ hK' => wp_buildSlice_hs len parts ho hs hl ha hpos hsmall hp fun w' h1 h2 h3 => hK' _ _ (hK w' h1 h2 h3)
theorem OwnH.step {w0 w w' : World} {B base : Nat} {v : Value} {k : Nat} {hs : List (List UInt8)} (h : OwnH w base v k hs) (hb : Below B w0 w) (hB : B ≤ w.heap.size) (hbase : B ≤ base) (g : w.grownBy w' v.ownBlock) : Below B w0 w' :=
  hb.grown g hB (fun k hk => Nat.le_trans hbase (h.ge k hk))
theorem hash_size (l : List UInt8) (hl : l.length = 32) : (Tryz.prog.info? 53).map (·.size) = some l.length := by rw [hl]; exact sizeHash
end Go.Proofs.YtdmnjjknkcnkgaaGreatDoor
namespace Go.Proofs.YtdmnjjknkcnkgaaGreatDoor.Mk
section
variable {H : Type}

def part (n : Nat) : Nat := 2 ^ (n - 1).log2
theorem part_pos (n : Nat) : 1 ≤ part n := Nat.one_le_two_pow
theorem part_lt {n : Nat} (h : 2 ≤ n) : part n < n := by
  have := Nat.log2_self_le (n := n - 1) (by omega)
  unfold part
  omega
theorem part_le {n : Nat} : n ≤ 2 * part n := by
  have := Nat.lt_log2_self (n := n - 1)
  unfold part
  rw [Nat.pow_succ] at this
  omega
theorem part_eq {n j : Nat} (h1 : 2 ^ j < n) (h2 : n ≤ 2 * 2 ^ j) : part n = 2 ^ j := by
  unfold part
  have : (n - 1).log2 = j := (Nat.log2_eq_iff (by omega)).2 ⟨by omega, by rw [Nat.pow_succ]; omega⟩
  rw [this]
theorem part_two : part 2 = 1 := part_eq (j := 0) (by omega) (by omega)
theorem part_even {n : Nat} (h : 3 ≤ n) : part n % 2 = 0 ∧ 2 ≤ part n := by
  have h2 : n ≤ 2 * part n := part_le
  unfold part at *
  cases hj : (n - 1).log2 with
  | zero => rw [hj] at h2; omega
  | succ j => rw [Nat.pow_succ]; have := Nat.one_le_two_pow (n := j); omega
theorem part_half {n : Nat} (h : 3 ≤ n) : part ((n + 1) / 2) = part n / 2 := by
  have h2 : n ≤ 2 * part n := part_le
  have h1 := part_lt (n := n) (by omega)
  have h3 := (part_even h).2
  unfold part at h1 h2 h3 ⊢
  cases hj : (n - 1).log2 with
  | zero => rw [hj] at h3; omega
  | succ j =>
    rw [hj] at h1 h2 h3
    rw [Nat.pow_succ] at *
    have e : 2 ^ j * 2 / 2 = 2 ^ j := by omega
    rw [e]
    exact part_eq (by omega) (by omega)

variable (two : H → H → H) (e : H)
def root (l : List H) : H :=
  if _h : l.length < 2 then l.headD e else two (root (l.take (part l.length))) (root (l.drop (part l.length)))
termination_by l.length
decreasing_by
  · have := part_lt (n := l.length) (by omega); simp; omega
  · have := part_pos l.length; simp; omega
def proof (l : List H) (i : Nat) : List H :=
  if _h : l.length < 2 then [] else if i < part l.length then proof (l.take (part l.length)) i ++ [root two e (l.drop (part l.length))] else proof (l.drop (part l.length)) (i - part l.length) ++ [root two e (l.take (part l.length))]
termination_by l.length
decreasing_by
  · have := part_lt (n := l.length) (by omega); simp; omega
  · have := part_pos l.length; simp; omega
def above : List H → List H
  | a :: b :: t => two a b :: above t
  | l => l
def sib (i : Nat) : Nat := if i % 2 = 0 then i + 1 else i - 1

theorem above_length : ∀ l : List H, (above two l).length = (l.length + 1) / 2
  | [] => by simp [above]
  | [_] => by simp [above]
  | _ :: _ :: t => by simp only [above, List.length_cons, above_length t]; omega
theorem above_append : ∀ (l m : List H), l.length % 2 = 0 → above two (l ++ m) = above two l ++ above two m
  | [], _, _ => rfl
  | [_], _, h => by simp at h
  | a :: b :: t, m, h => by
    simp only [List.length_cons] at h
    simp only [List.cons_append, above, above_append t m (by omega)]
theorem root_one (l : List H) (h : l.length < 2) : root two e l = l.headD e := by rw [root, dif_pos h]
theorem root_more (l : List H) (h : 2 ≤ l.length) : root two e l = two (root two e (l.take (part l.length))) (root two e (l.drop (part l.length))) := by
  rw [root, dif_neg (by omega)]
theorem proof_one (l : List H) (i : Nat) (h : l.length < 2) : proof two e l i = [] := by rw [proof, dif_pos h]
theorem proof_left (l : List H) (i : Nat) (h : 2 ≤ l.length) (hi : i < part l.length) : proof two e l i = proof two e (l.take (part l.length)) i ++ [root two e (l.drop (part l.length))] := by
  rw [proof, dif_neg (by omega), if_pos hi]
theorem proof_right (l : List H) (i : Nat) (h : 2 ≤ l.length) (hi : part l.length ≤ i) : proof two e l i = proof two e (l.drop (part l.length)) (i - part l.length) ++ [root two e (l.take (part l.length))] := by
  rw [proof, dif_neg (by omega), if_neg (by omega)]

theorem above_cut (l : List H) (h : 3 ≤ l.length) : (above two l).take (part l.length / 2) = above two (l.take (part l.length)) ∧ (above two l).drop (part l.length / 2) = above two (l.drop (part l.length)) := by
  have h1 := part_lt (n := l.length) (by omega)
  obtain ⟨h2, h3⟩ := part_even h
  have e1 : above two l = above two (l.take (part l.length)) ++ above two (l.drop (part l.length)) := by
    rw [← above_append two _ _ (by rw [List.length_take]; omega), List.take_append_drop]
  have e2 : (above two (l.take (part l.length))).length = part l.length / 2 := by rw [above_length, List.length_take]; omega
  rw [e1]
  exact ⟨by rw [← e2]; exact List.take_left, by rw [← e2]; exact List.drop_left⟩
theorem above_short (l : List H) (h : l.length < 2) : above two l = l := by
  match l, h with
  | [], _ => rfl
  | [_], _ => rfl
theorem root_above_n : ∀ n, ∀ l : List H, l.length = n → root two e (above two l) = root two e l := by
  intro n
  induction n using Nat.strongRecOn with
  | ind n ih =>
    intro l hl
    by_cases h2 : n < 2
    · rw [above_short two l (by omega)]
    · by_cases h3 : n = 2
      · match l, hl, h3 with
        | [a, b], _, _ =>
          rw [root_more _ _ [a, b] (by simp), root_one]
          · simp [above, part_two, root_one]
          · simp [above]
      · obtain ⟨c1, c2⟩ := above_cut two l (by omega)
        have hp := part_lt (n := l.length) (by omega)
        have hq := part_pos l.length
        have hh : (above two l).length = (l.length + 1) / 2 := above_length two l
        rw [root_more _ _ (above two l) (by omega),hh,part_half (by omega),c1,c2,ih (part l.length) (by omega) _ (by rw [List.length_take]; omega),ih (l.length - part l.length) (by omega) _ (by simp), ← root_more two e l (by omega)]
theorem root_above (l : List H) : root two e (above two l) = root two e l := root_above_n two e _ l rfl

theorem sib_lt {i k : Nat} (h : i < k) (hk : k % 2 = 0) : sib i < k := by unfold sib; split <;> omega
theorem sib_ge {i k : Nat} (h : k ≤ i) (hk : k % 2 = 0) : sib i = k + sib (i - k) := by unfold sib; split <;> split <;> omega

theorem getD_take (l : List H) (k j : Nat) (h : j < k) : (l.take k).getD j e = l.getD j e := by simp [List.getD, h]
theorem getD_drop (l : List H) (k j : Nat) : (l.drop k).getD j e = l.getD (k + j) e := by simp [List.getD]
theorem proof_above_n : ∀ n, ∀ (l : List H) (i : Nat), l.length = n → 2 ≤ n → i < n → proof two e l i = (if sib i < n then [l.getD (sib i) e] else []) ++ proof two e (above two l) (i / 2) := by
  intro n
  induction n using Nat.strongRecOn with
  | ind n ih =>
    intro l i hl h2 hi
    subst hl
    by_cases h3 : l.length = 2
    · match l, h3, hi with
      | [a, b], _, hi =>
        have : proof two e (above two [a, b]) (i / 2) = [] := proof_one _ _ _ _ (by simp [above])
        rw [this]
        have hi' : i = 0 ∨ i = 1 := by simp at hi; omega
        rcases hi' with rfl | rfl
        · rw [proof_left _ _ _ _ (by simp) (by simp [part_two])]
          simp [part_two, proof_one, root_one, sib]
        · rw [proof_right _ _ _ _ (by simp) (by simp [part_two])]
          simp [part_two, proof_one, root_one, sib]
    · obtain ⟨c1, c2⟩ := above_cut two l (by omega)
      obtain ⟨he, hk2⟩ := part_even (n := l.length) (by omega)
      have hp := part_lt (n := l.length) (by omega)
      have hh : (above two l).length = (l.length + 1) / 2 := above_length two l
      have hpp : part (above two l).length = part l.length / 2 := by rw [hh, part_half (by omega)]
      by_cases hk : i < part l.length
      · rw [proof_left _ _ l i (by omega) hk, proof_left _ _ (above two l) (i / 2) (by omega) (by rw [hpp]; omega), hpp, c1, c2, root_above,
          ih (part l.length) (by omega) (l.take (part l.length)) i (by rw [List.length_take]; omega) hk2 hk]
        have hs := sib_lt hk he
        rw [if_pos hs, if_pos (by omega), getD_take _ _ _ _ hs, List.append_assoc]
      · rw [proof_right _ _ l i (by omega) (by omega), proof_right _ _ (above two l) (i / 2) (by omega) (by rw [hpp]; omega), hpp, c1, c2, root_above, ← List.append_assoc]
        congr 1
        have hs := sib_ge (show part l.length ≤ i by omega) he
        have hdl : (l.drop (part l.length)).length = l.length - part l.length := List.length_drop
        have hdiv : i / 2 - part l.length / 2 = (i - part l.length) / 2 := by omega
        rw [hdiv]
        by_cases h1 : l.length - part l.length = 1
        · have hi0 : i - part l.length = 0 := by omega
          rw [proof_one _ _ _ _ (by omega), proof_one _ _ (above two (l.drop _)) _ (by rw [above_length]; omega), hs, hi0, if_neg (by simp [sib]; omega)]
          rfl
        · rw [ih (l.length - part l.length) (by omega) _ _ hdl (by omega) (by omega), getD_drop, ← hs]
          congr 1
          by_cases hc : sib i < l.length
          · rw [if_pos hc, if_pos (by omega)]
          · rw [if_neg hc, if_neg (by omega)]
theorem proof_above (l : List H) (i : Nat) (h2 : 2 ≤ l.length) (hi : i < l.length) : proof two e l i = (if sib i < l.length then [l.getD (sib i) e] else []) ++ proof two e (above two l) (i / 2) :=
  proof_above_n two e _ l i rfl h2 hi
end
end Go.Proofs.YtdmnjjknkcnkgaaGreatDoor.Mk
namespace Go.Proofs.YtdmnjjknkcnkgaaGreatDoor
open List (setIfInBounds_toArray set_cons_zero set_cons_succ)
open Go.RowKit
set_option linter.unusedSimpArgs false

def two (a b : List UInt8) : List UInt8 := sha (1 :: (a ++ b))
def leafS (b : List UInt8) : List UInt8 := sha (0 :: b)
theorem two_length (a b : List UInt8) : (two a b).length = 32 := sha_length _
theorem leafS_length (b : List UInt8) : (leafS b).length = 32 := sha_length _

theorem OwnP.lit {w0 w : World} {base g : Nat} {bo : Option Addr} {bn bc' : Nat} {l : List UInt8} (hg : base ≤ g) (hb : w.heap[g]? = some (.cells #[.slice bo bn bc'] 81 (0,0))) (hl : IsB w0 bo bn bc' l) : OwnP w0 w base (.slice (some ⟨g,0,none⟩) 1 1) 1 [l] :=
  ⟨[.slice bo bn bc'], ⟨rfl, .inr ⟨g, 1, _, rfl, hg, hb, Nat.le_refl _, by unfold maxLen; omega, rfl, rfl⟩⟩, rfl, fun j hj => by
    obtain rfl : j = 0 := by omega
    exact ⟨bo, bn, bc', rfl, hl⟩⟩
theorem wpList_append_pieces {w0 w : World} {ops : Array Oper} {rest : List Oper} {o : Oper} {a : Act} {Q : Exit → Act → World → Prop} (hgd : o.guard = none) (s x : Operand)
    (ho : o.op = .call { callee := .builtin .append, args := #[s, x], argTypes := #[159, 159] }) (base : Nat) (hbase : base ≤ w.heap.size)
    (v : Value) (k : Nat) (ps : List (List UInt8)) (hs : a.eval s = v) (hown : OwnP w0 w base v k ps) (ad : Addr) (m c : Nat) (ns : List (List UInt8)) (hx : a.eval x = .slice (some ad) m c)
    (hN : IsP w0 (some ad) m ns) (hcell : ∀ j v, w0.cell? (ad.add j) = some v → w.cell? (ad.add j) = some v) (hk : k + m ≤ 1000000)
    (h : ∀ v' w', OwnP w0 w' base v' (k + m) (ps ++ ns) → w.grownBy w' v.ownBlock → wpList Tryz.prog ops Q rest (a.put o.dst v') w') : wpList Tryz.prog ops Q (o :: rest) a w := by
  obtain ⟨xs, ho2, hp, hxs⟩ := hown
  obtain ⟨i0, hi, hz0, hz1, hz2⟩ := info_parts info_row
  have each : ∀ j, j < m → ∃ y : Value × Option Addr × Nat × Nat, w0.cell? (ad.add j) = some y.1 ∧ y.1 = .slice y.2.1 y.2.2.1 y.2.2.2 ∧ IsB w0 y.2.1 y.2.2.1 y.2.2.2 (ns.getD j []) := fun j hj => by
    obtain ⟨bo, bn, bc', h1, h2⟩ := hN.cell ad rfl j hj
    exact ⟨(_, bo, bn, bc'), h1, rfl, h2⟩
  obtain ⟨f, hf⟩ := Deep.choose_lt each
  have hnl := hN.len
  refine wpList_append_own w hgd s x 159 ho base 81 i0 (.slice none 0 0) 1 24 Tryz.underlying159 hi hz0 hz1 hz2 rfl (by decide) v k xs hs ho2 ad m c ((List.range m).map fun j => (f j).1) hx (by simp) ?_ ?_ (by unfold maxLen; omega) (by omega) hbase fun v' w' h1 h2 _ => h v' w' ⟨_,h1,by simp [hp,hnl],fun j hj => ?_⟩ h2
  · intro j u hu
    have hj : j < m := by have := (List.getElem?_eq_some_iff.1 hu).1; simpa using this
    simp [hj] at hu
    rw [← hu]
    exact hcell j _ (hf j hj).1
  · intro u hu
    obtain ⟨j, hj, rfl⟩ := List.mem_map.1 hu
    obtain ⟨_, h2, _⟩ := hf j (List.mem_range.1 hj)
    rw [h2]
    rfl
  · have hxl : xs.length = k := by have := ho2.1; omega
    by_cases hjk : j < k
    · obtain ⟨b1, b2, b3, h3, h4⟩ := hxs j hjk
      refine ⟨b1, b2, b3, ?_, ?_⟩
      · rw [List.getElem?_append_left (by omega)]
        exact h3
      · have e : (ps ++ ns).getD j [] = ps.getD j [] := by simp only [List.getD]; rw [List.getElem?_append_left (by omega)]
        rw [e]
        exact h4
    · obtain ⟨h5, h6, h7⟩ := hf (j - k) (by omega)
      refine ⟨(f (j - k)).2.1, (f (j - k)).2.2.1, (f (j - k)).2.2.2, ?_, ?_⟩
      · rw [List.getElem?_append_right (by omega), hxl]
        simp only [List.getElem?_map, List.getElem?_range (show j - k < m by omega), Option.map_some]
        rw [h6]
      · have e : (ps ++ ns).getD j [] = ns.getD (j - k) [] := by simp only [List.getD]; rw [List.getElem?_append_right (by omega), hp]
        rw [e]
        exact h7

def wMark (w1 : World) (x : UInt8) : World := (w1.alloc (.cells #[.int .u8 (ub x)] 5)).alloc (.cells #[.slice (some ⟨w1.heap.size, 0, none⟩) 1 1] 81)
def wMk (w1 : World) (x : UInt8) : World := w1.alloc (.cells #[.int .u8 (ub x)] 5)
theorem mark_own (w1 : World) (x : UInt8) (base : Nat) (hb : base ≤ w1.heap.size) : OwnP (wMk w1 x) (wMark w1 x) base (.slice (some ⟨w1.heap.size + 1, 0, none⟩) 1 1) 1 [[x]] := by
  have h1 := heap_alloc_new (w1.alloc (.cells #[.int .u8 (ub x)] 5)) (.cells #[.slice (some ⟨w1.heap.size, 0, none⟩) 1 1] 81)
  rw [World.size_alloc] at h1
  exact OwnP.lit (by omega) h1 (isB_one w1 (.int .u8 (ub x)) x 5 rfl)
theorem mk_below (w1 : World) (x : UInt8) : Below w1.heap.size w1 (wMk w1 x) := (Below.refl _ _).alloc (Nat.le_refl _) _
theorem mk_mark (w1 : World) (x : UInt8) : Below (wMk w1 x).heap.size (wMk w1 x) (wMark w1 x) := (Below.refl _ _).alloc (Nat.le_refl _) _
theorem mk_size (w1 : World) (x : UInt8) : (wMk w1 x).heap.size = w1.heap.size + 1 := by simp [wMk]
theorem mark_below (w1 : World) (x : UInt8) : Below w1.heap.size w1 (wMark w1 x) := ((Below.refl _ _).alloc (Nat.le_refl _) _).alloc (by simp) _
theorem mark_size (w1 : World) (x : UInt8) : w1.heap.size ≤ (wMark w1 x).heap.size := (mark_below w1 x).size
set_option maxRecDepth 100000 in
set_option maxHeartbeats 1000000 in
theorem marked_any (x : UInt8) (ad : Addr) (n c : Nat) (ps : List (List UInt8)) (w : World) (hC : RC w) (h : IsP w (some ad) n ps) (hn : n ≤ 10) (hm : ps.flatten.length ≤ 900000) :
    Calls Tryz.prog 121 #[.int .u8 (ub x), .slice (some ad) n c] w fun e w' => e = .returned (.agg (bcs (sha (x :: ps.flatten))).toArray) ∧ Below w.heap.size w w' := by
  go_enter Tryz.func121, Tryz.ntmps121
  go_wp2_with (first
    | (with_reducible refine wpList_alloc_blk (o := ⟨some 4,_,_,_,_,_⟩) rfl 53 rfl _ zeroHash ?_; intro w1 gr h1 b1 q1; have ow := mark_own w1 x w.heap.size b1.size; have k0 : Below w.heap.size w (wMk w1 x) := b1.trans ((mk_below w1 x).mono b1.size); have hP := h.past k0; have km := mark_size w1 x)
    | (at_builtin; refine wpList_append_pieces (w0 := wMk w1 x) (w := wMark w1 x) rfl (.tmp 7) (.tmp 8) rfl w.heap.size (Nat.le_trans b1.size km) _ 1 [[x]] rfl ow ad n c ps rfl hP (fun j v hv => by rw [(mk_mark w1 x).cell (World.block_lt_of_cell? _ _ hv)]; exact hv) (by omega) ?_; intro v2 w3 hO3 g3))
  have g3' : (wMark w1 x).grownBy w3 (some (w1.heap.size + 1)) := g3
  have bA : Below (wMk w1 x).heap.size (wMk w1 x) w3 := (mk_mark w1 x).grown g3' (mk_mark w1 x).size (fun k hk => by cases hk; rw [mk_size]; omega)
  have B3 : Below w.heap.size w w3 := k0.trans (bA.mono (by rw [mk_size]; have := b1.size; omega))
  have R3 : Hid (w3.heap[gr]? = some (.cells (bcs (List.replicate 32 0)).toArray 53 (0, 0))) := by
    have hl : gr < w1.heap.size := (Array.getElem?_eq_some_iff.1 h1.out).1
    unfold Hid
    rw [bA.block gr (by rw [mk_size]; omega), (mk_below w1 x).block gr hl]
    exact h1.out
  obtain ⟨ao, cap, rfl, hP3⟩ := hO3.isP bA
  have hR3 : RC w3 := hC.past B3
  have hfl : ([[x]] ++ ps).flatten = x :: ps.flatten := by simp
  have HFL := Lib.hid hfl
  clear g3 g3' bA hO3 ow k0 hP km h1 b1 hfl
  refine (sum_any ao (1 + n) cap _ _ hR3 hP3 (by omega) (by rw [HFL.out, List.length_cons]; omega)).mono ?_
  rintro e w4 ⟨rfl, b4⟩
  rw [HFL.out]
  have R4 : Hid (w4.heap[gr]? = some (.cells (bcs (List.replicate 32 0)).toArray 53 (0, 0))) := (b4.block gr (Array.getElem?_eq_some_iff.1 R3.out).1).trans R3.out
  have B4 := B3.trans (b4.mono B3.size)
  clear R3 B3 hR3 hP3 b4
  go_wp2_with ((with_reducible refine wpList_store_blk rfl 53 _ _ rfl gr _ (bcs (sha (x :: ps.flatten))).toArray ?_ ?_ _ R4 32 sizeHash (by simp [bcs_length]) (by simp [bcs_length,sha_length]) (bcs_all _) ?_); (rfl); (rfl); (intro w8 h8 b8))
  refine bodyPost_ret (v := .agg (bcs (sha (x :: ps.flatten))).toArray) (results_cell_row rfl _ _ gr _ _ (0,0) _ rfl h8.out Tryz.underlying53 rfl (by rw [sizeHash]; simp [bcs_length,sha_length])) rfl ⟨rfl,?_⟩
  exact B4.grown b8 B4.size (fun k hk => by cases hk; omega)

set_option maxRecDepth 100000 in
set_option maxHeartbeats 1000000 in
theorem leaf_any (a0 : Option Addr) (n0 c0 : Nat) (l : List UInt8) (w : World) (hC : RC w) (h : IsB w a0 n0 c0 l) (hn : n0 ≤ 900000) :
    Calls Tryz.prog 92 #[.slice a0 n0 c0] w fun e w' => e = .returned (.agg (bcs (leafS l)).toArray) ∧ Below w.heap.size w w' := by
  have hl := h.len
  have HL := Lib.hid hl
  clear hl
  go_enter Tryz.func92, Tryz.ntmps92
  go_wp2_with (first
    | (with_reducible refine wpList_alloc_blk (o := ⟨some 2, _, _, _, _, _⟩) rfl 53 rfl _ zeroHash ?_; intro w1 gr h1 b1 q1))
  have hR1 : RC w1 := hC.past b1
  have hm := marked_any 0 ⟨w1.heap.size,0,none⟩ 1 1 [l] _ (hR1.alloc (.cells #[.slice a0 n0 c0] 81)) (isP_one w1 81 _ _ _ l (h.past b1)) (by omega) (by rw [one_flat,HL.out]; exact hn)
  rw [one_flat] at hm
  refine hm.mono ?_
  rintro e w4 ⟨rfl, b4⟩
  have hl1 : gr < w1.heap.size := (Array.getElem?_eq_some_iff.1 h1.out).1
  have R4 : Hid (w4.heap[gr]? = some (.cells (bcs (List.replicate 32 0)).toArray 53 (0, 0))) := by
    unfold Hid
    rw [b4.block gr (by simp; omega), Below.heap_alloc _ _ _ hl1]
    exact h1.out
  have B4 : Below w.heap.size w w4 := (b1.alloc b1.size _).trans (b4.mono (by have := b1.size; simp; omega))
  clear hm hR1 h1 b1 b4
  go_wp2_with ((with_reducible refine wpList_store_blk rfl 53 _ _ rfl gr _ (bcs (leafS l)).toArray ?_ ?_ _ R4 32 sizeHash (by simp [bcs_length]) (by simp [bcs_length,leafS_length]) (bcs_all _) ?_); (rfl); (rfl); (intro w8 h8 b8))
  refine bodyPost_ret (v := .agg (bcs (leafS l)).toArray) (results_cell_row rfl _ _ gr _ _ (0,0) _ rfl h8.out Tryz.underlying53 rfl (by rw [sizeHash]; simp [bcs_length,leafS_length])) rfl ⟨rfl,?_⟩
  exact B4.grown b8 B4.size (fun k hk => by cases hk; omega)

theorem slice_all (g : Nat) (w : World) : (Instr.sliceAt 53 (.pointer (some ⟨g, 0, none⟩)) none none none).run Tryz.prog w = .ok (.slice (some ⟨g, 0, none⟩) 32 32) w := by kernel_rfl
theorem two_flat (a b : List UInt8) : [a, b].flatten = a ++ b := by simp
set_option maxRecDepth 100000 in
set_option maxHeartbeats 1000000 in
theorem pair_any (a b : List UInt8) (w : World) (hC : RC w) (ha : a.length = 32) (hb : b.length = 32) :
    Calls Tryz.prog 123 #[.agg (bcs a).toArray, .agg (bcs b).toArray] w fun e w' => e = .returned (.agg (bcs (two a b)).toArray) ∧ Below w.heap.size w w' := by
  have sa : Hid ((bcs a).toArray.size = 32) := by simp [Hid, bcs_length, ha]
  have sb : Hid ((bcs b).toArray.size = 32) := by simp [Hid, bcs_length, hb]
  have HA := Lib.hid ha
  have HB := Lib.hid hb
  clear ha hb
  have hsl := slice_all
  have b0 : Below w.heap.size w ((w.alloc (.cells (bcs a).toArray 53)).alloc (.cells (bcs b).toArray 53)) := ((Below.refl _ _).alloc (Nat.le_refl _) _).alloc (by simp) _
  have Ia : IsB ((w.alloc (.cells (bcs a).toArray 53)).alloc (.cells (bcs b).toArray 53)) (some ⟨w.heap.size,0,none⟩) 32 32 a := (isB_lit w _ 53 a 32 rfl HA.out (by omega)).alloc _
  have Ib : IsB ((w.alloc (.cells (bcs a).toArray 53)).alloc (.cells (bcs b).toArray 53)) (some ⟨w.heap.size + 1, 0, none⟩) 32 32 b := by
    have := isB_lit (w.alloc (.cells (bcs a).toArray 53)) _ 53 b 32 rfl HB.out (by omega)
    rw [World.size_alloc] at this
    exact this
  go_enter Tryz.func123, Tryz.ntmps123
  go_wp2_with (first | (with_reducible refine wpList_alloc_blk (o := ⟨some 4, _, _, _, _, _⟩) rfl 53 rfl _ zeroHash ?_; intro w1 gr h1 b1 q1))
  refine region_tail 2 (by kernel_rfl) (by kernel_rfl) ?_
  intro wx hx bx
  have bx1 := b1.trans (bx.mono b1.size)
  have hRx : Hid (wx.heap[gr]? = some (.cells (bcs (List.replicate 32 0)).toArray 53 (0, 0))) := (heap_hid hx gr).trans h1.out
  have Iax := Ia.past bx1
  have Ibx := Ib.past bx1
  have Bx : Below w.heap.size w wx := b0.trans (bx1.mono b0.size)
  have hgr : w.heap.size ≤ gr := Nat.le_trans b0.size q1
  clear Ia Ib b0 b1 bx bx1 h1 q1 hx
  simp only [List.take_succ_cons, List.take_zero, List.drop_succ_cons, List.drop_zero]
  iterate 2 still_step
  refine wpStill_nil ?_
  go_wp2_with fail
  have hm := marked_any 1 ⟨wx.heap.size,0,none⟩ 2 2 [a,b] _ ((hC.past Bx).alloc (.cells #[.slice (some ⟨w.heap.size,0,none⟩) 32 32,.slice (some ⟨w.heap.size + 1,0,none⟩) 32 32] 81)) (isP_two wx 81 _ _ _ a Iax _ _ _ b Ibx) (by omega) (by rw [two_flat,List.length_append,HA.out,HB.out]; omega)
  rw [two_flat] at hm
  refine hm.mono ?_
  rintro e w4 ⟨rfl, b4⟩
  have hl1 : gr < wx.heap.size := (Array.getElem?_eq_some_iff.1 hRx.out).1
  have R4 : Hid (w4.heap[gr]? = some (.cells (bcs (List.replicate 32 0)).toArray 53 (0, 0))) := by
    unfold Hid
    rw [b4.block gr (by simp; omega), Below.heap_alloc _ _ _ hl1]
    exact hRx.out
  have B4 : Below w.heap.size w w4 := (Bx.alloc Bx.size _).trans (b4.mono (by have := Bx.size; simp; omega))
  clear hm Bx b4 hRx Iax Ibx hsl
  go_wp2_with ((with_reducible refine wpList_store_blk rfl 53 _ _ rfl gr _ (bcs (two a b)).toArray ?_ ?_ _ R4 32 sizeHash (by simp [bcs_length]) (by simp [bcs_length,two_length]) (bcs_all _) ?_); (rfl); (rfl); (intro w8 h8 b8))
  refine bodyPost_ret (v := .agg (bcs (two a b)).toArray) (results_cell_row rfl _ _ gr _ _ (0,0) _ rfl h8.out Tryz.underlying53 rfl (by rw [sizeHash]; simp [bcs_length,two_length])) rfl ⟨rfl,?_⟩
  exact B4.grown b8 B4.size (fun k hk => by cases hk; omega)


def HsOut (w : World) (n : Nat) (hs : List (List UInt8)) (e : Ending) (w' : World) : Prop := ∃ v, e = .returned v ∧ OwnH w' w.heap.size v n hs ∧ Below w.heap.size w w'
theorem wpList_make_hs {w : World} {ops : Array Oper} {rest : List Oper} {o : Oper} {a : Act} {Q : Exit → Act → World → Prop} (hgd : o.guard = none) (l c : Operand)
    (ho : o.op = Op.makeSlice 77 l c) (kl kc : IntKind) (C : Int) (N : Nat) (hl : a.eval l = .int kl 0) (hc : a.eval c = .int kc C) (hC : C = (N : Int)) (hN : N ≤ 100000)
    (hK : ∀ v w', OwnH w' w.heap.size v 0 [] → Below w.heap.size w w' → wpList Tryz.prog ops Q rest (a.put o.dst v) w') :
    wpList Tryz.prog ops Q (o :: rest) a w := by
  obtain ⟨i, hi, hz, hsize, hby⟩ := info_parts info_hash
  refine wpList_make_own w hgd l c 77 ho w.heap.size 53 i (.agg (bcs (List.replicate 32 0)).toArray) 32 Tryz.underlying77 hi hz hsize kl kc C N hl hc hC (by rw [hby]; omega) (by unfold maxLen; omega) (Nat.le_refl _) fun w' hown hgr => ?_
  exact hK _ w' ⟨hown, rfl, by simp⟩ ((Below.refl _ w).grown hgr (Nat.le_refl _) (fun k h => by cases h))
theorem above_snoc (hs : List (List UInt8)) (k : Nat) (hk : 2 * k + 1 < hs.length) : Mk.above two (hs.take (2 * (k + 1))) = Mk.above two (hs.take (2 * k)) ++ [two (hs.getD (2 * k) []) (hs.getD (2 * k + 1) [])] := by
  have e : hs.take (2 * (k + 1)) = hs.take (2 * k) ++ [hs.getD (2 * k) [], hs.getD (2 * k + 1) []] := by
    rw [show 2 * (k + 1) = 2 * k + 1 + 1 by omega, List.take_succ_eq_append_getElem (by omega), List.take_succ_eq_append_getElem (by omega)]
    have e1 : hs.getD (2 * k) [] = hs[2 * k] := by simp [List.getD, show 2 * k < hs.length by omega]
    have e2 : hs.getD (2 * k + 1) [] = hs[2 * k + 1] := by simp [List.getD, show 2 * k + 1 < hs.length by omega]
    rw [e1, e2, List.append_assoc]
    rfl
  rw [e, Mk.above_append two _ _ (by rw [List.length_take]; omega)]
  rfl
theorem above_end (hs : List (List UInt8)) : Mk.above two hs = Mk.above two (hs.take (2 * (hs.length / 2))) ++ hs.drop (2 * (hs.length / 2)) := by
  conv => lhs; rw [← List.take_append_drop (2 * (hs.length / 2)) hs]
  rw [Mk.above_append two _ _ (by rw [List.length_take]; omega), Mk.above_short two (hs.drop _) (by rw [List.length_drop]; omega)]

set_option maxRecDepth 100000 in
set_option maxHeartbeats 2000000 in
theorem above_any (a0 : Addr) (n0 c0 : Nat) (hs : List (List UInt8)) (w : World) (hC : RC w) (h : IsH w (some a0) n0 c0 hs) (hn : n0 ≤ 1000) :
    Calls Tryz.prog 100 #[.slice (some a0) n0 c0] w (HsOut w ((n0 + 1) / 2) (Mk.above two hs)) := by
  have hl := h.len
  have HL := Lib.hid hl
  clear hl
  obtain ⟨p, hp⟩ : ∃ p, p = n0 / 2 := ⟨_, rfl⟩
  have ep : (n0 : Int) / 2 = p := by omega
  have hpn : 2 * p ≤ n0 := by omega
  have en : (n0 : Int) - (p : Int) = ((n0 - p : Nat) : Int) := by omega
  have EN := Lib.hid en
  have HP := Lib.hid hp
  clear en hp
  go_enter Tryz.func100, Tryz.ntmps100
  go_wp2_with (at_make; refine wpList_make_hs rfl _ _ rfl .i64 .i64 _ (n0 - p) rfl rfl EN.out (by omega) ?_; intro v1 w1 hO1 B1)
  clear ep
  go_loopw [4, 15] (fun v i wq => ∃ k : Nat, k ≤ p ∧ i = .int .i64 k ∧ OwnH wq w.heap.size v k (Mk.above two (hs.take (2 * k))) ∧ Below w.heap.size w wq) (fun _ i _ => p - (intOf i).toNat)
  case atStart => exact ⟨0, by omega, rfl, hO1, B1⟩
  case round =>
    clear hO1 B1
    obtain ⟨k, hk, rfl, hO, hB⟩ := hrel
    have hs1 := hB.size
    by_cases hkp : k < p
    · have hA1 := h.at_ a0 rfl (2 * k) (by omega)
      have hA2 := h.at_ a0 rfl (2 * k + 1) (by omega)
      have h1 := h.one (2 * k) (by omega)
      have h2 := h.one (2 * k + 1) (by omega)
      have HX := above_snoc hs k (by rw [HL.out]; omega)
      generalize hs.getD (2 * k) [] = x at hA1 h1 HX
      generalize hs.getD (2 * k + 1) [] = y at hA2 h2 HX
      have HX2 := Lib.hid HX
      have H1 := Lib.hid h1
      have H2 := Lib.hid h2
      clear HX h1 h2
      have m1 : 2 * (k : Int) < n0 := by omega
      have m2 : 2 * (k : Int) + 1 < n0 := by omega
      go_wp2_with fail
      have u24 := Tryz.underlying53
      have e1 := IntWalk.i64_in (2 * (k : Int)) (by omega)
      have e2 := IntWalk.i64_in (2 * (k : Int) + 1) (by omega)
      have z1 : 0 ≤ 2 * (k : Int) := by omega
      have z2 : 0 ≤ 2 * (k : Int) + 1 := by omega
      have c1 : (2 * (k : Int)).toNat = 2 * k := by omega
      have c2 : (2 * (k : Int) + 1).toNat = 2 * k + 1 := by omega
      refine wp_region_held_drew (S := fun w' => Below w.heap.size w w') (by kernel_rfl) hB.drew (fun hHeld => ?_)
      refine wpAnyH_take (i := 0) (v := ?_) rfl (by kernel_rfl) (by kernel_rfl) (by kernel_rfl) (fun _ _ _ h => h) (Or.inl ⟨by rfl, ?_⟩) hHeld ?_
      rotate_left 1
      focus (intro wq hSw; go_simp; try with_reducible rfl)
      try (simp only [Act.put, List.getElem_toArray, List.getElem_cons_succ, List.getElem_cons_zero, setIfInBounds_toArray, set_cons_zero, set_cons_succ])
      refine wpAnyH_take (i := 1) (v := ?_) rfl (by kernel_rfl) (by kernel_rfl) (by kernel_rfl) (fun _ _ _ h => h) (Or.inl ⟨by rfl, ?_⟩) hHeld ?_
      rotate_left 1
      focus (intro wq hSw; go_simp; try with_reducible rfl)
      try (simp only [Act.put, List.getElem_toArray, List.getElem_cons_succ, List.getElem_cons_zero, setIfInBounds_toArray, set_cons_zero, set_cons_succ])
      refine wpAnyH_take (i := 2) (v := ?_) rfl (by kernel_rfl) (by kernel_rfl) (by kernel_rfl) (fun _ _ _ h => h) (Or.inl ⟨by rfl, ?_⟩) hHeld ?_
      rotate_left 1
      focus (intro wq hSw; go_simp; try with_reducible rfl)
      try (simp only [Act.put, List.getElem_toArray, List.getElem_cons_succ, List.getElem_cons_zero, setIfInBounds_toArray, set_cons_zero, set_cons_succ])
      refine wpAnyH_take (i := 3) (v := ?_) rfl (by kernel_rfl) (by kernel_rfl) (by kernel_rfl) (fun _ _ _ h => h) (Or.inl ⟨by rfl, ?_⟩) hHeld ?_
      rotate_left 1
      focus (intro wq hSw; go_simp; try with_reducible rfl)
      try (simp only [Act.put, List.getElem_toArray, List.getElem_cons_succ, List.getElem_cons_zero, setIfInBounds_toArray, set_cons_zero, set_cons_succ])
      refine wpAnyH_take (i := 4) (v := ?_) rfl (by kernel_rfl) (by kernel_rfl) (by kernel_rfl) (fun _ _ _ h => h) (Or.inl ⟨by rfl, ?_⟩) hHeld ?_
      rotate_left 1
      focus (intro wq hSw; go_simp; try with_reducible rfl)
      try (simp only [Act.put, List.getElem_toArray, List.getElem_cons_succ, List.getElem_cons_zero, setIfInBounds_toArray, set_cons_zero, set_cons_succ])
      refine wpAnyH_take (i := 5) (v := .agg (bcs (x)).toArray) rfl (by kernel_rfl) (by kernel_rfl) (by kernel_rfl) (fun _ _ _ h => h) (yieldsIf_load_at (by rfl) 53 _ rfl (a0.add (2 * k * 32)) rfl (x) (fun wq hSw => hA1.past hSw) _ _ u24 (hash_size x H1.out)) hHeld ?_
      try (simp only [Act.put, List.getElem_toArray, List.getElem_cons_succ, List.getElem_cons_zero, setIfInBounds_toArray, set_cons_zero, set_cons_succ])
      refine wpAnyH_take (i := 6) (v := ?_) rfl (by kernel_rfl) (by kernel_rfl) (by kernel_rfl) (fun _ _ _ h => h) (Or.inl ⟨by rfl, ?_⟩) hHeld ?_
      rotate_left 1
      focus (intro wq hSw; go_simp; try with_reducible rfl)
      try (simp only [Act.put, List.getElem_toArray, List.getElem_cons_succ, List.getElem_cons_zero, setIfInBounds_toArray, set_cons_zero, set_cons_succ])
      refine wpAnyH_take (i := 7) (v := ?_) rfl (by kernel_rfl) (by kernel_rfl) (by kernel_rfl) (fun _ _ _ h => h) (Or.inl ⟨by rfl, ?_⟩) hHeld ?_
      rotate_left 1
      focus (intro wq hSw; go_simp; try with_reducible rfl)
      try (simp only [Act.put, List.getElem_toArray, List.getElem_cons_succ, List.getElem_cons_zero, setIfInBounds_toArray, set_cons_zero, set_cons_succ])
      refine wpAnyH_take (i := 8) (v := ?_) rfl (by kernel_rfl) (by kernel_rfl) (by kernel_rfl) (fun _ _ _ h => h) (Or.inl ⟨by rfl, ?_⟩) hHeld ?_
      rotate_left 1
      focus (intro wq hSw; go_simp; try with_reducible rfl)
      try (simp only [Act.put, List.getElem_toArray, List.getElem_cons_succ, List.getElem_cons_zero, setIfInBounds_toArray, set_cons_zero, set_cons_succ])
      refine wpAnyH_take (i := 9) (v := ?_) rfl (by kernel_rfl) (by kernel_rfl) (by kernel_rfl) (fun _ _ _ h => h) (Or.inl ⟨by rfl, ?_⟩) hHeld ?_
      rotate_left 1
      focus (intro wq hSw; go_simp; try with_reducible rfl)
      try (simp only [Act.put, List.getElem_toArray, List.getElem_cons_succ, List.getElem_cons_zero, setIfInBounds_toArray, set_cons_zero, set_cons_succ])
      refine wpAnyH_take (i := 10) (v := ?_) rfl (by kernel_rfl) (by kernel_rfl) (by kernel_rfl) (fun _ _ _ h => h) (Or.inl ⟨by rfl, ?_⟩) hHeld ?_
      rotate_left 1
      focus (intro wq hSw; go_simp; try with_reducible rfl)
      try (simp only [Act.put, List.getElem_toArray, List.getElem_cons_succ, List.getElem_cons_zero, setIfInBounds_toArray, set_cons_zero, set_cons_succ])
      refine wpAnyH_take (i := 11) (v := .agg (bcs (y)).toArray) rfl (by kernel_rfl) (by kernel_rfl) (by kernel_rfl) (fun _ _ _ h => h) (yieldsIf_load_at (by rfl) 53 _ rfl (a0.add ((2 * k + 1) * 32)) rfl (y) (fun wq hSw => hA2.past hSw) _ _ u24 (hash_size y H2.out)) hHeld ?_
      try (simp only [Act.put, List.getElem_toArray, List.getElem_cons_succ, List.getElem_cons_zero, setIfInBounds_toArray, set_cons_zero, set_cons_succ])
      refine wpAnyH_ready (rs := [12]) (by kernel_rfl) (by simp) ?_
      refine AllReadyH.cons rfl (fun K hK => ?_) AllReadyH.nil
      go_simp
      go_at_call 123
      (with_reducible refine (pair_any x y _ ?_ H1.out H2.out).mono ?_)
      · exact hC.past hB.drew
      rintro e w3 ⟨rfl, b3⟩
      have O3 : OwnH w3 w.heap.size u4 k (Mk.above two (hs.take (2 * k))) := hO.past ((Below.refl _ _).drew.trans b3)
      have B3 : Below w.heap.size w w3 := hB.drew.trans (b3.mono hs1)
      refine hK.out _ _ (B3) (fun hHeld => ?_)
      clear hK K
      try (simp only [Act.put, List.getElem_toArray, List.getElem_cons_succ, List.getElem_cons_zero, setIfInBounds_toArray, set_cons_zero, set_cons_succ])
      refine wpAnyH_ready (rs := [13]) (by kernel_rfl) (by simp) ?_
      refine AllReadyH.cons rfl (fun K hK => ?_) AllReadyH.nil
      rw [if_pos (by rfl)]
      refine wp_buildSlice_hs 1 _ rfl [two x y] rfl (by simp [two_length]) (by omega) (by omega) (by simp only [List.map_toArray, List.map_cons, List.map_nil]; rfl) fun w5 _ I5 b5 => ?_
      have O5 := O3.past b5
      have B5 := B3.trans (b5.mono B3.size)
      refine hK.out _ _ B5 (fun hHeld => ?_)
      clear hK K O3 b5
      try (simp only [Act.put, List.getElem_toArray, List.getElem_cons_succ, List.getElem_cons_zero, setIfInBounds_toArray, set_cons_zero, set_cons_succ])
      refine wpAnyH_ready (rs := [14]) (by kernel_rfl) (by simp) ?_
      refine AllReadyH.cons rfl (fun K hK => ?_) AllReadyH.nil
      rw [if_pos (by rfl)]
      refine wp_append_hs (.tmp 18) (.tmp 31) rfl w.heap.size B5.size _ k _ rfl O5 ⟨w3.heap.size, 0, none⟩ 1 1 [two x y] rfl I5 (by omega) fun v2 w4 hO4 g4 => ?_
      have B4 := O5.step B5 B5.size (Nat.le_refl _) g4
      rw [← HX2.out] at hO4
      refine hK.out _ _ B4 (fun hHeld => ?_)
      clear hK K O5 I5 B5 B3 g4
      try (simp only [Act.put, List.getElem_toArray, List.getElem_cons_succ, List.getElem_cons_zero, setIfInBounds_toArray, set_cons_zero, set_cons_succ])
      refine wpAnyH_take (i := 15) (v := ?_) rfl (by kernel_rfl) (by kernel_rfl) (by kernel_rfl) (fun _ _ _ h => h) (Or.inl ⟨by rfl, ?_⟩) hHeld ?_
      rotate_left 1
      focus (intro wq hSw; go_simp; try with_reducible rfl)
      try (simp only [Act.put, List.getElem_toArray, List.getElem_cons_succ, List.getElem_cons_zero, setIfInBounds_toArray, set_cons_zero, set_cons_succ])
      refine wpAnyH_done (by kernel_rfl) ?_ _
      clear hHeld
      go_wp2_with fail
      go_roundw
      case rel => exact ⟨k + 1, by omega, by go_num, hO4, B4⟩
      case measure => simp [intOf]; omega
    · obtain rfl : k = p := by omega
      have hIs := h.past hB
      obtain ⟨ao2, hcut, hI2, hsome⟩ := IsH_cut hIs (2 * k) (by omega)
      obtain ⟨b2, rfl⟩ := hsome a0 rfl
      have hcut' : ∀ w' : World,(Instr.slice 77 (.slice (some a0) n0 c0) (some (.int .i64 (2 * (k : Int)))) none none).run Tryz.prog w' = .ok (.slice (some b2) (n0 - 2 * k) (c0 - 2 * k)) w' := hcut
      have hap := above_end hs
      rw [HL.out, ← HP.out] at hap
      have HAP := Lib.hid hap
      have hm : k + (n0 - 2 * k) = (n0 + 1) / 2 := by have := HP.out; omega
      have HM := Lib.hid hm
      clear hcut hap hm hIs
      go_wp2_with (at_builtin; refine wpList_append_hs rfl (.tmp 34) (.tmp 38) rfl w.heap.size hs1 _ k _ rfl hO b2 _ _ _ rfl hI2 (by omega) ?_; intro v2 w4 hO4 g4)
      rw [← HAP.out, HM.out] at hO4
      have B4 := hO.step hB hs1 (Nat.le_refl _) g4
      have FIN : Hid (HsOut w ((n0 + 1) / 2) (Mk.above two hs) (.returned v2) w4) := ⟨v2, rfl, hO4, B4⟩
      clear hO hB hO4 g4 hcut' hI2
      go_wp2_with fail
      go_ret
      exact FIN.out

def rootS (hs : List (List UInt8)) : List UInt8 := Mk.root two (sha []) hs
def proofS (hs : List (List UInt8)) (i : Nat) : List (List UInt8) := Mk.proof two (sha []) hs i
theorem rootS_length (hs : List (List UInt8)) (h : ∀ x ∈ hs, x.length = 32) : (rootS hs).length = 32 := by
  unfold rootS
  by_cases h2 : hs.length < 2
  · rw [Mk.root_one _ _ _ h2]
    match hs, h with
    | [], _ => exact sha_length _
    | x :: _, h => exact h x (by simp)
  · rw [Mk.root_more _ _ _ (by omega)]
    exact two_length _ _
theorem rootS_above (hs : List (List UInt8)) : rootS (Mk.above two hs) = rootS hs := Mk.root_above two (sha []) hs
set_option maxRecDepth 100000 in
set_option maxHeartbeats 2000000 in
theorem root_any (a0 : Option Addr) (n0 c0 : Nat) (hs : List (List UInt8)) (w : World) (hC : RC w) (h : IsH w a0 n0 c0 hs) (hn : n0 ≤ 1000) :
    Calls Tryz.prog 67 #[.slice a0 n0 c0] w fun e w' => e = .returned (.agg (bcs (rootS hs)).toArray) ∧ Below w.heap.size w w' := by
  have hl := h.len
  have H32 := Lib.hid (rootS_length hs h.all)
  have HL := Lib.hid hl
  clear hl
  rcases Nat.eq_zero_or_pos n0 with h0 | h0
  · subst h0
    have e0 : rootS hs = sha [] := by
      have : hs = [] := List.eq_nil_of_length_eq_zero HL.out
      subst this
      exact Mk.root_one _ _ _ (by simp)
    rw [e0]
    clear e0 H32 HL
    go_enter Tryz.func67, Tryz.ntmps67
    go_wp2_with (first | (with_reducible refine wpList_alloc_blk (o := ⟨some 2, _, _, _, _, _⟩) rfl 53 rfl _ zeroHash ?_; intro w1 gr h1 b1 q1))
    refine (sum_any none 0 0 [] _ (hC.past b1) (isP_nil _ none) (by omega) (by simp)).mono ?_
    rintro e w4 ⟨rfl, b4⟩
    rw [List.flatten_nil]
    have R4 : Hid (w4.heap[gr]? = some (.cells (bcs (List.replicate 32 0)).toArray 53 (0, 0))) := (b4.block gr (Array.getElem?_eq_some_iff.1 h1.out).1).trans h1.out
    have B4 := b1.trans (b4.mono b1.size)
    clear b4 h1 b1
    go_wp2_with ((with_reducible refine wpList_store_blk rfl 53 _ _ rfl gr _ (bcs (sha [])).toArray ?_ ?_ _ R4 32 sizeHash (by simp [bcs_length]) (by simp [bcs_length,sha_length]) (bcs_all _) ?_); (rfl); (rfl); (intro w8 h8 b8))
    refine bodyPost_ret (v := .agg (bcs (sha [])).toArray) (results_cell_row rfl _ _ gr _ _ (0,0) _ rfl h8.out Tryz.underlying53 rfl (by rw [sizeHash]; simp [bcs_length,sha_length])) rfl ⟨rfl,?_⟩
    exact B4.grown b8 B4.size (fun k hk => by cases hk; omega)
  · have hz : ((n0 : Int) == 0) = false := by simp; omega
    go_enter Tryz.func67, Tryz.ntmps67
    go_wp2_with (first | (with_reducible refine wpList_alloc_blk (o := ⟨some 2, _, _, _, _, _⟩) rfl 53 rfl _ zeroHash ?_; intro w1 gr h1 b1 q1))
    have hgr : gr < w1.heap.size := (Array.getElem?_eq_some_iff.1 h1.out).1
    go_loopw [0] (fun v wq => ∃ (ao : Option Addr) (n c : Nat) (hs' : List (List UInt8)),v = .slice ao n c ∧ IsH wq ao n c hs' ∧ 1 ≤ n ∧ n ≤ 1000 ∧ Hid (rootS hs' = rootS hs) ∧ Below w1.heap.size w1 wq) (fun v _ => match v with | .slice _ n _ => n | _ => 0)
    case atStart => exact ⟨a0, n0, c0, hs, rfl, h.past b1, h0, hn, rfl, Below.refl _ _⟩
    case round =>
      obtain ⟨ao, n, c, hs', rfl, hI, hn1, hn2, HR, hB⟩ := hrel
      have hBw : Below w.heap.size w wr := b1.trans (hB.mono b1.size)
      by_cases hn3 : 1 < n
      · obtain ⟨a, rfl⟩ := hI.has (by omega)
        go_wp2_with fail
        refine (above_any a n c hs' _ (hC.past hBw) hI hn2).mono ?_
        rintro e w3 ⟨v, rfl, hO, b3⟩
        obtain ⟨ao2, c2, rfl, hI2, -⟩ := hO.isH
        have HR2 : Hid (rootS (Mk.above two hs') = rootS hs) := (rootS_above hs').trans HR.out
        have B3 := hB.trans (b3.mono hB.size)
        clear hO b3
        go_wp2_with fail
        go_roundw
        case rel => exact ⟨ao2, (n + 1) / 2, c2, _, rfl, hI2, by omega, by omega, HR2, B3⟩
        case measure => simp; omega
      · obtain rfl : n = 1 := by omega
        obtain ⟨a, rfl⟩ := hI.has (by omega)
        have hat := hI.at_ a rfl 0 (by omega)
        have hd : hs'.getD 0 [] = rootS hs := by
          rw [← HR.out]
          have hl' := hI.len
          unfold rootS
          rw [Mk.root_one _ _ _ (by omega)]
          match hs', hl' with
          | [x], _ => rfl
        rw [hd] at hat
        have u24 := Tryz.underlying53
        have R4 : Hid (wr.heap[gr]? = some (.cells (bcs (List.replicate 32 0)).toArray 53 (0, 0))) := (hB.block gr hgr).trans h1.out
        have hat0 : AtA wr a (rootS hs) := by
          have := hat
          rw [Nat.zero_mul] at this
          exact this
        clear hat hd hI h1 hB HR
        go_wp2_with (first
          | ((with_reducible refine wpList_load_at rfl 53 _ rfl a ?_ (rootS hs) hat0 _ _ u24 (hash_size _ H32.out) ?_); (rfl))
          | ((with_reducible refine wpList_store_blk rfl 53 _ _ rfl gr _ (bcs (rootS hs)).toArray ?_ ?_ _ R4 32 sizeHash (by simp [bcs_length]) (by simp [bcs_length,H32.out]) (bcs_all _) ?_); (rfl); (rfl); (intro w8 h8 b8)))
        refine bodyPost_ret (v := .agg (bcs (rootS hs)).toArray) (results_cell_row rfl _ _ gr _ _ (0,0) _ rfl h8.out Tryz.underlying53 rfl (by rw [sizeHash]; simp [bcs_length,H32.out])) rfl ⟨rfl,?_⟩
        exact hBw.grown b8 hBw.size (fun k hk => by cases hk; omega)

def rowT (t s : Int) (c : Chg) : List UInt8 := le 8 (XU t) ++ (le 8 (XU s) ++ (le 1 (XU c.1.2) ++ (tx c.1.1.data.toList ++ tx (encR c.2))))
def rowS (t s : Int) (c : Chg) : List UInt8 := leafS (rowT t s c)
def rowsS (x : Txn) : List (List UInt8) := x.2.zipIdx.map fun c => rowS x.1 (c.2 : Nat) c.1
def rootX (x : Txn) : List UInt8 := rootS (rowsS x)
def entT (x : Txn) : List UInt8 := le 8 (XU x.1) ++ (le 8 (XU (x.2.length : Nat)) ++ rootX x)
def entS (x : Txn) : List UInt8 := leafS (entT x)
def blkT (b : Blk) : List UInt8 := le 8 (XU b.n) ++ (b.prev.l ++ (b.root.l ++ le 8 (XU b.count)))
def blkS (b : Blk) : List UInt8 := sha (blkT b)
theorem rowS_len (t s : Int) (c : Chg) : (rowS t s c).length = 32 := leafS_length _
theorem rowsS_all (x : Txn) : ∀ h ∈ rowsS x, h.length = 32 := by
  intro h hm
  obtain ⟨c, -, rfl⟩ := List.mem_map.1 hm
  exact rowS_len _ _ _
theorem entS_len (x : Txn) : (entS x).length = 32 := leafS_length _
theorem blkS_len (b : Blk) : (blkS b).length = 32 := sha_length _
def ChOk (c : Chg) : Prop := c.1.1.size ≤ 60 ∧ c.2.length ≤ 15 ∧ ∀ v ∈ c.2, v.s.size ≤ 60
def TxOk (x : Txn) : Prop := x.2.length ≤ 100 ∧ ∀ c ∈ x.2, ChOk c
def entsS (l : List Txn) : List (List UInt8) := l.map entS
def hLast (bl : List Blk) : List UInt8 := match bl.getLast? with
  | some b => blkS b
  | none => H0s.l
theorem hLast_len (bl : List Blk) : (hLast bl).length = 32 := by
  unfold hLast
  split
  · exact blkS_len _
  · rfl
def newB (L : Lgr) : Blk := ⟨(L.bl.length : Nat) + 1,⟨hLast L.bl,hLast_len _⟩,⟨rootS (entsS L.op),rootS_length _ fun h hm => by obtain ⟨x, -, rfl⟩ := List.mem_map.1 hm; exact entS_len x⟩,(L.op.length : Nat)⟩
def cls (L : Lgr) : Lgr := if L.op = [] then L else ⟨L.next, [], L.bl ++ [newB L], L.ts ++ [L.op]⟩
def clsE (L : Lgr) : Int := if L.op = [] then 2 else 0
def addL (L : Lgr) (c : List Chg) : Lgr := let M : Lgr := ⟨L.next + 1, L.op ++ [(L.next, c)], L.bl, L.ts⟩; if M.op.length = 4 then cls M else M
end Go.Proofs.YtdmnjjknkcnkgaaGreatDoor
