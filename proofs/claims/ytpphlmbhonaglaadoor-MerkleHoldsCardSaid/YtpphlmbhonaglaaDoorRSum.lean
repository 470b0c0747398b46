/-
  The reference's Sum.
-/
import Derived.Test.YtpphlmbhonaglaaDoorRSha1
import Derived.Test.YtpphlmbhonaglaaDoorReg
import Derived.Test.YtpphlmbhonaglaaDoorSchedP
import Derived.Test.YtpphlmbhonaglaaDoorRC4
import Derived.Test.YtpphlmbhonaglaaDoorRC5
import Derived.Test.YtpphlmbhonaglaaDoorRC6
import Derived.Test.YtpphlmbhonaglaaDoorRC7
import Derived.Test.YtpphlmbhonaglaaDoorRC8
import Derived.Outline
namespace Go.Proofs.YtpphlmbhonaglaaDoor
open Go.RowKit

theorem below_st {w a b : World} {g : Nat} (h : Below w.heap.size w a) (k : a.grownBy b (some g)) (hg : w.heap.size ≤ g) : Below w.heap.size w b := h.grown k h.size (fun k h => by cases h; exact hg)
theorem below_pt {w a b : World} {g n : Nat} (h : Below w.heap.size w a) (k : Puts a b g n) (hg : w.heap.size ≤ g) : Below w.heap.size w b := h.trans (k.below hg h.size)

/-- WHAT STANDS IN THE BLOCKS UP TO gs: the answer (zeros), the 64 numbers, the state s; what was there when the call began is as it was. -/
structure Fr (w wr : World) (gr gk gs : Nat) (s : St) : Prop where
  r : wr.heap[gr]? = some (.cells (bcs (List.replicate 32 0)).toArray 27 (0, 0))
  k : Ar wr 46 gk K64
  s : Ar wr 48 gs s.l
  b : Below w.heap.size w wr
  o1 : w.heap.size ≤ gr
  o2 : gr < gk
  o3 : gk < gs
theorem Fr.on {w wr w' : World} {gr gk gs : Nat} {s : St} (F : Fr w wr gr gk gs s) (h : Below (gs + 1) wr w') : Fr w w' gr gk gs s := by
  have h1 := F.o1
  have h2 := F.o2
  have h3 := F.o3
  exact ⟨(h.block gr (by omega)).trans F.r, F.k.kept (h.block gk (by omega)), F.s.kept (h.block gs (by omega)), F.b.trans (h.mono (by omega)), h1, h2, h3⟩
theorem Fr.put {w wr w' : World} {gr gk gs : Nat} {s : St} {g n : Nat} (F : Fr w wr gr gk gs s) (h : Puts wr w' g n) (hg : gs < g) : Fr w w' gr gk gs s :=
  F.on (h.below (by omega) (by have := F.s.lt; omega))
theorem Fr.alloc {w wr : World} {gr gk gs : Nat} {s : St} (F : Fr w wr gr gk gs s) (o : Obj) : Fr w (wr.alloc o) gr gk gs s :=
  F.on ((Below.refl _ _).alloc (by have := F.s.lt; omega) o)
theorem pad_more {n0 z j : Nat} (hz : z = (119 - n0 % 64) % 64) (hj : j < z) : (((n0 : Int) + 1 + (j : Int)) % 64 != 56) = true := by
  simp only [bne_iff_ne, ne_eq]; omega
theorem pad_done {n0 z : Nat} (hz : z = (119 - n0 % 64) % 64) : (((n0 : Int) + 1 + (z : Int)) % 64 != 56) = false := by
  simp only [bne_eq_false_iff_eq]; omega
theorem rep_snoc (j : Nat) (x : UInt8) : List.replicate j x ++ [x] = List.replicate (j + 1) x := List.replicate_succ'.symm
theorem be_take (x k q : Nat) (h : k + q = 7) : (be 8 x).take k ++ [UInt8.ofNat (x / 256 ^ q)] = (be 8 x).take (k + 1) := by
  have e : (be 8 x)[k]? = some (UInt8.ofNat (x / 256 ^ q)) := by
    unfold be
    rw [List.getElem?_map, List.getElem?_range (by omega)]
    simp only [Option.map_some]
    rw [show 8 - 1 - k = q by omega]
  rw [List.take_add_one, e]
  rfl
theorem be_byte (n q : Nat) : Value.int .u8 ((n : Int) * 8 / 2 ^ (8 * q) % 256) = bc (UInt8.ofNat (8 * n / 256 ^ q)) := by
  have e : (2 : Int) ^ (8 * q) = ((256 ^ q : Nat) : Int) := by rw [Int.pow_mul]; simp
  have e2 : (n : Int) * 8 = ((8 * n : Nat) : Int) := by omega
  rw [e, e2, ← Int.natCast_ediv, bc_mod]
  simp [bc]


set_option maxRecDepth 100000 in
set_option maxHeartbeats 20000000 in
theorem rsum_any (a0 : Option Addr) (n0 c0 : Nat) (l : List UInt8) (w : World) (h : IsB w a0 n0 c0 l) (hn : n0 ≤ 100000) :
    Calls Tryd.prog 12 #[.slice a0 n0 c0] w fun e w' => e = .returned (.agg (bcs (sha l)).toArray) ∧ Below w.heap.size w w' := by
  go_enter Tryd.func12, Tryd.ntmps12
  go_wp2_with (first
    | (go_at_call 20; refine (words_any _).mono ?_; rintro e w1 ⟨rfl, b1⟩; have B1 := below_on B0 b1)
    | (with_reducible refine wpList_alloc_blk rfl 27 rfl _ zeroH ?_; intro w0 gr h0 B0 q0)
    | (with_reducible refine wpList_alloc_ar rfl 46 rfl 64 zero64 ?_; intro w2 gk h2 b2 q2; have B2 := below_on B1 b2)
    | ((with_reducible refine wpList_store_ar rfl 46 _ _ rfl _ _ K64 ?_ ?_ _ h2 64 size64 List.length_replicate K64_length ?_); (rfl); (rfl); (intro w3 h3 b3; have B3 := below_st B2 b3 (Nat.le_trans B1.size q2)))
    | (with_reducible refine wpList_alloc_ar rfl 48 rfl 8 zero8 ?_; intro w4 gs h4 b4 q4; have B4 := below_on B3 b4)
    | ((with_reducible refine wpList_store_ar rfl 48 _ _ rfl _ _ H0.l ?_ ?_ _ h4 8 size8 List.length_replicate H0.l_length ?_); (rfl); (rfl); (intro w5 h5 b5; have B5 := below_st B4 b5 (Nat.le_trans B3.size q4)))
    | (at_builtin; refine wpList_append_ob rfl (.tmp 25) (.tmp 26) 36 36 rfl 5 byteTy _ 0 0 [] rfl (own_empty w5) _ rfl n0 l (((h.past B5).alloc _).src byteTy.ht) n0 (Nat.zero_add _) l rfl (by omega) ?_; intro g6 c6 w6 o6 p6 q6)
    | (at_builtin; refine wpList_append_ob rfl (.tmp 28) (.tmp 29) 36 36 rfl 5 byteTy _ n0 c6 l rfl (o6.alloc _) _ rfl 1 [128] (src_one byteTy.ht _ _ 128 rfl) (n0 + 1) rfl (l ++ [128]) rfl (by omega) ?_; intro g7 c7 w7 o7 p7 q7))
  obtain ⟨F, hg7⟩ : Fr w w7 gr gk gs H0 ∧ gs < g7 := by
    have t1 := b1.size
    have t2 := b2.size
    have t3 := b3.size
    have t4 := b4.size
    have t5 := b5.size
    have t6 := p6.size
    have e2 := h2.lt
    have e4 := h4.lt
    have e0 : gr < w0.heap.size := (Array.getElem?_eq_some_iff.1 h0.out).1
    have hne : gr ≠ gs := by omega
    have F : Fr w w5 gr gk gs H0 := by
      refine ⟨?_, ?_, h5, B5, q0, by omega, by omega⟩
      · rw [b5.block gr (by omega) (by simp; omega), b4.block gr (by omega), b3.block gr (by omega) (by simp; omega), b2.block gr (by omega), b1.block gr e0]
        exact h0.out
      · exact (h3.kept (b4.block gk (by omega))).kept (b5.block gk (by omega) (by simp; omega))
    simp at q6 q7 t6
    have hl := F.s.lt
    have F6 := (F.alloc (.cells #[] 5)).put p6 hl
    exact ⟨(F6.alloc _).put p7 (by omega), by omega⟩
  obtain ⟨z, hz⟩ : ∃ z, z = (119 - n0 % 64) % 64 := ⟨_, rfl⟩
  have hz63 : z ≤ 63 := by omega
  have HZ := Lib.hid hz
  clear hz h0 B0 q0 b1 B1 h2 b2 q2 B2 h3 b3 B3 h4 b4 q4 B4 h5 b5 B5 o6 p6 q6 p7 q7
  go_loopw [5] (fun v wr => ∃ j g cap, j ≤ z ∧ v = .slice (some ⟨g, 0, none⟩) (n0 + 1 + j) cap ∧ OwnB wr 5 g (n0 + 1 + j) cap (l ++ [128] ++ List.replicate j 0) ∧ gs < g ∧ Fr w wr gr gk gs H0) (fun v _ => match v with | .slice _ n _ => n0 + 1 + z - n | _ => 0)
  case atStart => exact ⟨0, g7, c7, Nat.zero_le _, rfl, by simpa using o7, hg7, F⟩
  case round =>
    obtain ⟨j, g, cap, hj, rfl, ho, hg, Fj⟩ := hrel
    by_cases hlt : j < z
    · have HL : Hid (l ++ [128] ++ List.replicate j 0 ++ [0] = l ++ [128] ++ List.replicate (j + 1) 0) := by unfold Hid; rw [List.append_assoc, rep_snoc]
      have ht := pad_more HZ.out hlt
      go_wp2_with (at_builtin; refine wpList_append_ob rfl (.tmp 35) (.tmp 36) 36 36 rfl 5 byteTy g (n0 + 1 + j) cap _ rfl (ho.alloc _) _ rfl 1 [0] (src_one byteTy.ht _ _ 0 rfl) (n0 + 1 + (j + 1)) rfl (l ++ [128] ++ List.replicate (j + 1) 0) HL.out (by omega) ?_; intro g2 cap2 w2 ho2 hp2 hg2)
      go_roundw
      case rel => exact ⟨j + 1, g2, cap2, by omega, rfl, ho2, by have := Fj.s.lt; simp at hg2; omega, (Fj.alloc _).put hp2 hg⟩
      case measure => simp; omega
    · obtain rfl : j = z := by omega
      have ht := pad_done HZ.out
      go_wp2_with fail
      clear ht hj hlt
      have hM : l.length = n0 := h.len
      have HM := Lib.hid hM
      clear hM
      go_loopw [5, 7] (fun v i wq => ∃ (k m g2 cap2 : Nat), k + m = 8 ∧ i = .int .i64 ((m : Int) - 1) ∧ v = .slice (some ⟨g2, 0, none⟩) (n0 + 1 + j + k) cap2 ∧ OwnB wq 5 g2 (n0 + 1 + j + k) cap2 (l ++ [128] ++ List.replicate j 0 ++ (be 8 (8 * n0)).take k) ∧ gs < g2 ∧ Fr w wq gr gk gs H0) (fun _ i _ => (intOf i + 1).toNat)
      case atStart => exact ⟨0, 8, g, cap, rfl, rfl, rfl, by simpa using ho, hg, Fj⟩
      case round =>
        obtain ⟨k, m, g2, cap2, hm, rfl, rfl, ho2, hg2, F2⟩ := hrel
        have HK := Lib.hid hm
        have hk8 : k ≤ 8 := by omega
        clear hm
        by_cases hm0 : 0 < m
        · obtain ⟨q, rfl⟩ : ∃ q : Nat, m = q + 1 := ⟨m - 1, by omega⟩
          have eq1 : (((q + 1 : Nat) : Int) - 1) = q := by omega
          have hq7 : q ≤ 7 := by have := HK.out; omega
          simp only [eq1]
          have HB : Hid (Value.int .u8 ((n0 : Int) * 8 / 2 ^ (8 * q) % 256) = bc (UInt8.ofNat (8 * n0 / 256 ^ q))) := be_byte n0 q
          have HT : Hid (l ++ [128] ++ List.replicate j 0 ++ (be 8 (8 * n0)).take k ++ [UInt8.ofNat (8 * n0 / 256 ^ q)] = l ++ [128] ++ List.replicate j 0 ++ (be 8 (8 * n0)).take (k + 1)) := by
            unfold Hid
            rw [List.append_assoc, be_take _ _ _ (by have := HK.out; omega)]
          clear eq1
          go_wp2_with (at_builtin; refine wpList_append_ob rfl (.tmp 46) (.tmp 53) 36 36 rfl 5 byteTy g2 (n0 + 1 + j + k) cap2 _ rfl (ho2.alloc _) _ rfl 1 _ (src_one byteTy.ht _ _ _ HB.out) (n0 + 1 + j + (k + 1)) rfl _ HT.out (by omega) ?_; intro g3 cap3 w3 ho3 hp3 hg3)
          go_roundw
          case rel => exact ⟨k + 1, q, g3, cap3, by have := HK.out; omega, by go_num, rfl, ho3, by have := F2.s.lt; simp at hg3; omega, (F2.alloc _).put hp3 hg2⟩
          case measure => simp [intOf]
        · obtain rfl : m = 0 := by omega
          obtain rfl : k = 8 := HK.out
          have HP : Hid (l ++ [128] ++ List.replicate j 0 ++ (be 8 (8 * n0)).take 8 = padded l) := by
            unfold Hid padded padding
            rw [HM.out, ← HZ.out, List.take_of_length_le (by rw [be_length]; omega)]
            simp
          rw [HP.out] at ho2
          obtain ⟨M, hM⟩ : ∃ M, n0 + 1 + j + 8 = 64 * M := ⟨(n0 + 1 + j + 8) / 64, by have := HZ.out; omega⟩
          rw [hM] at ho2 ⊢
          have hM2 : M ≤ 2000 := by omega
          clear hM HP HM HZ hk8 hm0
          generalize hPP : padded l = P at ho2
          have HPP := Lib.hid hPP
          clear hPP
          have hg2l := ho2.lt
          go_wp2_with (first | (with_reducible refine wpList_alloc_ar rfl 46 rfl 64 zero64 ?_; intro w4 gw h4 b4 q4))
          have hgw : g2 < gw := by omega
          have F4 : Fr w w4 gr gk gs H0 := F2.on (b4.mono (by have := F2.s.lt; omega))
          have o4 := ho2.below b4 hg2l
          clear ho2 F2 b4 q4 hg2l hg F Fj hg7 o7
          go_loopw [9] (fun p wq => ∃ m : Nat, m ≤ M ∧ p = .int .i64 (64 * (m : Int)) ∧ OwnB wq 5 g2 (64 * M) cap2 P ∧ (∃ L, Ar wq 46 gw L ∧ L.length = 64) ∧ Fr w wq gr gk gs (blocks P H0 m)) (fun p _ => 64 * M - (intOf p).toNat)
          case atStart => exact ⟨0, Nat.zero_le _, rfl, o4, ⟨_, h4, List.length_replicate⟩, F4⟩
          case round =>
            clear h4 F4 o4
            obtain ⟨wo, rfl⟩ : ∃ wo : World, wo = wr := ⟨_, rfl⟩
            obtain ⟨m, hm, rfl, oP, ⟨L0, hL0, hl0⟩, FO⟩ := hrel
            by_cases hmM : m < M
            · have hlt : 64 * (m : Int) < 64 * (M : Int) := by omega
              have HL0 := Lib.hid hl0
              clear hl0
              go_wp2_with fail
              go_loopw [10] (fun i wq => ∃ (k : Nat) (L : List UInt32), k ≤ 16 ∧ i = .int .i64 k ∧ Ar wq 46 gw L ∧ Hid (L.length = 64) ∧ Hid (L.take k = words (P.drop (64 * m)) k) ∧ Below gw wo wq) (fun i _ => 16 - (intOf i).toNat)
              case atStart => exact ⟨0, L0, Nat.zero_le _, rfl, hL0, HL0, rfl, Below.refl _ _⟩
              case round =>
                obtain ⟨k, L, hk, rfl, hL, hl, ht, hb⟩ := hrel
                by_cases hk16 : k < 16
                · refine case4 hk16 hmM hM2 oP hgw hL hl ht hb ?_
                  intro u11 u61 u62 u63 u64 u65 u66 u67 u68 u69 u70 u71 u72 u73 u74 u75 u76 u77 u78 u79 u80 u81 u82 u83 u84 u85 u86 u87 u88 u89 u90 u91 u92 u93 u94 u95 u96 u97 u98 u99 L2 w' h1 h2 h3 h4
                  change _ ∧ _
                  refine ⟨?_, ?_⟩
                  · repeat apply Exists.intro
                    refine ⟨?_, rfl⟩
                    exact ⟨k + 1, L2, by omega, by go_num, h1, h2, h3, h4⟩
                  · show _ - (intOf (Value.int .i64 ((k : Int) + 1))).toNat < _ - (intOf (Value.int .i64 (k : Int))).toNat
                    simp [intOf]; omega
                · obtain rfl : k = 16 := by omega
                  have HT : Hid (L.take 16 = words (P.drop (64 * m)) 16) := ht
                  clear ht hk hk16
                  go_wp2_with fail
                  simp only [show ((16 : Nat) : Int) = 16 from rfl]
                  go_loopw [12] (fun i wq => ∃ (i0 : Nat) (L1 : List UInt32), 16 ≤ i0 ∧ i0 ≤ 64 ∧ i = .int .i64 i0 ∧ Ar wq 46 gw L1 ∧ Hid (L1.length = 64) ∧ Hid (L1.take i0 = sched (words (P.drop (64 * m)) 16) (i0 - 16)) ∧ Below gw wo wq) (fun i _ => 64 - (intOf i).toNat)
                  case atStart => exact ⟨16, L, by omega, by omega, rfl, hL, hl, HT, hb⟩
                  case round =>
                    clear hL hl HT hb
                    obtain ⟨i, L1, hi1, hi2, rfl, hL, hl, HT, hb⟩ := hrel
                    by_cases hi3 : i < 64
                    · refine case5 hi1 hi3 hL hl HT hb ?_
                      intro u13 u14 u100 u101 u102 u103 u104 u105 u106 u107 u108 u109 u110 u111 u112 u113 u114 u115 u116 u117 u118 u119 u120 u121 u122 u123 u124 u125 u126 u127 u128 u129 u130 u131 u132 u133 u134 u135 u136 u137 u138 u139 u140 L2 w' h1 h2 h3 h4
                      change _ ∧ _
                      refine ⟨?_, ?_⟩
                      · repeat apply Exists.intro
                        refine ⟨?_, rfl⟩
                        exact ⟨i + 1, L2, by omega, by omega, by go_num, h1, h2, h3, h4⟩
                      · show _ - (intOf (Value.int .i64 ((i : Int) + 1))).toNat < _ - (intOf (Value.int .i64 (i : Int))).toNat
                        simp [intOf]; omega
                    · obtain rfl : i = 64 := by omega
                      have hW : L1 = sched (words (P.drop (64 * m)) 16) 48 := by
                        have e := HT.out
                        rwa [List.take_of_length_le (by have := hl.out; omega)] at e
                      rw [hW] at hL
                      have hlW : (sched (words (P.drop (64 * m)) 16) 48).length = 64 := by rw [sched_length, words_length]
                      generalize hWW : sched (words (P.drop (64 * m)) 16) 48 = W at hL hlW
                      have HW := Lib.hid hWW
                      have HlW := Lib.hid hlW
                      have FB := FO.on (hb.mono (by omega))
                      have oB := oP.below hb hgw
                      have HS : Hid (blocks P H0 (m + 1) = (blocks P H0 m).mix (P.drop (64 * m))) := rfl
                      generalize blocks P H0 m = S at FB HS
                      clear hWW hlW hW HT hl hi1 hi2 hi3
                      go_wp2_with (first
                        | ((with_reducible refine wpList_load_ar rfl 48 _ rfl gs _ ?_ _ FB.s _ _ Tryd.underlying48 8 size8 S.l_length ?_); (rfl))
                        | (with_reducible refine wpList_alloc_ar rfl 48 rfl 8 zero8 ?_; intro w8 ga h8 b8 q8)
                        | ((with_reducible refine wpList_store_ar rfl 48 _ _ rfl _ _ S.l ?_ ?_ _ h8 8 size8 List.length_replicate S.l_length ?_); (rfl); (rfl); (intro w9 h9 b9)))
                      have hgs := FB.s.lt
                      have hgwl := hL.lt
                      have ha9 : Below wr.heap.size wr w9 := b8.grown b9 b8.size (fun k h => by cases h; exact q8)
                      have k9 : Ar w9 46 gk K64 := FB.k.kept (ha9.block gk (by have := FB.o3; omega))
                      have L9 : Ar w9 46 gw W := hL.kept (ha9.block gw hgwl)
                      have hgka : gk < ga := by have := FB.o3; omega
                      have hgwa : gw < ga := by omega
                      have hga9 := h9.lt
                      go_loopw [16] (fun i wq => ∃ t : Nat, t ≤ 64 ∧ i = .int .i64 t ∧ Ar wq 48 ga (rounds W S t).l ∧ Below ga w9 wq) (fun i _ => 64 - (intOf i).toNat)
                      case atStart => exact ⟨0, Nat.zero_le _, rfl, h9, Below.refl _ _⟩
                      case round =>
                        clear h8 b8 b9 h9
                        obtain ⟨t, ht, rfl, hT, bT⟩ := hrel
                        by_cases ht64 : t < 64
                        · refine case6 ht64 k9 L9 hgka hgwa HlW hT bT ?_
                          intro u17 u18 u19 u142 u143 u144 u145 u146 u147 u148 u149 u150 u151 u152 u153 u154 u155 u156 u157 u158 u159 u160 u161 u162 u163 u164 u165 u166 u167 u168 u169 u170 u171 u172 u173 u174 u175 u176 u177 u178 u179 u180 u181 u182 u183 u184 u185 u186 u187 u188 u189 u190 u191 u192 u193 u194 u195 u196 u197 u198 u199 u200 u201 u202 u203 u204 u205 u206 u207 u208 u209 u210 u211 u212 u213 u214 u215 u216 u217 u218 u219 u220 u221 u222 u223 u224 u225 u226 w' h1 h2
                          change _ ∧ _
                          refine ⟨?_, ?_⟩
                          · repeat apply Exists.intro
                            refine ⟨?_, rfl⟩
                            exact ⟨t + 1, by omega, by go_num, h1, h2⟩
                          · show _ - (intOf (Value.int .i64 ((t : Int) + 1))).toNat < _ - (intOf (Value.int .i64 (t : Int))).toNat
                            simp [intOf]; omega
                        · obtain rfl : t = 64 := by omega
                          clear ht ht64
                          have HS2 : Hid (blocks P H0 (m + 1) = S.add (rounds W S 64)) := by unfold Hid; rw [HS.out, ← HW.out]; rfl
                          generalize rounds W S 64 = T at hT HS2
                          obtain ⟨wx, hwx⟩ : ∃ wx : World, Hid (wx = wr) := ⟨_, rfl⟩
                          have bX : Below ga w9 wx := by rw [hwx.out]; exact bT
                          have S9 : Ar wr 48 gs S.l := (FB.s.kept (ha9.block gs hgs)).kept (bT.block gs (by omega))
                          have hgsa : gs ≠ ga := by omega
                          go_wp2_with fail
                          simp only [show ((64 : Nat) : Int) = 64 from rfl]
                          go_loopw [20] (fun i wq => ∃ t : Nat, t ≤ 8 ∧ i = .int .i64 t ∧ Ar wq 48 gs (sums S T t) ∧ Ar wq 48 ga T.l ∧ wx.grownBy wq (some gs)) (fun i _ => 8 - (intOf i).toNat)
                          case atStart => exact ⟨0, Nat.zero_le _, rfl, S9, hT, by rw [hwx.out]; exact World.grownBy.refl _ _⟩
                          case round =>
                            clear S9 hT
                            obtain ⟨t, ht, rfl, hA, hT, gT⟩ := hrel
                            by_cases ht8 : t < 8
                            · refine case7 ht8 hgsa hA hT gT ?_
                              intro u227 u228 u229 u230 u231 u232 u233 u234 u235 u236 u237 u238 w' h1 h2 h3
                              change _ ∧ _
                              refine ⟨?_, ?_⟩
                              · repeat apply Exists.intro
                                refine ⟨?_, rfl⟩
                                exact ⟨t + 1, by omega, by go_num, h1, h2, h3⟩
                              · show _ - (intOf (Value.int .i64 ((t : Int) + 1))).toNat < _ - (intOf (Value.int .i64 (t : Int))).toNat
                                simp [intOf]; omega
                            · obtain rfl : t = 8 := by omega
                              rw [sums_all] at hA
                              have gOb : gs < wx.heap.size := by rw [hwx.out]; exact Nat.lt_of_lt_of_le hgs (Nat.le_trans ha9.size bT.size)
                              clear ht ht8
                              go_wp2_with fail
                              go_roundw
                              case rel =>
                                have e1 := FB.o1
                                have e2 := FB.o2
                                have e3 := FB.o3
                                refine ⟨m + 1, by omega, by congr 1, ?_, ?_, ?_⟩
                                · exact ((oB.below ha9 oB.lt).below bX (by omega)).grown gT (by simp; omega)
                                · exact ⟨W, (L9.kept (bX.block gw hgwa)).kept (gT.block gw (by have := bX.size; omega) (by simp; omega)), HlW.out⟩
                                · rw [HS2.out]
                                  refine ⟨?_, ?_, hA, ?_, e1, e2, e3⟩
                                  · rw [gT.block gr (by omega) (by simp; omega), bX.block gr (by omega), ha9.block gr (by omega)]
                                    exact FB.r
                                  · exact (k9.kept (bX.block gk hgka)).kept (gT.block gk (by omega) (by simp; omega))
                                  · exact ((FB.b.trans (ha9.mono (by omega))).trans (bX.mono (by omega))).grown gT (by omega) (fun k h => by cases h; omega)
                              case measure => simp [intOf]; omega
            · obtain rfl : m = M := by omega
              clear hL0 hl0
              have HS3 : Hid ((bcs (outs (blocks P H0 m) 8)).toArray = (bcs (sha l)).toArray) := by
                unfold Hid
                rw [outs_all, ← HPP.out]
                unfold sha
                rw [HPP.out, oP.len, Nat.mul_div_cancel_left m (by decide)]
              generalize blocks P H0 m = S at FO HS3
              go_wp2_with (first | (with_reducible refine wpList_alloc_blk rfl 27 rfl _ zeroH ?_; intro wa go ha ba qa))
              have hgo : gs < go := Nat.lt_of_lt_of_le FO.s.lt qa
              have gsl := FO.s.lt
              have Sa : Ar wa 48 gs S.l := FO.s.kept (ba.block gs gsl)
              have hgr : gr < gs := by have := FO.o2; have := FO.o3; omega
              have Ba : Below w.heap.size w wa := FO.b.trans (ba.mono FO.b.size)
              have Ra : Hid (wa.heap[gr]? = some (.cells (bcs (List.replicate 32 0)).toArray 27 (0, 0))) := (ba.block gr (by omega)).trans FO.r
              have q1 := FO.o1
              have hwgo : w.heap.size ≤ go := by omega
              have hA0 : Ab wa 27 go (outs S 0) := ha.out
              clear ha oP FO hm hmM ba qa gsl
              go_loopw [22] (fun i wq => ∃ t : Nat, t ≤ 8 ∧ i = .int .i64 t ∧ Ab wq 27 go (outs S t) ∧ Below go wa wq) (fun i _ => 8 - (intOf i).toNat)
              case atStart => exact ⟨0, Nat.zero_le _, rfl, hA0, Below.refl _ _⟩
              case round =>
                clear hA0
                obtain ⟨t, ht, rfl, hA, bA⟩ := hrel
                by_cases ht8 : t < 8
                · refine case8 ht8 hgo Sa hA bA ?_
                  intro u239 u240 u241 u242 u243 u244 u245 u246 u247 u248 u249 u250 u251 u252 u253 u254 u255 u256 u257 u258 u259 u260 u261 u262 u263 u264 u265 u266 u267 u268 u269 u270 u271 u272 u273 u274 u275 u276 w' h1 h2
                  change _ ∧ _
                  refine ⟨?_, ?_⟩
                  · repeat apply Exists.intro
                    refine ⟨?_, rfl⟩
                    exact ⟨t + 1, by omega, by go_num, h1, h2⟩
                  · show _ - (intOf (Value.int .i64 ((t : Int) + 1))).toNat < _ - (intOf (Value.int .i64 (t : Int))).toNat
                    simp [intOf]; omega
                · obtain rfl : t = 8 := by omega
                  have hAH : Hid (wr.heap[go]? = some (.cells (bcs (sha l)).toArray 27 (0, 0))) := by
                    have e : (bcs (outs S 8)).toArray = (bcs (sha l)).toArray := HS3.out
                    unfold Hid
                    rw [← e]
                    exact hA
                  have hRH : Hid (wr.heap[gr]? = some (.cells (bcs (List.replicate 32 0)).toArray 27 (0, 0))) := (bA.block gr (by omega)).trans Ra.out
                  have sz : (bcs (sha l)).toArray.size = 32 := by simp [bcs_length, sha_length]
                  have SZ := Lib.hid sz
                  clear sz hA ht ht8
                  go_wp2_with (first
                    | ((with_reducible refine wpList_load_blk rfl 27 _ rfl go _ ?_ _ hAH _ _ Tryd.underlying27 32 sizeH SZ.out ?_); (rfl))
                    | ((with_reducible refine wpList_store_blk rfl 27 _ _ rfl gr _ (bcs (sha l)).toArray ?_ ?_ _ hRH 32 sizeH List.size_toArray SZ.out ?_ ?_); (rfl); (rfl); (exact bcs_all _); (intro wz hz bz)))
                  have Bz := (Ba.trans (bA.mono hwgo))
                  refine bodyPost_ret (v := .agg (bcs (sha l)).toArray) (results_cell_row rfl _ _ gr _ _ (0, 0) _ rfl hz.out Tryd.underlying27 rfl (sizeH.trans (by rw [SZ.out]))) rfl ⟨rfl, ?_⟩
                  exact Bz.grown bz Bz.size (fun k h => by cases h; exact q1)
end Go.Proofs.YtpphlmbhonaglaaDoor
