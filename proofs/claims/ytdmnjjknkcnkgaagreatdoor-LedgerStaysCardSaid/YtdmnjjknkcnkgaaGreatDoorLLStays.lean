/-
 LedgerStays (by gen_lstays.py).
-/
import Derived.Test.YtdmnjjknkcnkgaaGreatDoorMzD
import Derived.Test.YtdmnjjknkcnkgaaGreatDoorMzI
namespace Go.Proofs.YtdmnjjknkcnkgaaGreatDoor
open List (setIfInBounds_toArray set_cons_zero set_cons_succ)
open Go.RowKit
set_option linter.unusedSimpArgs false
inductive LSt16 (B : Nat) (px : Nat) (nx : Int) (ob : Option Addr) (onb : Nat) (obc : Nat) (bb : Option Addr) (bnb : Nat) (bbc : Nat) (tb : Option Addr) (tnb : Nat) (tbc : Nat) (n : Nat) (c : Nat) (gb : Nat) (goff : Nat) (jn : Nat) (sn : Int) (so : Int) (nm : ByteArray) (va : Option Addr) (vn : Nat) (vc : Nat) (nx2 : Int) (M : Lgr) (sp : Stp) (a0 : Act) (w0 : World) (L : Array Bool) (a : Act) (w : World) : Prop
 | mk (b0 b1 b2 b3 b4 b5 b6 b7 b8 b9 b10 : Bool) (x60 x61 x62 x63 x64 x65 x66 x59 x67 x68 : Value) (ca : Option Addr) (cn7 : Nat) (cc7 : Nat) (oa7 : Option Addr) (on7 : Nat) (oc7 : Nat) (ba7 : Option Addr) (bn7 : Nat) (bc7 : Nat) (ta7 : Option Addr) (tn7 : Nat) (tc7 : Nat) (xa : Option Addr) (xc : Nat) (hL : L = #[b0,b1,b2,b3,b4,b5,b6,b7,b8,b9,b10]) (ha : a = ⟨((((((((((a0.tmps.setIfInBounds 60 x60).setIfInBounds 61 x61).setIfInBounds 62 x62).setIfInBounds 63 x63).setIfInBounds 64 x64).setIfInBounds 65 x65).setIfInBounds 66 x66).setIfInBounds 59 x59).setIfInBounds 67 x67).setIfInBounds 68 x68),a0.defers⟩) (hb : Below B w0 w) (cd0 : Hid (b0 = true → x60 = .agg #[.int .i64 nx,.slice ob onb obc,.slice bb bnb bbc,.slice tb tnb tbc])) (cd1 : Hid (b1 = true → x61 = .slice (some ⟨gb,goff,none⟩) n c)) (cd2 : Hid (b2 = true → x62 = .int .i64 (jn : Nat))) (cd3 : Hid (b3 = true → x63 = .pointer (some ⟨gb,goff + jn * 4,none⟩))) (cd4 : Hid (b4 = true → x64 = .agg #[.int .i64 sn,.int .i64 so,.string nm,.slice va vn vc])) (cd5 : Hid (b5 = true → x65 = .slice ca cn7 cc7)) (cd6 : Hid (b6 = true → x66 = .tuple #[.agg #[.int .i64 nx2,.slice oa7 on7 oc7,.slice ba7 bn7 bc7,.slice ta7 tn7 tc7],.agg #[.int .i64 nx,.slice xa cn7 xc]])) (cd7 : Hid (b7 = true → x59 = .tuple #[.agg #[.int .i64 nx2,.slice oa7 on7 oc7,.slice ba7 bn7 bc7,.slice ta7 tn7 tc7],.agg #[.int .i64 nx,.slice xa cn7 xc]])) (cd8 : Hid (b8 = true → x67 = .agg #[.int .i64 nx2,.slice oa7 on7 oc7,.slice ba7 bn7 bc7,.slice ta7 tn7 tc7])) (cd9 : Hid (b9 = true → x68 = .agg #[.int .i64 nx,.slice xa cn7 xc])) (f_x : Hid (b10 = false → Bk w px #[.int .i64 nx,.slice ob onb obc,.slice bb bnb bbc,.slice tb tnb tbc] 29)) (f_l : Hid (b6 = false → LgR w (fun k => k ≠ px) ob onb obc bb bnb bbc tb tnb tbc M)) (f_d : Hid (b5 = true → b6 = false → IsD DC w (fun k => k ≠ px) ca cn7 cc7 (chgs sp))) (f_l2 : Hid (b6 = true → LgR w (fun k => k ≠ px) oa7 on7 oc7 ba7 bn7 bc7 ta7 tn7 tc7 (addL M (chgs sp)))) (f_s : Hid (b10 = true → Bk w px #[.int .i64 nx2,.slice oa7 on7 oc7,.slice ba7 bn7 bc7,.slice ta7 tn7 tc7] 29)) (f_q6 : Hid (b10 = true → b6 = true)) (f_q0 : Hid (b10 = true → b0 = true)) (w_6_5 : Hid (b6 = true → b5 = true)) (w_7_5 : Hid (b7 = true → b5 = true)) (w_7_6 : Hid (b7 = true → b6 = true)) (w_8_6 : Hid (b8 = true → b6 = true)) (w_9_5 : Hid (b9 = true → b5 = true)) (w_9_6 : Hid (b9 = true → b6 = true)) : LSt16 B px nx ob onb obc bb bnb bbc tb tnb tbc n c gb goff jn sn so nm va vn vc nx2 M sp a0 w0 L a w
inductive LSt17 (B : Nat) (px : Nat) (pg : Nat) (gv : Nat) (gvo : Nat) (bnb : Nat) (bbc : Nat) (bn : Nat) (bm : Nat) (BA : Array Value) (HA : Array Value) (a0 : Act) (w0 : World) (L : Array Bool) (a : Act) (w : World) : Prop
 | mk (b0 b1 b2 b3 b4 b5 b6 b7 b8 b9 b10 b11 b12 b13 b14 b15 b16 b17 b18 b19 b20 b21 b22 : Bool) (x69 x70 x71 x72 x73 x74 x75 x76 x77 x78 x79 x80 x81 x82 x83 x84 x85 x86 x87 x88 x89 x90 x91 : Value) (hL : L = #[b0,b1,b2,b3,b4,b5,b6,b7,b8,b9,b10,b11,b12,b13,b14,b15,b16,b17,b18,b19,b20,b21,b22]) (ha : a = ⟨(((((((((((((((((((((((a0.tmps.setIfInBounds 69 x69).setIfInBounds 70 x70).setIfInBounds 71 x71).setIfInBounds 72 x72).setIfInBounds 73 x73).setIfInBounds 74 x74).setIfInBounds 75 x75).setIfInBounds 76 x76).setIfInBounds 77 x77).setIfInBounds 78 x78).setIfInBounds 79 x79).setIfInBounds 80 x80).setIfInBounds 81 x81).setIfInBounds 82 x82).setIfInBounds 83 x83).setIfInBounds 84 x84).setIfInBounds 85 x85).setIfInBounds 86 x86).setIfInBounds 87 x87).setIfInBounds 88 x88).setIfInBounds 89 x89).setIfInBounds 90 x90).setIfInBounds 91 x91),a0.defers⟩) (hb : Below B w0 w) (cd0 : Hid (b0 = true → x69 = .pointer (some ⟨px,2,none⟩))) (cd1 : Hid (b1 = true → x70 = .slice (some ⟨gv,gvo,none⟩) bnb bbc)) (cd2 : Hid (b2 = true → x71 = .int .i64 (bnb : Nat))) (cd3 : Hid (b3 = true → x72 = .int .i64 (bn : Nat))) (cd4 : Hid (b4 = true → x73 = .bool false)) (cd5 : Hid (b5 = true → x74 = .bool false)) (cd6 : Hid (b6 = true → x75 = .pointer (some ⟨px,2,none⟩))) (cd7 : Hid (b7 = true → x76 = .slice (some ⟨gv,gvo,none⟩) bnb bbc)) (cd8 : Hid (b8 = true → x77 = .int .i64 (bn : Nat))) (cd9 : Hid (b9 = true → x78 = .int .i64 (bm : Nat))) (cd10 : Hid (b10 = true → x79 = .pointer (some ⟨gv,gvo + bm * 66,none⟩))) (cd11 : Hid (b11 = true → x80 = .agg BA)) (cd12 : Hid (b12 = true → x81 = .agg HA)) (cd13 : Hid (b13 = true → x82 = .pointer (some ⟨pg,1,none⟩))) (cd14 : Hid (b14 = true → x83 = .agg HA)) (cd15 : Hid (b15 = true → x84 = .bool false)) (cd16 : Hid (b16 = true → x85 = .bool false)) (cd17 : Hid (b17 = true → x86 = .bool false)) (cd18 : Hid (b18 = true → x87 = .pointer (some ⟨pg,0,none⟩))) (cd19 : Hid (b19 = true → x88 = .int .i64 (bn : Nat))) (cd20 : Hid (b20 = true → x89 = .int .i64 (bn : Nat))) (cd21 : Hid (b21 = true → x90 = .bool false)) (cd22 : Hid (b22 = true → x91 = .bool false)) : LSt17 B px pg gv gvo bnb bbc bn bm BA HA a0 w0 L a w
inductive LSt25 (B : Nat) (px : Nat) (pv : Nat) (gv : Nat) (gvo : Nat) (bnb : Nat) (bbc : Nat) (gt : Nat) (gto : Nat) (tnb : Nat) (tbc : Nat) (jn : Nat) (ua : Option Addr) (un : Nat) (uc : Nat) (HP : Array Value) (HR0 : Array Value) (EH : List (List UInt8)) (a0 : Act) (w0 : World) (L : Array Bool) (a : Act) (w : World) : Prop
 | mk (b0 b1 b2 b3 b4 b5 b6 b7 b8 b9 b10 b11 b12 b13 b14 b15 b16 b17 b18 b19 b20 b21 b22 b23 b24 b25 b26 b27 b28 b29 b30 b31 b32 b33 b34 b35 b36 b37 b38 b39 b40 b41 b42 b43 b44 b45 b46 b47 b48 b49 b50 b51 b52 b53 b54 b55 b56 b57 b58 b59 b60 b61 b62 b63 b64 b65 b66 b67 : Bool) (x109 x110 x111 x112 x113 x114 x115 x116 x117 x118 x119 x120 x121 x122 x123 x124 x125 x126 x127 x128 x129 x130 x131 x132 x133 x134 x135 x136 x137 x138 x139 x140 x141 x142 x143 x144 x145 x146 x147 x148 x149 x150 x151 x152 x153 x154 x155 x156 x157 x158 x159 x160 x161 x162 x163 x164 x165 x166 x167 x168 x169 x170 x171 x172 x173 x174 x175 x176 : Value) (ea : Option Addr) (ec : Nat) (hL : L = #[b0,b1,b2,b3,b4,b5,b6,b7,b8,b9,b10,b11,b12,b13,b14,b15,b16,b17,b18,b19,b20,b21,b22,b23,b24,b25,b26,b27,b28,b29,b30,b31,b32,b33,b34,b35,b36,b37,b38,b39,b40,b41,b42,b43,b44,b45,b46,b47,b48,b49,b50,b51,b52,b53,b54,b55,b56,b57,b58,b59,b60,b61,b62,b63,b64,b65,b66,b67]) (ha : a = ⟨((((((((((((((((((((((((((((((((((((((((((((((((((((((((((((((((((((a0.tmps.setIfInBounds 109 x109).setIfInBounds 110 x110).setIfInBounds 111 x111).setIfInBounds 112 x112).setIfInBounds 113 x113).setIfInBounds 114 x114).setIfInBounds 115 x115).setIfInBounds 116 x116).setIfInBounds 117 x117).setIfInBounds 118 x118).setIfInBounds 119 x119).setIfInBounds 120 x120).setIfInBounds 121 x121).setIfInBounds 122 x122).setIfInBounds 123 x123).setIfInBounds 124 x124).setIfInBounds 125 x125).setIfInBounds 126 x126).setIfInBounds 127 x127).setIfInBounds 128 x128).setIfInBounds 129 x129).setIfInBounds 130 x130).setIfInBounds 131 x131).setIfInBounds 132 x132).setIfInBounds 133 x133).setIfInBounds 134 x134).setIfInBounds 135 x135).setIfInBounds 136 x136).setIfInBounds 137 x137).setIfInBounds 138 x138).setIfInBounds 139 x139).setIfInBounds 140 x140).setIfInBounds 141 x141).setIfInBounds 142 x142).setIfInBounds 143 x143).setIfInBounds 144 x144).setIfInBounds 145 x145).setIfInBounds 146 x146).setIfInBounds 147 x147).setIfInBounds 148 x148).setIfInBounds 149 x149).setIfInBounds 150 x150).setIfInBounds 151 x151).setIfInBounds 152 x152).setIfInBounds 153 x153).setIfInBounds 154 x154).setIfInBounds 155 x155).setIfInBounds 156 x156).setIfInBounds 157 x157).setIfInBounds 158 x158).setIfInBounds 159 x159).setIfInBounds 160 x160).setIfInBounds 161 x161).setIfInBounds 162 x162).setIfInBounds 163 x163).setIfInBounds 164 x164).setIfInBounds 165 x165).setIfInBounds 166 x166).setIfInBounds 167 x167).setIfInBounds 168 x168).setIfInBounds 169 x169).setIfInBounds 170 x170).setIfInBounds 171 x171).setIfInBounds 172 x172).setIfInBounds 173 x173).setIfInBounds 174 x174).setIfInBounds 175 x175).setIfInBounds 176 x176),a0.defers⟩) (hb : Below B w0 w) (cd0 : Hid (b0 = true → x109 = .pointer (some ⟨px,2,none⟩))) (cd1 : Hid (b1 = true → x110 = .slice (some ⟨gv,gvo,none⟩) bnb bbc)) (cd2 : Hid (b2 = true → x111 = .int .i64 (jn : Nat))) (cd3 : Hid (b3 = true → x112 = .pointer (some ⟨gv,gvo + jn * 66,none⟩))) (cd4 : Hid (b4 = true → x113 = .pointer (some ⟨gv,gvo + jn * 66,none⟩))) (cd5 : Hid (b5 = true → x114 = .int .i64 ((jn : Int) + 1))) (cd6 : Hid (b6 = true → x115 = .int .i64 (jn : Nat))) (cd7 : Hid (b7 = true → x116 = .int .i64 ((jn : Int) + 1))) (cd8 : Hid (b8 = true → x117 = .bool false)) (cd9 : Hid (b9 = true → x118 = .bool false)) (cd10 : Hid (b10 = true → x119 = .pointer (some ⟨px,2,none⟩))) (cd11 : Hid (b11 = true → x120 = .slice (some ⟨gv,gvo,none⟩) bnb bbc)) (cd12 : Hid (b12 = true → x121 = .int .i64 (jn : Nat))) (cd13 : Hid (b13 = true → x122 = .pointer (some ⟨gv,gvo + jn * 66,none⟩))) (cd14 : Hid (b14 = true → x123 = .pointer (some ⟨gv,gvo + jn * 66 + 1,none⟩))) (cd15 : Hid (b15 = true → x124 = .agg HP)) (cd16 : Hid (b16 = true → x125 = .agg HP)) (cd17 : Hid (b17 = true → x126 = .bool false)) (cd18 : Hid (b18 = true → x127 = .bool false)) (cd19 : Hid (b19 = true → x128 = .bool false)) (cd20 : Hid (b20 = true → x129 = .pointer (some ⟨px,2,none⟩))) (cd21 : Hid (b21 = true → x130 = .slice (some ⟨gv,gvo,none⟩) bnb bbc)) (cd22 : Hid (b22 = true → x131 = .int .i64 (jn : Nat))) (cd23 : Hid (b23 = true → x132 = .pointer (some ⟨gv,gvo + jn * 66,none⟩))) (cd24 : Hid (b24 = true → x133 = .pointer (some ⟨gv,gvo + jn * 66 + 65,none⟩))) (cd25 : Hid (b25 = true → x134 = .int .i64 (un : Nat))) (cd26 : Hid (b26 = true → x135 = .pointer (some ⟨px,3,none⟩))) (cd27 : Hid (b27 = true → x136 = .slice (some ⟨gt,gto,none⟩) tnb tbc)) (cd28 : Hid (b28 = true → x137 = .int .i64 (jn : Nat))) (cd29 : Hid (b29 = true → x138 = .pointer (some ⟨gt,gto + jn,none⟩))) (cd30 : Hid (b30 = true → x139 = .slice ua un uc)) (cd31 : Hid (b31 = true → x140 = .int .i64 (un : Nat))) (cd32 : Hid (b32 = true → x141 = .bool false)) (cd33 : Hid (b33 = true → x142 = .bool false)) (cd34 : Hid (b34 = true → x143 = .bool false)) (cd35 : Hid (b35 = true → x144 = .pointer (some ⟨px,2,none⟩))) (cd36 : Hid (b36 = true → x145 = .slice (some ⟨gv,gvo,none⟩) bnb bbc)) (cd37 : Hid (b37 = true → x146 = .int .i64 (jn : Nat))) (cd38 : Hid (b38 = true → x147 = .pointer (some ⟨gv,gvo + jn * 66,none⟩))) (cd39 : Hid (b39 = true → x148 = .pointer (some ⟨gv,gvo + jn * 66 + 65,none⟩))) (cd40 : Hid (b40 = true → x149 = .int .i64 (un : Nat))) (cd41 : Hid (b41 = true → x150 = .bool false)) (cd42 : Hid (b42 = true → x151 = .bool false)) (cd43 : Hid (b43 = true → x152 = .bool false)) (cd44 : Hid (b44 = true → x153 = .pointer (some ⟨px,2,none⟩))) (cd45 : Hid (b45 = true → x154 = .slice (some ⟨gv,gvo,none⟩) bnb bbc)) (cd46 : Hid (b46 = true → x155 = .int .i64 (jn : Nat))) (cd47 : Hid (b47 = true → x156 = .pointer (some ⟨gv,gvo + jn * 66,none⟩))) (cd48 : Hid (b48 = true → x157 = .pointer (some ⟨gv,gvo + jn * 66 + 65,none⟩))) (cd49 : Hid (b49 = true → x158 = .int .i64 (un : Nat))) (cd50 : Hid (b50 = true → x159 = .bool false)) (cd51 : Hid (b51 = true → x160 = .bool false)) (cd52 : Hid (b52 = true → x161 = .bool false)) (cd53 : Hid (b53 = true → x162 = .pointer (some ⟨px,2,none⟩))) (cd54 : Hid (b54 = true → x163 = .slice (some ⟨gv,gvo,none⟩) bnb bbc)) (cd55 : Hid (b55 = true → x164 = .int .i64 (jn : Nat))) (cd56 : Hid (b56 = true → x165 = .pointer (some ⟨gv,gvo + jn * 66,none⟩))) (cd57 : Hid (b57 = true → x166 = .pointer (some ⟨gv,gvo + jn * 66 + 33,none⟩))) (cd58 : Hid (b58 = true → x167 = .agg HR0)) (cd59 : Hid (b59 = true → x168 = .pointer (some ⟨px,3,none⟩))) (cd60 : Hid (b60 = true → x169 = .slice (some ⟨gt,gto,none⟩) tnb tbc)) (cd61 : Hid (b61 = true → x170 = .int .i64 (jn : Nat))) (cd62 : Hid (b62 = true → x171 = .pointer (some ⟨gt,gto + jn,none⟩))) (cd63 : Hid (b63 = true → x172 = .slice ua un uc)) (cd64 : Hid (b64 = true → x173 = .slice ea un ec)) (cd65 : Hid (b65 = true → x174 = .agg HR0)) (cd66 : Hid (b66 = true → x175 = .bool false)) (cd67 : Hid (b67 = true → x176 = .bool false)) (f_e : Hid (b64 = true → b65 = false → IsH w ea un ec EH)) : LSt25 B px pv gv gvo bnb bbc gt gto tnb tbc jn ua un uc HP HR0 EH a0 w0 L a w
theorem built_hash0 : Tryz.prog.built 53 [] = some (bcs (List.replicate 32 0)).toArray := by kernel_rfl
theorem dgC_last9 {bl : List Blk} {bm : Nat} {b : Blk} (hb : bl[bm]? = some b) (hl : bl.length = bm + 1) : dgC bl = (Value.int .i64 b.n :: bcs (blkS b)).toArray := by
 have e : bl.getLast? = some b := by rw [List.getLast?_eq_getElem?, hl]; exact hb
 unfold dgC dgN hLast
 rw [e]
def SVar (w : World) (p : Nat) (M : Lgr) : Prop := ∃ (oa : Option Addr) (on oc : Nat) (ba : Option Addr) (bn bc : Nat) (ta : Option Addr) (tn tc : Nat),Bk w p #[.int .i64 M.next,.slice oa on oc,.slice ba bn bc,.slice ta tn tc] 29 ∧ LgR w (fun k => k ≠ p) oa on oc ba bn bc ta tn tc M
set_option maxRecDepth 100000 in
set_option maxHeartbeats 12000000 in
theorem ledgerStays_walk (a0 : Option Addr) (n0 c0 : Nat) (l : List Stp) (a1 : Option Addr) (n1 c1 : Nat) (m : List Stp) (w : World) (hC : RC w) (h : IsD DSt w (fun _ => True) a0 n0 c0 l) (hm : IsD DSt w (fun _ => True) a1 n1 c1 m) :
 Calls Tryz.prog 5 #[.slice a0 n0 c0, .slice a1 n1 c1] w fun e w' => e = .returned (.bool true) ∧ Below w.heap.size w w' := by
 have hln := h.len
 have hlm := hm.len
 go_enter Tryz.func5, Tryz.ntmps5
 go_upto_region 3 with (go_at_call 13; refine (known14 w hC).mono ?_; rintro e w1 ⟨rfl, b1⟩)
 have HF1 := few14_is w1 _ a0 n0 c0 l (h.past b1)
 have HF2 := fun (w' : World) (hb : Below w1.heap.size w1 w') => few14_is w' _ a1 n1 c1 m ((hm.past b1).past hb)
 cases hfl : few14B l with
 | false =>
  rw [hfl] at HF1
  have HF := Lib.hid HF1
  clear HF1 HF2 hfl
  go_wp2_with (go_at_call 14; refine HF.out.mono ?_; rintro e w2 ⟨rfl, b2⟩)
  go_ret
  exact ⟨rfl, b1.trans (b2.mono b1.size)⟩
 | true =>
  rw [hfl] at HF1
  have HF := Lib.hid HF1
  obtain ⟨hn, hok⟩ := few14B_ok hfl
  clear HF1 hfl
  cases hfm : few14B m with
  | false =>
   simp only [hfm] at HF2
   clear hfm
   go_wp2_with (first
    | ((go_at_call 14); (with_reducible refine HF.out.mono ?_); (rintro e w2 ⟨rfl, b2⟩))
    | ((go_at_call 14); (with_reducible refine (HF2 _ b2).mono ?_); (rintro e w3 ⟨rfl, b3⟩)))
   go_ret
   exact ⟨rfl, b1.trans ((b2.trans (b3.mono b2.size)).mono b1.size)⟩
  | true =>
  simp only [hfm] at HF2
  obtain ⟨hn2, hokm⟩ := few14B_ok hfm
  clear hfm
  go_upto_region 5 with (first
   | ((go_at_call 14); (with_reducible refine HF.out.mono ?_); (rintro e w2 ⟨rfl, b2⟩))
   | ((go_at_call 14); (with_reducible refine (HF2 _ b2).mono ?_); (rintro e w3 ⟨rfl, b3⟩)))
  have B3 : Below w.heap.size w w3 := b1.trans ((b2.trans (b3.mono b2.size)).mono b1.size)
  clear HF HF2 b2 b3
  have HB0 := build_any w3 _ a0 n0 c0 l (h.past B3) (by omega) hok
  obtain ⟨k, hk, hI0⟩ := buildL_inv l hok
  have hCh0 := buildL_chain l hok
  unfold BuiltIs at HB0
  obtain ⟨M, hM⟩ : ∃ M, buildL l = M := ⟨_, rfl⟩
  rw [hM] at HB0 hI0 hCh0
  have HB := Lib.hid HB0
  have hnk := hI0.next
  clear HB0 hM
  have HBL : Hid (M.bl.length ≤ 40) := Lib.hid (by have := hI0.bl; omega)
  go_upto_region 6 with (first
   | (go_at_call 38; refine HB.out.mono ?_; rintro e w4 ⟨v,rfl,xa,xn,xc,ya,yn,yc,za,zn,zc,rfl,L3,b4⟩; rw [hnk]; have L4 := L3.imp (Q' := fun _ => True) (fun _ _ _ => trivial); have HO := Lib.hid (of14_any w4 (fun _ => True) (fun _ _ => trivial) (k : Int) xa xn xc ya yn yc za zn zc M hnk L4 (by have := L3.bl.len; have := HBL.out; omega)))
   | (go_at_call 27; refine HO.out.mono ?_; rintro e w5 ⟨v, rfl, oa, on, oc, ba, bn, bc, ta, tn, tc, rfl, L5, b5⟩; rw [hnk]))
  have B5 := (B3.trans (b4.mono B3.size)).trans (b5.mono (Nat.le_trans B3.size b4.size))
  clear HO HB b4 b5 L3 L4
  have BX : Below w5.heap.size w5 (w5.alloc (.cells #[.int .i64 (k : Int), .slice oa on oc, .slice ba bn bc, .slice ta tn tc] 29)) := (Below.refl _ _).alloc (Nat.le_refl _) _
  have PA : Bk (w5.alloc (.cells #[.int .i64 (k : Int),.slice oa on oc,.slice ba bn bc,.slice ta tn tc] 29)) w5.heap.size #[.int .i64 (k : Int),.slice oa on oc,.slice ba bn bc,.slice ta tn tc] 29 := Bk.new w5 _ _
  have LA := (L5).past BX
  have BW := B5.trans (BX.mono B5.size)
  have hgepa : w.heap.size ≤ w5.heap.size := B5.size
  obtain ⟨pa, hpa⟩ : ∃ x, w5.heap.size = x := ⟨_, rfl⟩
  rw [hpa] at PA hgepa
  simp only [hpa]
  clear BX hpa
  generalize w5.alloc (.cells #[.int .i64 (k : Int), .slice oa on oc, .slice ba bn bc, .slice ta tn tc] 29) = W at PA LA BW ⊢
  clear L5 B5
  obtain ⟨x0,x1,x2,x3⟩ : W.cell? ⟨pa,0,none⟩ = some (.int .i64 (k : Int)) ∧ W.cell? ⟨pa,1,none⟩ = some (.slice oa on oc) ∧ W.cell? ⟨pa,2,none⟩ = some (.slice ba bn bc) ∧ W.cell? ⟨pa,3,none⟩ = some (.slice ta tn tc) := ⟨PA.c rfl,PA.c rfl,PA.c rfl,PA.c rfl⟩
  have hbl := LA.bl.len
  have hD := digest_any W (hC.past BW) (k : Int) oa on oc ba bn bc ta tn tc M.bl LA.bl.flat (by have := HBL.out; omega)
  obtain ⟨DA, hDA⟩ : ∃ d, dgC M.bl = d := ⟨_, rfl⟩
  rw [hDA] at hD
  have HD2 : Hid (DA.size = 33) := Lib.hid (by rw [← hDA]; exact dgC_len _)
  have HD3 : Hid (DA.all (·.oneCell') = true) := Lib.hid (by rw [← hDA]; exact dgC_one _)
  have HST : ∀ w' : World,Sem.run Tryz.prog (storeCells ⟨w'.heap.size,0,none⟩ DA.toList) (w'.alloc (.cells #[.int .i64 0,.int .u8 0,.int .u8 0,.int .u8 0,.int .u8 0,.int .u8 0,.int .u8 0,.int .u8 0,.int .u8 0,.int .u8 0,.int .u8 0,.int .u8 0,.int .u8 0,.int .u8 0,.int .u8 0,.int .u8 0,.int .u8 0,.int .u8 0,.int .u8 0,.int .u8 0,.int .u8 0,.int .u8 0,.int .u8 0,.int .u8 0,.int .u8 0,.int .u8 0,.int .u8 0,.int .u8 0,.int .u8 0,.int .u8 0,.int .u8 0,.int .u8 0,.int .u8 0] 55)) = .ok () (w'.alloc (.cells DA 55)) := fun w' => run_storeCells_new w' 55 #[.int .i64 0,.int .u8 0,.int .u8 0,.int .u8 0,.int .u8 0,.int .u8 0,.int .u8 0,.int .u8 0,.int .u8 0,.int .u8 0,.int .u8 0,.int .u8 0,.int .u8 0,.int .u8 0,.int .u8 0,.int .u8 0,.int .u8 0,.int .u8 0,.int .u8 0,.int .u8 0,.int .u8 0,.int .u8 0,.int .u8 0,.int .u8 0,.int .u8 0,.int .u8 0,.int .u8 0,.int .u8 0,.int .u8 0,.int .u8 0,.int .u8 0,.int .u8 0,.int .u8 0] DA (by rw [HD2.out]; exact dig_size) (by rw [HD2.out]; rfl) HD3.out
  have hpa0 := PA.lt
  by_cases hz : bn = 0
  · rw [if_pos hz] at hD
    have HD := Lib.hid hD
    have hbi : (bn : Int) = 0 := by omega
    have HZz := Lib.hid hbi
    clear hD hz hbi
    go_upto_region 7 with (go_at_call 23; refine HD.out.mono ?_; rintro e w6 ⟨rfl, b6⟩)
    have B6 := BW.trans (b6.mono BW.size)
    have PA6 := PA.past b6
    have BX : Below w6.heap.size w6 (w6.alloc (.cells DA 55)) := (Below.refl _ _).alloc (Nat.le_refl _) _
    have PG : Bk (w6.alloc (.cells DA 55)) w6.heap.size DA 55 := Bk.new w6 _ _
    have PA2 := (PA6).past BX
    have BW2 := B6.trans (BX.mono B6.size)
    have hgepg : w.heap.size ≤ w6.heap.size := B6.size
    obtain ⟨pg, hpg⟩ : ∃ x, w6.heap.size = x := ⟨_, rfl⟩
    rw [hpg] at PG hgepg
    simp only [hpg]
    clear BX hpg
    generalize w6.alloc (.cells DA 55) = W2 at PG PA2 BW2 ⊢
    have e2 : W2.cell? ⟨pa, 2, none⟩ = some (.slice ba bn bc) := PA2.c rfl
    have e3 : ((bn : Int) == 0) = true := by rw [HZz.out]; rfl
    go_wp2_with fail
    go_ret
    exact ⟨rfl, BW2⟩
  · rw [if_neg hz] at hD
    have HD := Lib.hid hD
    obtain ⟨bm, hbm⟩ : ∃ m, bn = m + 1 := ⟨bn - 1, by omega⟩
    have HBM := Lib.hid hbm
    clear hD hz
    have hbmb : bm < M.bl.length := by omega
    clear hbm
    obtain ⟨b0, hb0⟩ : ∃ b, M.bl[bm]? = some b := ⟨M.bl[bm]'hbmb, List.getElem?_eq_getElem _⟩
    have hdl0 := dgC_last9 hb0 (by have := HBM.out; omega)
    rw [hDA] at hdl0
    have HDL := Lib.hid hdl0
    obtain ⟨t0, ht0⟩ : ∃ t, M.ts[bm]? = some t := ⟨M.ts[bm]'(by have := hCh0.len; omega), List.getElem?_eq_getElem _⟩
    have HN0 := Lib.hid (hCh0.at_ bm b0 t0 hb0 ht0).1
    clear hdl0 ht0 hDA
    go_upto_region 7 with (go_at_call 23; refine HD.out.mono ?_; rintro e w6 ⟨rfl, b6⟩)
    clear HD HST x0 x1 x2 x3
    have B6 := BW.trans (b6.mono BW.size)
    have PA6 := PA.past b6
    have LA6 := LA.past b6
    clear b6 PA LA BW hpa0
    have BX : Below w6.heap.size w6 (w6.alloc (.cells DA 55)) := (Below.refl _ _).alloc (Nat.le_refl _) _
    have PG : Bk (w6.alloc (.cells DA 55)) w6.heap.size DA 55 := Bk.new w6 _ _
    have PA2 := (PA6).past BX
    have LA2 := (LA6).past BX
    have BW2 := B6.trans (BX.mono B6.size)
    have hgepg : w.heap.size ≤ w6.heap.size := B6.size
    obtain ⟨pg, hpg⟩ : ∃ x, w6.heap.size = x := ⟨_, rfl⟩
    rw [hpg] at PG hgepg
    simp only [hpg]
    clear BX hpg
    generalize w6.alloc (.cells DA 55) = W2 at PG PA2 LA2 BW2 ⊢
    clear PA6 LA6 B6
    obtain ⟨x0,x1,x2,x3⟩ : W2.cell? ⟨pa,0,none⟩ = some (.int .i64 (k : Int)) ∧ W2.cell? ⟨pa,1,none⟩ = some (.slice oa on oc) ∧ W2.cell? ⟨pa,2,none⟩ = some (.slice ba bn bc) ∧ W2.cell? ⟨pa,3,none⟩ = some (.slice ta tn tc) := ⟨PA2.c rfl,PA2.c rfl,PA2.c rfl,PA2.c rfl⟩
    go_upto_region 11 with fail
    have hPGl := PG.lt
    clear x0 x1 x2 x3
    have BX : Below W2.heap.size W2 (W2.alloc (.cells #[.int .i64 (k : Int), .slice oa on oc, .slice ba bn bc, .slice ta tn tc] 29)) := (Below.refl _ _).alloc (Nat.le_refl _) _
    have PX : Bk (W2.alloc (.cells #[.int .i64 (k : Int),.slice oa on oc,.slice ba bn bc,.slice ta tn tc] 29)) W2.heap.size #[.int .i64 (k : Int),.slice oa on oc,.slice ba bn bc,.slice ta tn tc] 29 := Bk.new W2 _ _
    have PG3 := (PG).past BX
    have LX0 := (LA2).past BX
    have BW3 := BW2.trans (BX.mono BW2.size)
    have hgepx : w.heap.size ≤ W2.heap.size := BW2.size
    have hlt9 : pg < W2.heap.size := hPGl
    have hQ9 := LA2.imp (Q' := fun k => k ≠ W2.heap.size) (fun k hk _ e => by omega)
    have LX := hQ9.past BX
    obtain ⟨px, hpx⟩ : ∃ x, W2.heap.size = x := ⟨_, rfl⟩
    rw [hpx] at PX hgepx hlt9 LX
    simp only [hpx]
    clear BX hpx hQ9
    generalize W2.alloc (.cells #[.int .i64 (k : Int), .slice oa on oc, .slice ba bn bc, .slice ta tn tc] 29) = W3 at PX PG3 LX0 LX BW3 ⊢
    clear LA2 PA2 PG LX0
    have HBN := Lib.hid hbl
    clear hbl
    have hlpW := PX.lt
    have HK := fun a w' => within14_any a 4 w' (by omega) (by omega)
    have hB3 : Below w.heap.size w W3 := BW3
    have V0 : SVar W3 px M := ⟨_, _, _, _, _, _, _, _, _, by rw [hnk]; exact PX, LX⟩
    go_wp2_with fail
    go_loopw [10] (fun i wr => ∃ (jn : Nat) (Mj : Lgr) (kj : Nat),jn ≤ n1 ∧ i = .int .i64 (jn : Nat) ∧ SVar wr px Mj ∧ LInv kj Mj ∧ ChainB Mj ∧ Fore M Mj ∧ kj ≤ k + jn ∧ Below px W3 wr) (fun i _ => n1 - (intOf i).toNat)
    case atStart => exact ⟨0, M, k, Nat.zero_le _, rfl, V0, hI0, hCh0, Fore.refl _, Nat.le_refl _, Below.refl _ _⟩
    case round =>
     clear V0 PX LX
     obtain ⟨jn, Mj, kj, hj, rfl, ⟨ob, onb, obc, bb, bnb, bbc, tb, tnb, tbc, hX, hL⟩, hI, hCh, hFo, hkj, B2⟩ := hrel
     have hpW := hX.lt
     have hBw : Below w.heap.size w wr := hB3.trans (B2.mono hgepx)
     have hCr : RC wr := hC.past hBw
     by_cases hlt : jn < n1
     · have hlti : (jn : Int) < (n1 : Int) := by omega
       obtain ⟨x, hx⟩ : ∃ x, m[jn]? = some x := ⟨m[jn]'(by omega), List.getElem?_eq_getElem _⟩
       have hsx := hokm x (List.mem_of_getElem? hx)
       obtain ⟨gb, goff, bb0, rfl, hgl0, -, hcl, hr⟩ := hm.at hx
       obtain ⟨⟨sn, so, nm⟩, ⟨va, vn, vc⟩⟩ := bb0
       obtain ⟨⟨xi, xo, xt⟩, xl⟩ := x
       obtain ⟨hE, hr2⟩ := hr
       obtain ⟨rfl, rfl, rfl⟩ : sn = xi ∧ so = xo ∧ nm = xt := by simpa using hE
       have hxl : xl.length = vn := hr2.flat.len
       have hvn : vn ≤ 12 := by have := hsx.2; simp only at this; omega
       have hcl : ∀ k u, (ESt.f ((sn, so, nm), ⟨va, vn, vc⟩))[k]? = some u → w.cell? ⟨gb, goff + (jn * 4 + k), none⟩ = some u := hcl
       have hgl : gb < px := Nat.lt_of_lt_of_le hgl0 hgepx
       have y0' : w.cell? ⟨gb, goff + jn * 4, none⟩ = some (.int .i64 sn) := hcl 0 _ rfl
       have y1' : w.cell? ⟨gb, goff + jn * 4 + 1, none⟩ = some (.int .i64 so) := by have := hcl 1 _ rfl; rwa [← Nat.add_assoc] at this
       have y2' : w.cell? ⟨gb, goff + jn * 4 + 2, none⟩ = some (.string nm) := by have := hcl 2 _ rfl; rwa [← Nat.add_assoc] at this
       have y3' : w.cell? ⟨gb, goff + jn * 4 + 3, none⟩ = some (.slice va vn vc) := by have := hcl 3 _ rfl; rwa [← Nat.add_assoc] at this
       have y0 := (hBw.cell hgl0).trans y0'
       have y1 := (hBw.cell hgl0).trans y1'
       have y2 := (hBw.cell hgl0).trans y2'
       have y3 := (hBw.cell hgl0).trans y3'
       have hnk := hI.next
       clear hcl y0' y1' y2' y3' hx hgl0
       obtain ⟨z, hz⟩ : ∃ z, wth14 sn 4 = z := ⟨_, rfl⟩
       have HKz := HK sn
       rw [hz] at HKz
       have HTX : Hid (TxOk ((kj : Int), chgs ((sn, so, nm), xl))) := Lib.hid (chgs_ok _ hsx _)
       by_cases h3 : z = 3
       · clear hz
         subst h3
         have HCl := Lib.hid (close_any wr hCr (fun k => k ≠ px) (kj : Int) ob onb obc bb bnb bbc tb tnb tbc Mj hnk hL (hI.ok (by omega)))
         rw [hnk] at hX
         have hcn : (cls Mj).next = (kj : Int) := hI.cls.next
         obtain ⟨c0,c1,c2,c3⟩ : wr.cell? ⟨px,0,none⟩ = some (.int .i64 (kj : Int)) ∧ wr.cell? ⟨px,1,none⟩ = some (.slice ob onb obc) ∧ wr.cell? ⟨px,2,none⟩ = some (.slice bb bnb bbc) ∧ wr.cell? ⟨px,3,none⟩ = some (.slice tb tnb tbc) := ⟨hX.c rfl,hX.c rfl,hX.c rfl,hX.c rfl⟩
         go_wp2_with (first
          | (go_at_call 16; refine (HKz _).mono ?_; rintro e w9 ⟨rfl, rfl⟩)
          | (go_at_call 17; refine HCl.out.mono ?_; rintro e w7 ⟨v7,rfl,oa7,on7,oc7,ba7,bn7,bc7,ta7,tn7,tc7,rfl,L7,b7⟩; rw [hcn]; have P7 := hX.past b7; obtain ⟨d0,d1,d2,d3⟩ : w7.cell? ⟨px,0,none⟩ = some (.int .i64 (kj : Int)) ∧ w7.cell? ⟨px,1,none⟩ = some (.slice ob onb obc) ∧ w7.cell? ⟨px,2,none⟩ = some (.slice bb bnb bbc) ∧ w7.cell? ⟨px,3,none⟩ = some (.slice tb tnb tbc) := ⟨P7.c rfl,P7.c rfl,P7.c rfl,P7.c rfl⟩; obtain ⟨f0,f1,f2,f3⟩ : w7.frozen? ⟨px,0,none⟩ = false ∧ w7.frozen? ⟨px,1,none⟩ = false ∧ w7.frozen? ⟨px,2,none⟩ = false ∧ w7.frozen? ⟨px,3,none⟩ = false := ⟨free_blk P7,free_blk P7,free_blk P7,free_blk P7⟩))
         have G8 : w7.grownBy ((((w7.setCell ⟨px,0,none⟩ (.int .i64 (kj : Int))).setCell ⟨px,1,none⟩ (.slice oa7 on7 oc7)).setCell ⟨px,2,none⟩ (.slice ba7 bn7 bc7)).setCell ⟨px,3,none⟩ (.slice ta7 tn7 tc7)) (some px) := grown_cell (grown_cell (grown_cell (grown_cell (grown_self w7 px) _ _) _ _) _ _) _ _
         have X8 := lg_all P7 (.int .i64 (kj : Int)) (.slice oa7 on7 oc7) (.slice ba7 bn7 bc7) (.slice ta7 tn7 tc7)
         have L8 := (L7.imp (Q' := fun k => k ≠ px) (fun k _ hk e => by have h9 : wr.heap.size ≤ k := hk; omega)).grown G8 (fun h => h rfl)
         have B8 : Below px W3 ((((w7.setCell ⟨px,0,none⟩ (.int .i64 (kj : Int))).setCell ⟨px,1,none⟩ (.slice oa7 on7 oc7)).setCell ⟨px,2,none⟩ (.slice ba7 bn7 bc7)).setCell ⟨px,3,none⟩ (.slice ta7 tn7 tc7)) := (B2.trans (b7.mono (Nat.le_of_lt hpW))).grown G8 (Nat.le_of_lt P7.lt) (fun z hz => by cases hz; exact Nat.le_refl _)
         go_roundw
         case rel => exact ⟨jn + 1,cls Mj,kj,by omega,by go_num,⟨_,_,_,_,_,_,_,_,_,by rw [hcn]; exact X8,L8⟩,hI.cls,hCh.cls (Nat.le_of_lt hI.op),hFo.trans (Fore.cls _),by omega,B8⟩
         case measure => simp [intOf]; omega
       · have hbe : (z == 3) = false := by simpa using h3
         go_upto_region 16 with (go_at_call 16; refine (HKz _).mono ?_; rintro e w9 ⟨rfl, rfl⟩)
         try simp only [hbe]
         have hB0 : px ≤ wr.heap.size := Nat.le_of_lt hpW
         have HCg0 := fun (w' : World) (b : Below w.heap.size w w') => changes_any w' _ sn so nm va vn vc xl (hr2.past b) hvn
         have HAd0 := fun (w' : World) (hC' : RC w') (ca : Option Addr) (cn cc : Nat) (h1 : LgR w' (fun k => k ≠ px) ob onb obc bb bnb bbc tb tnb tbc Mj) (h2 : IsD DC w' (fun k => k ≠ px) ca cn cc (chgs ((sn,so,nm),xl))) => add_any w' hC' (fun k => k ≠ px) (kj : Int) ob onb obc bb bnb bbc tb tnb tbc ca cn cc (chgs ((sn,so,nm),xl)) Mj hnk (by omega) (by omega) h1 (hI.ok (by omega)) HTX.out h2
         obtain ⟨sp, hsp⟩ : ∃ s : Stp, ((sn, so, nm), xl) = s := ⟨_, rfl⟩
         simp only [hsp] at HCg0 HAd0
         rw [hsp] at HTX
         have hn2 : (addL Mj (chgs sp)).next = (kj : Int) + 1 := by rw [addL_next', hnk]
         rw [hnk] at hX
         obtain ⟨nx2, hnx2⟩ : ∃ x, (kj : Int) + 1 = x := ⟨_, rfl⟩
         have HNX2 : Hid ((addL Mj (chgs sp)).next = nx2) := Lib.hid (by rw [hn2]; exact hnx2)
         obtain ⟨nx, hnx⟩ : ∃ x, (kj : Int) = x := ⟨_, rfl⟩
         rw [hnx] at hX
         simp only [hnx] at HAd0
         have HBw := fun (w' : World) (hb : Below px wr.drew w') => (show Below w.heap.size w w' from (hB3.trans ((B2.trans ((Below.refl _ _).drew.trans hb)).mono hgepx)))
         have HCg : ∀ (w' : World) (hb : Below px wr.drew w'),Calls Tryz.prog 20 #[.agg #[.int .i64 sn,.int .i64 so,.string nm,.slice va vn vc]] w' (ChIs w' w'.heap.size sp) := fun w' hb => HCg0 w' (HBw w' hb)
         have HAd : ∀ (w' : World) (hb : Below px wr.drew w') (ca : Option Addr) (cn cc : Nat) (h1 : LgR w' (fun k => k ≠ px) ob onb obc bb bnb bbc tb tnb tbc Mj) (h2 : IsD DC w' (fun k => k ≠ px) ca cn cc (chgs sp)),Calls Tryz.prog 19 #[.agg #[.int .i64 nx,.slice ob onb obc,.slice bb bnb bbc,.slice tb tnb tbc],.slice ca cn cc] w' (AddIs w' nx Mj cn (chgs sp)) := fun w' hb ca cn cc h1 h2 => HAd0 w' (hC.past (HBw w' hb)) ca cn cc h1 h2
         clear HCg0 HAd0 hsp hn2 hnx2 hbe h3 hz HKz HBw
         refine region_inv (LSt16 px px nx ob onb obc bb bnb bbc tb tnb tbc n1 c1 gb goff jn sn so nm va vn vc nx2 Mj sp) (by kernel_rfl) (by kernel_rfl) ?_ ?_ ?_
         · exact ⟨false,false,false,false,false,false,false,false,false,false,false,u60,u61,u62,u63,u64,u65,u66,u59,u67,u68,none,0,0,none,0,0,none,0,0,none,0,0,none,0,rfl,(by go_simp),Below.refl _ _,nf2,nf2,nf2,nf2,nf2,nf2,nf2,nf2,nf2,nf2,(fun h1 => hX.past (Below.refl _ _).drew),(fun h1 => hL.past (Below.refl _ _).drew),nf2,nf2,nf2,nf2,nf2,nf2,nf2,nf2,nf2,nf2,nf2⟩
         · refine ⟨?_, ?_, ?_, ?_, ?_, ?_, ?_, ?_, ?_, ?_, ?_, trivial⟩
           all_goals rintro L a w ⟨b0,b1,b2,b3,b4,b5,b6,b7,b8,b9,b10,x60,x61,x62,x63,x64,x65,x66,x59,x67,x68,ca,cn7,cc7,oa7,on7,oc7,ba7,bn7,bc7,ta7,tn7,tc7,xa,xc,rfl,rfl,hb,cd0,cd1,cd2,cd3,cd4,cd5,cd6,cd7,cd8,cd9,f_x,f_l,f_d,f_l2,f_s,f_q6,f_q0,w_6_5,w_7_5,w_7_6,w_8_6,w_9_5,w_9_6⟩ hf hd
           · have hf' : b0 = false := hf
             subst hf'
             clear hf hd
             try simp only [setIfInBounds_toArray, set_cons_zero, set_cons_succ]
             have e_x : b10 = false := by cases hq : b10 with | false => rfl | true => exact absurd (f_q0.out hq) (by simp)
             have W_x := f_x.out e_x
             have z0 : w.cell? ⟨px, 0, none⟩ = some (.int .i64 nx) := W_x.c rfl
             have z1 : w.cell? ⟨px, 1, none⟩ = some (.slice ob onb obc) := W_x.c rfl
             have z2 : w.cell? ⟨px, 2, none⟩ = some (.slice bb bnb bbc) := W_x.c rfl
             have z3 : w.cell? ⟨px, 3, none⟩ = some (.slice tb tnb tbc) := W_x.c rfl
             intro K hK
             rw [if_pos (by rfl)]
             go_simp
             exact hK.out _ _ ⟨true,b1,b2,b3,b4,b5,b6,b7,b8,b9,b10,(.agg #[.int .i64 nx,.slice ob onb obc,.slice bb bnb bbc,.slice tb tnb tbc]),x61,x62,x63,x64,x65,x66,x59,x67,x68,ca,cn7,cc7,oa7,on7,oc7,ba7,bn7,bc7,ta7,tn7,tc7,xa,xc,(by go_simp),(by go_simp),hb,rf,cd1,cd2,cd3,cd4,cd5,cd6,cd7,cd8,cd9,f_x,f_l,f_d,f_l2,f_s,f_q6,rf,w_6_5,w_7_5,w_7_6,w_8_6,w_9_5,w_9_6⟩
           · have hf' : b1 = false := hf
             subst hf'
             clear hf hd
             try simp only [setIfInBounds_toArray, set_cons_zero, set_cons_succ]
             intro K hK
             rw [if_pos (by rfl)]
             go_simp
             exact hK.out _ _ ⟨b0,true,b2,b3,b4,b5,b6,b7,b8,b9,b10,x60,(.slice (some ⟨gb,goff,none⟩) n1 c1),x62,x63,x64,x65,x66,x59,x67,x68,ca,cn7,cc7,oa7,on7,oc7,ba7,bn7,bc7,ta7,tn7,tc7,xa,xc,(by go_simp),(by go_simp),hb,cd0,rf,cd2,cd3,cd4,cd5,cd6,cd7,cd8,cd9,f_x,f_l,f_d,f_l2,f_s,f_q6,f_q0,w_6_5,w_7_5,w_7_6,w_8_6,w_9_5,w_9_6⟩
           · have hf' : b2 = false := hf
             subst hf'
             clear hf hd
             try simp only [setIfInBounds_toArray, set_cons_zero, set_cons_succ]
             intro K hK
             rw [if_pos (by rfl)]
             go_simp
             exact hK.out _ _ ⟨b0,b1,true,b3,b4,b5,b6,b7,b8,b9,b10,x60,x61,(.int .i64 (jn : Nat)),x63,x64,x65,x66,x59,x67,x68,ca,cn7,cc7,oa7,on7,oc7,ba7,bn7,bc7,ta7,tn7,tc7,xa,xc,(by go_simp),(by go_simp),hb,cd0,cd1,rf,cd3,cd4,cd5,cd6,cd7,cd8,cd9,f_x,f_l,f_d,f_l2,f_s,f_q6,f_q0,w_6_5,w_7_5,w_7_6,w_8_6,w_9_5,w_9_6⟩
           · have hf' : b3 = false := hf
             subst hf'
             have d1 : b1 = true := hd ⟨1, .data⟩ (by simp) rfl
             subst d1
             have d2 : b2 = true := hd ⟨2, .data⟩ (by simp) rfl
             subst d2
             obtain rfl := cd1.out rfl
             obtain rfl := cd2.out rfl
             clear hf hd
             try simp only [setIfInBounds_toArray, set_cons_zero, set_cons_succ]
             intro K hK
             rw [if_pos (by rfl)]
             go_simp
             exact hK.out _ _ ⟨b0,true,true,true,b4,b5,b6,b7,b8,b9,b10,x60,.slice (some ⟨gb,goff,none⟩) n1 c1,.int .i64 (jn : Nat),(.pointer (some ⟨gb,goff + jn * 4,none⟩)),x64,x65,x66,x59,x67,x68,ca,cn7,cc7,oa7,on7,oc7,ba7,bn7,bc7,ta7,tn7,tc7,xa,xc,(by go_simp),(by go_simp),hb,cd0,rf,rf,rf,cd4,cd5,cd6,cd7,cd8,cd9,f_x,f_l,f_d,f_l2,f_s,f_q6,f_q0,w_6_5,w_7_5,w_7_6,w_8_6,w_9_5,w_9_6⟩
           · have hf' : b4 = false := hf
             subst hf'
             have d3 : b3 = true := hd ⟨3, .data⟩ (by simp) rfl
             subst d3
             obtain rfl := cd3.out rfl
             clear hf hd
             try simp only [setIfInBounds_toArray, set_cons_zero, set_cons_succ]
             have z0 := (hb.cell hgl).trans y0
             have z1 := (hb.cell hgl).trans y1
             have z2 := (hb.cell hgl).trans y2
             have z3 := (hb.cell hgl).trans y3
             intro K hK
             rw [if_pos (by rfl)]
             go_simp
             exact hK.out _ _ ⟨b0,b1,b2,true,true,b5,b6,b7,b8,b9,b10,x60,x61,x62,.pointer (some ⟨gb,goff + jn * 4,none⟩),(.agg #[.int .i64 sn,.int .i64 so,.string nm,.slice va vn vc]),x65,x66,x59,x67,x68,ca,cn7,cc7,oa7,on7,oc7,ba7,bn7,bc7,ta7,tn7,tc7,xa,xc,(by go_simp),(by go_simp),hb,cd0,cd1,cd2,rf,rf,cd5,cd6,cd7,cd8,cd9,f_x,f_l,f_d,f_l2,f_s,f_q6,f_q0,w_6_5,w_7_5,w_7_6,w_8_6,w_9_5,w_9_6⟩
           · have hf' : b5 = false := hf
             subst hf'
             have d4 : b4 = true := hd ⟨4, .data⟩ (by simp) rfl
             subst d4
             obtain rfl := cd4.out rfl
             clear hf hd
             try simp only [setIfInBounds_toArray, set_cons_zero, set_cons_succ]
             intro K hK
             rw [if_pos (by rfl)]
             go_simp
             go_at_call 20
             refine (HCg _ hb).mono ?_
             rintro e w' ⟨a9, n9, c9, rfl, d9, bx⟩
             have e_6 : b6 = false := by cases hq : b6 with | false => rfl | true => exact absurd (w_6_5.out hq) (by simp)
             subst e_6
             have e_7 : b7 = false := by cases hq : b7 with | false => rfl | true => exact absurd (w_7_5.out hq) (by simp)
             subst e_7
             have e_9 : b9 = false := by cases hq : b9 with | false => rfl | true => exact absurd (w_9_5.out hq) (by simp)
             subst e_9
             exact hK.out _ _ ⟨b0,b1,b2,b3,true,true,false,false,b8,false,b10,x60,x61,x62,x63,.agg #[.int .i64 sn,.int .i64 so,.string nm,.slice va vn vc],(.slice a9 n9 c9),x66,x59,x67,x68,a9,n9,c9,oa7,on7,oc7,ba7,bn7,bc7,ta7,tn7,tc7,xa,xc,(by go_simp),(by go_simp),hb.trans (bx.mono (Nat.le_trans hB0 hb.size)),cd0,cd1,cd2,cd3,rf,rf,nf2,nf2,cd8,nf2,(fun h1 => (f_x.out h1).past bx),(fun h1 => (f_l.out h1).past bx),(fun _ _ => d9.imp (fun k _ hk e => absurd (Nat.le_trans (Nat.le_trans hpW hb.size) hk) (by subst e; exact Nat.not_succ_le_self _))),(fun h0 => (f_l2.out h0).past bx),(fun h0 => (f_s.out h0).past bx),f_q6,f_q0,rf,rf,w_7_6,w_8_6,rf,w_9_6⟩
           · have hf' : b6 = false := hf
             subst hf'
             have d0 : b0 = true := hd ⟨0, .data⟩ (by simp) rfl
             subst d0
             have d5 : b5 = true := hd ⟨5, .data⟩ (by simp) rfl
             subst d5
             obtain rfl := cd0.out rfl
             obtain rfl := cd5.out rfl
             clear hf hd
             have W_l := f_l.out rfl
             have W_d := f_d.out rfl rfl
             try simp only [setIfInBounds_toArray, set_cons_zero, set_cons_succ]
             have e_x : b10 = false := by cases hq : b10 with | false => rfl | true => exact absurd (f_q6.out hq) (by simp)
             have W_x := f_x.out e_x
             intro K hK
             rw [if_pos (by rfl)]
             go_simp
             have hlx := W_x.lt
             go_at_call 19
             refine (HAd _ hb _ _ _ W_l W_d).mono ?_
             rintro e w' ⟨k0', v', xa', xc', rfl, ⟨oa7', on7', oc7', ba7', bn7', bc7', ta7', tn7', tc7', rfl, l9⟩, x9', bx⟩
             rw [HNX2.out]
             have e_7 : b7 = false := by cases hq : b7 with | false => rfl | true => exact absurd (w_7_6.out hq) (by simp)
             subst e_7
             have e_8 : b8 = false := by cases hq : b8 with | false => rfl | true => exact absurd (w_8_6.out hq) (by simp)
             subst e_8
             have e_9 : b9 = false := by cases hq : b9 with | false => rfl | true => exact absurd (w_9_6.out hq) (by simp)
             subst e_9
             exact hK.out _ _ ⟨true,b1,b2,b3,b4,true,true,false,false,false,b10,.agg #[.int .i64 nx,.slice ob onb obc,.slice bb bnb bbc,.slice tb tnb tbc],x61,x62,x63,x64,.slice ca cn7 cc7,(.tuple #[.agg #[.int .i64 nx2,.slice oa7' on7' oc7',.slice ba7' bn7' bc7',.slice ta7' tn7' tc7'],.agg #[.int .i64 nx,.slice xa' cn7 xc']]),x59,x67,x68,ca,cn7,cc7,oa7',on7',oc7',ba7',bn7',bc7',ta7',tn7',tc7',xa',xc',(by go_simp),(by go_simp),hb.trans (bx.mono (Nat.le_trans hB0 hb.size)),rf,cd1,cd2,cd3,cd4,rf,rf,nf2,nf2,nf2,(fun h1 => (f_x.out h1).past bx),nf2,(fun _ h => by cases h),(fun _ => l9.imp (fun k _ hk e => absurd (Nat.lt_of_lt_of_le hlx hk.1) (by subst e; exact Nat.lt_irrefl _))),(fun h0 => absurd (f_q6.out h0) (by simp)),rf,f_q0,rf,rf,rf,rf,rf,rf⟩
           · have hf' : b7 = false := hf
             subst hf'
             have d6 : b6 = true := hd ⟨6, .data⟩ (by simp) rfl
             subst d6
             obtain rfl := cd6.out rfl
             clear hf hd
             have W_l2 := f_l2.out rfl
             try simp only [setIfInBounds_toArray, set_cons_zero, set_cons_succ]
             intro K hK
             rw [if_pos (by rfl)]
             go_simp
             exact hK.out _ _ ⟨b0,b1,b2,b3,b4,b5,true,true,b8,b9,b10,x60,x61,x62,x63,x64,x65,.tuple #[.agg #[.int .i64 nx2,.slice oa7 on7 oc7,.slice ba7 bn7 bc7,.slice ta7 tn7 tc7],.agg #[.int .i64 nx,.slice xa cn7 xc]],(.tuple #[.agg #[.int .i64 nx2,.slice oa7 on7 oc7,.slice ba7 bn7 bc7,.slice ta7 tn7 tc7],.agg #[.int .i64 nx,.slice xa cn7 xc]]),x67,x68,ca,cn7,cc7,oa7,on7,oc7,ba7,bn7,bc7,ta7,tn7,tc7,xa,xc,(by go_simp),(by go_simp),hb,cd0,cd1,cd2,cd3,cd4,cd5,rf,rf,cd8,cd9,f_x,nf2,(fun _ h => by cases h),f_l2,f_s,f_q6,f_q0,w_6_5,(fun _ => w_6_5.out rfl),rf,rf,w_9_5,rf⟩
           · have hf' : b8 = false := hf
             subst hf'
             have d7 : b7 = true := hd ⟨7, .data⟩ (by simp) rfl
             subst d7
             obtain rfl := cd7.out rfl
             clear hf hd
             try simp only [setIfInBounds_toArray, set_cons_zero, set_cons_succ]
             intro K hK
             rw [if_pos (by rfl)]
             go_simp
             exact hK.out _ _ ⟨b0,b1,b2,b3,b4,b5,b6,true,true,b9,b10,x60,x61,x62,x63,x64,x65,x66,.tuple #[.agg #[.int .i64 nx2,.slice oa7 on7 oc7,.slice ba7 bn7 bc7,.slice ta7 tn7 tc7],.agg #[.int .i64 nx,.slice xa cn7 xc]],(.agg #[.int .i64 nx2,.slice oa7 on7 oc7,.slice ba7 bn7 bc7,.slice ta7 tn7 tc7]),x68,ca,cn7,cc7,oa7,on7,oc7,ba7,bn7,bc7,ta7,tn7,tc7,xa,xc,(by go_simp),(by go_simp),hb,cd0,cd1,cd2,cd3,cd4,cd5,cd6,rf,rf,cd9,f_x,f_l,f_d,f_l2,f_s,f_q6,f_q0,w_6_5,w_7_5,w_7_6,(fun _ => w_7_6.out rfl),w_9_5,w_9_6⟩
           · have hf' : b9 = false := hf
             subst hf'
             have d7 : b7 = true := hd ⟨7, .data⟩ (by simp) rfl
             subst d7
             obtain rfl := cd7.out rfl
             clear hf hd
             try simp only [setIfInBounds_toArray, set_cons_zero, set_cons_succ]
             intro K hK
             rw [if_pos (by rfl)]
             go_simp
             exact hK.out _ _ ⟨b0,b1,b2,b3,b4,b5,b6,true,b8,true,b10,x60,x61,x62,x63,x64,x65,x66,.tuple #[.agg #[.int .i64 nx2,.slice oa7 on7 oc7,.slice ba7 bn7 bc7,.slice ta7 tn7 tc7],.agg #[.int .i64 nx,.slice xa cn7 xc]],x67,(.agg #[.int .i64 nx,.slice xa cn7 xc]),ca,cn7,cc7,oa7,on7,oc7,ba7,bn7,bc7,ta7,tn7,tc7,xa,xc,(by go_simp),(by go_simp),hb,cd0,cd1,cd2,cd3,cd4,cd5,cd6,rf,cd8,rf,f_x,f_l,f_d,f_l2,f_s,f_q6,f_q0,w_6_5,w_7_5,w_7_6,w_8_6,(fun _ => w_7_5.out rfl),(fun _ => w_7_6.out rfl)⟩
           · have hf' : b10 = false := hf
             subst hf'
             have d8 : b8 = true := hd ⟨8, .data⟩ (by simp) rfl
             subst d8
             have d6 : b6 = true := hd ⟨6, .chain⟩ (by simp) rfl
             subst d6
             have d0 : b0 = true := hd ⟨0, .phase⟩ (by simp) rfl
             subst d0
             have d1 : b1 = true := hd ⟨1, .phase⟩ (by simp) rfl
             subst d1
             have d2 : b2 = true := hd ⟨2, .phase⟩ (by simp) rfl
             subst d2
             have d3 : b3 = true := hd ⟨3, .phase⟩ (by simp) rfl
             subst d3
             have d4 : b4 = true := hd ⟨4, .phase⟩ (by simp) rfl
             subst d4
             have d5 : b5 = true := hd ⟨5, .phase⟩ (by simp) rfl
             subst d5
             have d7 : b7 = true := hd ⟨7, .phase⟩ (by simp) rfl
             subst d7
             obtain rfl := cd8.out rfl
             obtain rfl := cd6.out rfl
             obtain rfl := cd0.out rfl
             obtain rfl := cd1.out rfl
             obtain rfl := cd2.out rfl
             obtain rfl := cd3.out rfl
             obtain rfl := cd4.out rfl
             obtain rfl := cd5.out rfl
             obtain rfl := cd7.out rfl
             clear hf hd
             have W_x := f_x.out rfl
             have W_l2 := f_l2.out rfl
             try simp only [setIfInBounds_toArray, set_cons_zero, set_cons_succ]
             have z0 : w.cell? ⟨px, 0, none⟩ = some (.int .i64 nx) := W_x.c rfl
             have f0 := free_blk (i := 0) W_x
             have z1 : w.cell? ⟨px, 1, none⟩ = some (.slice ob onb obc) := W_x.c rfl
             have f1 := free_blk (i := 1) W_x
             have z2 : w.cell? ⟨px, 2, none⟩ = some (.slice bb bnb bbc) := W_x.c rfl
             have f2 := free_blk (i := 2) W_x
             have z3 : w.cell? ⟨px, 3, none⟩ = some (.slice tb tnb tbc) := W_x.c rfl
             have f3 := free_blk (i := 3) W_x
             intro K hK
             rw [if_pos (by rfl)]
             go_simp
             have gz9 := grown_cell (grown_cell (grown_cell (grown_cell (grown_self w px) 0 (.int .i64 nx2)) 1 (.slice oa7 on7 oc7)) 2 (.slice ba7 bn7 bc7)) 3 (.slice ta7 tn7 tc7)
             have hb2 := hb.grown gz9 (Nat.le_trans hB0 hb.size) (fun z hz => by cases hz; exact Nat.le_refl _)
             exact hK.out _ _ ⟨true,true,true,true,true,true,true,true,true,b9,true,.agg #[.int .i64 nx,.slice ob onb obc,.slice bb bnb bbc,.slice tb tnb tbc],.slice (some ⟨gb,goff,none⟩) n1 c1,.int .i64 (jn : Nat),.pointer (some ⟨gb,goff + jn * 4,none⟩),.agg #[.int .i64 sn,.int .i64 so,.string nm,.slice va vn vc],.slice ca cn7 cc7,.tuple #[.agg #[.int .i64 nx2,.slice oa7 on7 oc7,.slice ba7 bn7 bc7,.slice ta7 tn7 tc7],.agg #[.int .i64 nx,.slice xa cn7 xc]],.tuple #[.agg #[.int .i64 nx2,.slice oa7 on7 oc7,.slice ba7 bn7 bc7,.slice ta7 tn7 tc7],.agg #[.int .i64 nx,.slice xa cn7 xc]],.agg #[.int .i64 nx2,.slice oa7 on7 oc7,.slice ba7 bn7 bc7,.slice ta7 tn7 tc7],x68,ca,cn7,cc7,oa7,on7,oc7,ba7,bn7,bc7,ta7,tn7,tc7,xa,xc,(by go_simp),(by go_simp),hb2,rf,rf,rf,rf,rf,rf,rf,rf,rf,cd9,nf2,nf2,(fun _ h => by cases h),(fun h0 => ((f_l2.out h0)).grown gz9 (fun h => h rfl)),(fun _ => lg_all W_x _ _ _ _),rf,rf,rf,rf,rf,rf,rf,rf⟩
         · rintro act V ⟨b0,b1,b2,b3,b4,b5,b6,b7,b8,b9,b10,x60,x61,x62,x63,x64,x65,x66,x59,x67,x68,ca,cn7,cc7,oa7,on7,oc7,ba7,bn7,bc7,ta7,tn7,tc7,xa,xc,hL,rfl,hb,cd0,cd1,cd2,cd3,cd4,cd5,cd6,cd7,cd8,cd9,f_x,f_l,f_d,f_l2,f_s,f_q6,f_q0,w_6_5,w_7_5,w_7_6,w_8_6,w_9_5,w_9_6⟩
           have hL' : [true, true, true, true, true, true, true, true, true, true, true] = [b0, b1, b2, b3, b4, b5, b6, b7, b8, b9, b10] := congrArg Array.toList hL
           simp only [List.cons.injEq, and_true] at hL'
           obtain ⟨rfl, rfl, rfl, rfl, rfl, rfl, rfl, rfl, rfl, rfl, rfl⟩ := hL'
           obtain rfl := cd0.out rfl
           obtain rfl := cd1.out rfl
           obtain rfl := cd2.out rfl
           obtain rfl := cd3.out rfl
           obtain rfl := cd4.out rfl
           obtain rfl := cd5.out rfl
           obtain rfl := cd6.out rfl
           obtain rfl := cd7.out rfl
           obtain rfl := cd8.out rfl
           obtain rfl := cd9.out rfl
           have W_l2 := f_l2.out rfl
           have W_s := f_s.out rfl
           have W_q6 := f_q6.out rfl
           have W_q0 := f_q0.out rfl
           clear hL f_x f_l f_d f_l2 f_s f_q6 f_q0 cd0 cd1 cd2 cd3 cd4 cd5 cd6 cd7 cd8 cd9 w_6_5 w_7_5 w_7_6 w_8_6 w_9_5 w_9_6
           simp only [setIfInBounds_toArray, set_cons_zero, set_cons_succ]
           have BV : Below px W3 V := B2.trans ((Below.refl _ _).drew.trans hb)
           have X9 := W_s
           have L9 := W_l2
           clear W_s W_l2 hb
           go_wp2_with fail
           go_roundw
           case rel => exact ⟨jn + 1,addL Mj (chgs sp),kj + 1,by omega,by go_num,⟨_,_,_,_,_,_,_,_,_,by rw [HNX2.out]; exact X9,L9⟩,hI.add _ HTX.out,hCh.add hI.op _,hFo.trans (Fore.add _ _),by omega,BV⟩
           case measure => simp [intOf]; omega
     · have hlti : ¬ (jn : Int) < (n1 : Int) := by omega
       have hnk2 := hI.next
       rw [hnk2] at hX
       have hbl2 := hL.bl.len
       obtain ⟨gv, gvo, rfl, hgv, hcv⟩ := blk_in hL.bl.flat (show Mj.bl[bm]? = some b0 by rw [hFo.2 bm hbmb]; exact hb0)
       have PGr := PG3.past9 B2 hlt9
       have hpx := hX.lt
       have hpg := PGr.lt
       obtain ⟨r, hr⟩ : ∃ r, wr.heap.size = r := ⟨_, rfl⟩
       have HR := Lib.hid hr
       have hB0 : r ≤ wr.heap.size := Nat.le_of_eq hr.symm
       rw [hr] at hpx hpg hgv
       have cx2 : wr.drew.cell? ⟨px, 2, none⟩ = some (.slice (some ⟨gv, gvo, none⟩) bnb bbc) := hX.c rfl
       have cx2' : wr.cell? ⟨px, 2, none⟩ = some (.slice (some ⟨gv, gvo, none⟩) bnb bbc) := hX.c rfl
       have cg0 : wr.drew.cell? ⟨pg, 0, none⟩ = some (.int .i64 (bn : Nat)) := by
        have h9 : wr.cell? ⟨pg, 0, none⟩ = some (.int .i64 b0.n) := PGr.c (by rw [HDL.out]; rfl)
        rw [HN0.out, show ((bm : Int) + 1) = (bn : Nat) by have := HBM.out; omega] at h9
        exact h9
       have HHw0 := fun (w' : World) (hb : Below r wr.drew w') => lhash_any w' (hCr.past (show Below wr.heap.size wr w' by rw [HR.out]; exact (Below.refl _ _).drew.trans hb)) b0
       have qH := equal_hash _ _ (blkS_len b0) (blkS_len b0)
       simp only [beq_self_eq_true] at qH
       have HSB : Hid (IntKind.i64.wrap ((bn : Int) - 1) = (bm : Nat)) := Lib.hid (by have := HBM.out; have := HBL.out; have := HBN.out; rw [IntWalk.i64_in _ (by omega)]; omega)
       have hbb : ¬ ((bnb : Int) < (bn : Int)) := by have := hFo.1; have := HBN.out; omega
       have hbmi : (bm : Int) < (bnb : Int) := by have := hFo.1; omega
       obtain ⟨HA, hHA⟩ : ∃ x, (bcs (blkS b0)).toArray = x := ⟨_, rfl⟩
       obtain ⟨BA, hBA⟩ : ∃ x, b0.cs.toArray = x := ⟨_, rfl⟩
       have HBS : Hid (BA.toList.length = 66) := Lib.hid (by rw [← hBA]; simp [Blk.cs_len])
       have HAS : Hid (HA.toList.length = 32) := Lib.hid (by rw [← hHA]; simp [bcs_length, blkS_len])
       have hcg : ∀ (q : Nat) (v : Value), HA.toList[q]? = some v → wr.cell? ((⟨pg, 1, none⟩ : Addr).add q) = some v := fun q v hv => by
        rw [Addr.add_lit]
        refine PGr.c ?_
        rw [HDL.out, Nat.add_comm]
        rw [← hHA] at hv
        simpa using hv
       have hcb : b0.cs = BA.toList := by rw [← hBA]
       rw [hcb] at hcv
       simp only [hHA] at HHw0 qH
       simp only [hBA] at HHw0
       have HV : Hid (∀ (w' : World) (hb : Below r wr.drew w') (q : Nat) (v : Value),BA.toList[q]? = some v → w'.cell? ((⟨gv,gvo + bm * 66,none⟩ : Addr).add q) = some v) := Lib.hid fun w' hb q v hv => by
        have h9 := hcv q v hv
        rw [Addr.add_lit] at h9 ⊢
        exact (hb.cell hgv).trans h9
       have HG1 : Hid (∀ (w' : World) (hb : Below r wr.drew w') (q : Nat) (v : Value), HA.toList[q]? = some v → w'.cell? ((⟨pg, 1, none⟩ : Addr).add q) = some v) := Lib.hid fun w' hb q v hv => by
        have h9 := hcg q v hv
        rw [Addr.add_lit] at h9 ⊢
        exact (hb.cell hpg).trans h9
       have HHw : ∀ (w' : World) (hb : Below r wr.drew w'), Calls Tryz.prog 36 #[.agg BA] w' fun e w2 => e = .returned (.agg HA) ∧ Below w'.heap.size w' w2 := HHw0
       have HKJ : Hid (kj ≤ 80) := Lib.hid (by omega)
       go_upto_region 17 with fail
       clear HHw0 hHA hBA hcb hcg hcv hr hln hn hok hk hnk PGr HDL HN0 cx2' hb0 hbl2 hlm hn2 hokm hbmb
       refine region_inv (LSt17 r px pg gv gvo bnb bbc bn bm BA HA) (by kernel_rfl) (by kernel_rfl) ?_ ?_ ?_
       · exact ⟨false,false,false,false,false,false,false,false,false,false,false,false,false,false,false,false,false,false,false,false,false,false,false,undef,undef,undef,undef,undef,undef,undef,undef,undef,undef,undef,undef,undef,undef,undef,undef,undef,undef,undef,undef,undef,undef,undef,rfl,(by go_simp),Below.refl _ _,nf2,nf2,nf2,nf2,nf2,nf2,nf2,nf2,nf2,nf2,nf2,nf2,nf2,nf2,nf2,nf2,nf2,nf2,nf2,nf2,nf2,nf2,nf2⟩
       · refine ⟨?_, ?_, ?_, ?_, ?_, ?_, ?_, ?_, ?_, ?_, ?_, ?_, ?_, ?_, ?_, ?_, ?_, ?_, ?_, ?_, ?_, ?_, ?_, trivial⟩
         all_goals rintro L a w ⟨b0,b1,b2,b3,b4,b5,b6,b7,b8,b9,b10,b11,b12,b13,b14,b15,b16,b17,b18,b19,b20,b21,b22,x69,x70,x71,x72,x73,x74,x75,x76,x77,x78,x79,x80,x81,x82,x83,x84,x85,x86,x87,x88,x89,x90,x91,rfl,rfl,hb,cd0,cd1,cd2,cd3,cd4,cd5,cd6,cd7,cd8,cd9,cd10,cd11,cd12,cd13,cd14,cd15,cd16,cd17,cd18,cd19,cd20,cd21,cd22⟩ hf hd
         · have hf' : b0 = false := hf
           subst hf'
           clear hf hd
           try simp only [setIfInBounds_toArray, set_cons_zero, set_cons_succ]
           intro K hK
           rw [if_pos (by rfl)]
           go_simp
           exact hK.out _ _ ⟨true,b1,b2,b3,b4,b5,b6,b7,b8,b9,b10,b11,b12,b13,b14,b15,b16,b17,b18,b19,b20,b21,b22,(.pointer (some ⟨px,2,none⟩)),x70,x71,x72,x73,x74,x75,x76,x77,x78,x79,x80,x81,x82,x83,x84,x85,x86,x87,x88,x89,x90,x91,(by go_simp),(by go_simp),hb,rf,cd1,cd2,cd3,cd4,cd5,cd6,cd7,cd8,cd9,cd10,cd11,cd12,cd13,cd14,cd15,cd16,cd17,cd18,cd19,cd20,cd21,cd22⟩
         · have hf' : b1 = false := hf
           subst hf'
           have d0 : b0 = true := hd ⟨0, .data⟩ (by simp) rfl
           subst d0
           obtain rfl := cd0.out rfl
           clear hf hd
           try simp only [setIfInBounds_toArray, set_cons_zero, set_cons_succ]
           have z0 := (hb.cell hpx).trans cx2
           intro K hK
           rw [if_pos (by rfl)]
           go_simp
           exact hK.out _ _ ⟨true,true,b2,b3,b4,b5,b6,b7,b8,b9,b10,b11,b12,b13,b14,b15,b16,b17,b18,b19,b20,b21,b22,.pointer (some ⟨px,2,none⟩),(.slice (some ⟨gv,gvo,none⟩) bnb bbc),x71,x72,x73,x74,x75,x76,x77,x78,x79,x80,x81,x82,x83,x84,x85,x86,x87,x88,x89,x90,x91,(by go_simp),(by go_simp),hb,rf,rf,cd2,cd3,cd4,cd5,cd6,cd7,cd8,cd9,cd10,cd11,cd12,cd13,cd14,cd15,cd16,cd17,cd18,cd19,cd20,cd21,cd22⟩
         · have hf' : b2 = false := hf
           subst hf'
           have d1 : b1 = true := hd ⟨1, .data⟩ (by simp) rfl
           subst d1
           obtain rfl := cd1.out rfl
           clear hf hd
           try simp only [setIfInBounds_toArray, set_cons_zero, set_cons_succ]
           intro K hK
           rw [if_pos (by rfl)]
           go_simp
           exact hK.out _ _ ⟨b0,true,true,b3,b4,b5,b6,b7,b8,b9,b10,b11,b12,b13,b14,b15,b16,b17,b18,b19,b20,b21,b22,x69,.slice (some ⟨gv,gvo,none⟩) bnb bbc,(.int .i64 (bnb : Nat)),x72,x73,x74,x75,x76,x77,x78,x79,x80,x81,x82,x83,x84,x85,x86,x87,x88,x89,x90,x91,(by go_simp),(by go_simp),hb,cd0,rf,rf,cd3,cd4,cd5,cd6,cd7,cd8,cd9,cd10,cd11,cd12,cd13,cd14,cd15,cd16,cd17,cd18,cd19,cd20,cd21,cd22⟩
         · have hf' : b3 = false := hf
           subst hf'
           clear hf hd
           try simp only [setIfInBounds_toArray, set_cons_zero, set_cons_succ]
           intro K hK
           rw [if_pos (by rfl)]
           go_simp
           exact hK.out _ _ ⟨b0,b1,b2,true,b4,b5,b6,b7,b8,b9,b10,b11,b12,b13,b14,b15,b16,b17,b18,b19,b20,b21,b22,x69,x70,x71,(.int .i64 (bn : Nat)),x73,x74,x75,x76,x77,x78,x79,x80,x81,x82,x83,x84,x85,x86,x87,x88,x89,x90,x91,(by go_simp),(by go_simp),hb,cd0,cd1,cd2,rf,cd4,cd5,cd6,cd7,cd8,cd9,cd10,cd11,cd12,cd13,cd14,cd15,cd16,cd17,cd18,cd19,cd20,cd21,cd22⟩
         · have hf' : b4 = false := hf
           subst hf'
           have d2 : b2 = true := hd ⟨2, .data⟩ (by simp) rfl
           subst d2
           have d3 : b3 = true := hd ⟨3, .data⟩ (by simp) rfl
           subst d3
           obtain rfl := cd2.out rfl
           obtain rfl := cd3.out rfl
           clear hf hd
           try simp only [setIfInBounds_toArray, set_cons_zero, set_cons_succ]
           intro K hK
           rw [if_pos (by rfl)]
           go_simp
           exact hK.out _ _ ⟨b0,b1,true,true,true,b5,b6,b7,b8,b9,b10,b11,b12,b13,b14,b15,b16,b17,b18,b19,b20,b21,b22,x69,x70,.int .i64 (bnb : Nat),.int .i64 (bn : Nat),(.bool false),x74,x75,x76,x77,x78,x79,x80,x81,x82,x83,x84,x85,x86,x87,x88,x89,x90,x91,(by go_simp),(by go_simp),hb,cd0,cd1,rf,rf,rf,cd5,cd6,cd7,cd8,cd9,cd10,cd11,cd12,cd13,cd14,cd15,cd16,cd17,cd18,cd19,cd20,cd21,cd22⟩
         · have hf' : b5 = false := hf
           subst hf'
           have d4 : b4 = true := hd ⟨4, .data⟩ (by simp) rfl
           subst d4
           obtain rfl := cd4.out rfl
           clear hf hd
           try simp only [setIfInBounds_toArray, set_cons_zero, set_cons_succ]
           intro K hK
           rw [if_pos (by rfl)]
           go_simp
           exact hK.out _ _ ⟨b0,b1,b2,b3,true,true,b6,b7,b8,b9,b10,b11,b12,b13,b14,b15,b16,b17,b18,b19,b20,b21,b22,x69,x70,x71,x72,.bool false,(.bool false),x75,x76,x77,x78,x79,x80,x81,x82,x83,x84,x85,x86,x87,x88,x89,x90,x91,(by go_simp),(by go_simp),hb,cd0,cd1,cd2,cd3,rf,rf,cd6,cd7,cd8,cd9,cd10,cd11,cd12,cd13,cd14,cd15,cd16,cd17,cd18,cd19,cd20,cd21,cd22⟩
         · have hf' : b6 = false := hf
           subst hf'
           have d5 : b5 = true := hd ⟨5, .guard⟩ (by simp) rfl
           subst d5
           obtain rfl := cd5.out rfl
           clear hf hd
           try simp only [setIfInBounds_toArray, set_cons_zero, set_cons_succ]
           intro K hK
           rw [if_pos (by rfl)]
           go_simp
           exact hK.out _ _ ⟨b0,b1,b2,b3,b4,true,true,b7,b8,b9,b10,b11,b12,b13,b14,b15,b16,b17,b18,b19,b20,b21,b22,x69,x70,x71,x72,x73,.bool false,(.pointer (some ⟨px,2,none⟩)),x76,x77,x78,x79,x80,x81,x82,x83,x84,x85,x86,x87,x88,x89,x90,x91,(by go_simp),(by go_simp),hb,cd0,cd1,cd2,cd3,cd4,rf,rf,cd7,cd8,cd9,cd10,cd11,cd12,cd13,cd14,cd15,cd16,cd17,cd18,cd19,cd20,cd21,cd22⟩
         · have hf' : b7 = false := hf
           subst hf'
           have d6 : b6 = true := hd ⟨6, .data⟩ (by simp) rfl
           subst d6
           have d5 : b5 = true := hd ⟨5, .guard⟩ (by simp) rfl
           subst d5
           obtain rfl := cd6.out rfl
           obtain rfl := cd5.out rfl
           clear hf hd
           try simp only [setIfInBounds_toArray, set_cons_zero, set_cons_succ]
           have z0 := (hb.cell hpx).trans cx2
           intro K hK
           rw [if_pos (by rfl)]
           go_simp
           exact hK.out _ _ ⟨b0,b1,b2,b3,b4,true,true,true,b8,b9,b10,b11,b12,b13,b14,b15,b16,b17,b18,b19,b20,b21,b22,x69,x70,x71,x72,x73,.bool false,.pointer (some ⟨px,2,none⟩),(.slice (some ⟨gv,gvo,none⟩) bnb bbc),x77,x78,x79,x80,x81,x82,x83,x84,x85,x86,x87,x88,x89,x90,x91,(by go_simp),(by go_simp),hb,cd0,cd1,cd2,cd3,cd4,rf,rf,rf,cd8,cd9,cd10,cd11,cd12,cd13,cd14,cd15,cd16,cd17,cd18,cd19,cd20,cd21,cd22⟩
         · have hf' : b8 = false := hf
           subst hf'
           have d5 : b5 = true := hd ⟨5, .guard⟩ (by simp) rfl
           subst d5
           obtain rfl := cd5.out rfl
           clear hf hd
           try simp only [setIfInBounds_toArray, set_cons_zero, set_cons_succ]
           intro K hK
           rw [if_pos (by rfl)]
           go_simp
           exact hK.out _ _ ⟨b0,b1,b2,b3,b4,true,b6,b7,true,b9,b10,b11,b12,b13,b14,b15,b16,b17,b18,b19,b20,b21,b22,x69,x70,x71,x72,x73,.bool false,x75,x76,(.int .i64 (bn : Nat)),x78,x79,x80,x81,x82,x83,x84,x85,x86,x87,x88,x89,x90,x91,(by go_simp),(by go_simp),hb,cd0,cd1,cd2,cd3,cd4,rf,cd6,cd7,rf,cd9,cd10,cd11,cd12,cd13,cd14,cd15,cd16,cd17,cd18,cd19,cd20,cd21,cd22⟩
         · have hf' : b9 = false := hf
           subst hf'
           have d8 : b8 = true := hd ⟨8, .data⟩ (by simp) rfl
           subst d8
           have d5 : b5 = true := hd ⟨5, .guard⟩ (by simp) rfl
           subst d5
           obtain rfl := cd8.out rfl
           obtain rfl := cd5.out rfl
           clear hf hd
           try simp only [setIfInBounds_toArray, set_cons_zero, set_cons_succ]
           intro K hK
           rw [if_pos (by rfl)]
           go_simp
           rw [HSB.out]
           exact hK.out _ _ ⟨b0,b1,b2,b3,b4,true,b6,b7,true,true,b10,b11,b12,b13,b14,b15,b16,b17,b18,b19,b20,b21,b22,x69,x70,x71,x72,x73,.bool false,x75,x76,.int .i64 (bn : Nat),(.int .i64 (bm : Nat)),x79,x80,x81,x82,x83,x84,x85,x86,x87,x88,x89,x90,x91,(by go_simp),(by go_simp),hb,cd0,cd1,cd2,cd3,cd4,rf,cd6,cd7,rf,rf,cd10,cd11,cd12,cd13,cd14,cd15,cd16,cd17,cd18,cd19,cd20,cd21,cd22⟩
         · have hf' : b10 = false := hf
           subst hf'
           have d7 : b7 = true := hd ⟨7, .data⟩ (by simp) rfl
           subst d7
           have d9 : b9 = true := hd ⟨9, .data⟩ (by simp) rfl
           subst d9
           have d5 : b5 = true := hd ⟨5, .guard⟩ (by simp) rfl
           subst d5
           obtain rfl := cd7.out rfl
           obtain rfl := cd9.out rfl
           obtain rfl := cd5.out rfl
           clear hf hd
           try simp only [setIfInBounds_toArray, set_cons_zero, set_cons_succ]
           intro K hK
           rw [if_pos (by rfl)]
           go_simp
           exact hK.out _ _ ⟨b0,b1,b2,b3,b4,true,b6,true,b8,true,true,b11,b12,b13,b14,b15,b16,b17,b18,b19,b20,b21,b22,x69,x70,x71,x72,x73,.bool false,x75,.slice (some ⟨gv,gvo,none⟩) bnb bbc,x77,.int .i64 (bm : Nat),(.pointer (some ⟨gv,gvo + bm * 66,none⟩)),x80,x81,x82,x83,x84,x85,x86,x87,x88,x89,x90,x91,(by go_simp),(by go_simp),hb,cd0,cd1,cd2,cd3,cd4,rf,cd6,rf,cd8,rf,rf,cd11,cd12,cd13,cd14,cd15,cd16,cd17,cd18,cd19,cd20,cd21,cd22⟩
         · have hf' : b11 = false := hf
           subst hf'
           have d10 : b10 = true := hd ⟨10, .data⟩ (by simp) rfl
           subst d10
           have d5 : b5 = true := hd ⟨5, .guard⟩ (by simp) rfl
           subst d5
           obtain rfl := cd10.out rfl
           obtain rfl := cd5.out rfl
           clear hf hd
           try simp only [setIfInBounds_toArray, set_cons_zero, set_cons_succ]
           intro K hK
           rw [if_pos (by rfl)]
           refine wp_load_cells 64 _ rfl ⟨gv, gvo + bm * 66, none⟩ rfl BA.toList (fun q v hv => HV.out w hb q v hv) dig_agg (by rw [blk_size, HBS.out]) ?_
           simp only [Array.toArray_toList]
           exact hK.out _ _ ⟨b0,b1,b2,b3,b4,true,b6,b7,b8,b9,true,true,b12,b13,b14,b15,b16,b17,b18,b19,b20,b21,b22,x69,x70,x71,x72,x73,.bool false,x75,x76,x77,x78,.pointer (some ⟨gv,gvo + bm * 66,none⟩),(.agg BA),x81,x82,x83,x84,x85,x86,x87,x88,x89,x90,x91,(by go_simp),(by go_simp),hb,cd0,cd1,cd2,cd3,cd4,rf,cd6,cd7,cd8,cd9,rf,rf,cd12,cd13,cd14,cd15,cd16,cd17,cd18,cd19,cd20,cd21,cd22⟩
         · have hf' : b12 = false := hf
           subst hf'
           have d11 : b11 = true := hd ⟨11, .data⟩ (by simp) rfl
           subst d11
           have d5 : b5 = true := hd ⟨5, .chain⟩ (by simp) rfl
           subst d5
           obtain rfl := cd11.out rfl
           obtain rfl := cd5.out rfl
           clear hf hd
           try simp only [setIfInBounds_toArray, set_cons_zero, set_cons_succ]
           intro K hK
           rw [if_pos (by rfl)]
           go_simp
           go_at_call 36
           refine (HHw _ hb).mono ?_
           rintro e w' ⟨rfl, bx⟩
           exact hK.out _ _ ⟨b0,b1,b2,b3,b4,true,b6,b7,b8,b9,b10,true,true,b13,b14,b15,b16,b17,b18,b19,b20,b21,b22,x69,x70,x71,x72,x73,.bool false,x75,x76,x77,x78,x79,.agg BA,(.agg HA),x82,x83,x84,x85,x86,x87,x88,x89,x90,x91,(by go_simp),(by go_simp),hb.trans (bx.mono (Nat.le_trans hB0 hb.size)),cd0,cd1,cd2,cd3,cd4,rf,cd6,cd7,cd8,cd9,cd10,rf,rf,cd13,cd14,cd15,cd16,cd17,cd18,cd19,cd20,cd21,cd22⟩
         · have hf' : b13 = false := hf
           subst hf'
           have d5 : b5 = true := hd ⟨5, .guard⟩ (by simp) rfl
           subst d5
           obtain rfl := cd5.out rfl
           clear hf hd
           try simp only [setIfInBounds_toArray, set_cons_zero, set_cons_succ]
           intro K hK
           rw [if_pos (by rfl)]
           go_simp
           exact hK.out _ _ ⟨b0,b1,b2,b3,b4,true,b6,b7,b8,b9,b10,b11,b12,true,b14,b15,b16,b17,b18,b19,b20,b21,b22,x69,x70,x71,x72,x73,.bool false,x75,x76,x77,x78,x79,x80,x81,(.pointer (some ⟨pg,1,none⟩)),x83,x84,x85,x86,x87,x88,x89,x90,x91,(by go_simp),(by go_simp),hb,cd0,cd1,cd2,cd3,cd4,rf,cd6,cd7,cd8,cd9,cd10,cd11,cd12,rf,cd14,cd15,cd16,cd17,cd18,cd19,cd20,cd21,cd22⟩
         · have hf' : b14 = false := hf
           subst hf'
           have d13 : b13 = true := hd ⟨13, .data⟩ (by simp) rfl
           subst d13
           have d5 : b5 = true := hd ⟨5, .guard⟩ (by simp) rfl
           subst d5
           obtain rfl := cd13.out rfl
           obtain rfl := cd5.out rfl
           clear hf hd
           try simp only [setIfInBounds_toArray, set_cons_zero, set_cons_succ]
           intro K hK
           rw [if_pos (by rfl)]
           refine wp_load_cells 53 _ rfl ⟨pg, 1, none⟩ rfl HA.toList (fun q v hv => HG1.out w hb q v hv) hash_agg (by rw [sizeHash, HAS.out]) ?_
           simp only [Array.toArray_toList]
           exact hK.out _ _ ⟨b0,b1,b2,b3,b4,true,b6,b7,b8,b9,b10,b11,b12,true,true,b15,b16,b17,b18,b19,b20,b21,b22,x69,x70,x71,x72,x73,.bool false,x75,x76,x77,x78,x79,x80,x81,.pointer (some ⟨pg,1,none⟩),(.agg HA),x84,x85,x86,x87,x88,x89,x90,x91,(by go_simp),(by go_simp),hb,cd0,cd1,cd2,cd3,cd4,rf,cd6,cd7,cd8,cd9,cd10,cd11,cd12,rf,rf,cd15,cd16,cd17,cd18,cd19,cd20,cd21,cd22⟩
         · have hf' : b15 = false := hf
           subst hf'
           have d12 : b12 = true := hd ⟨12, .data⟩ (by simp) rfl
           subst d12
           have d14 : b14 = true := hd ⟨14, .data⟩ (by simp) rfl
           subst d14
           have d5 : b5 = true := hd ⟨5, .guard⟩ (by simp) rfl
           subst d5
           obtain rfl := cd12.out rfl
           obtain rfl := cd14.out rfl
           obtain rfl := cd5.out rfl
           clear hf hd
           try simp only [setIfInBounds_toArray, set_cons_zero, set_cons_succ]
           intro K hK
           rw [if_pos (by rfl)]
           go_simp
           exact hK.out _ _ ⟨b0,b1,b2,b3,b4,true,b6,b7,b8,b9,b10,b11,true,b13,true,true,b16,b17,b18,b19,b20,b21,b22,x69,x70,x71,x72,x73,.bool false,x75,x76,x77,x78,x79,x80,.agg HA,x82,.agg HA,(.bool false),x85,x86,x87,x88,x89,x90,x91,(by go_simp),(by go_simp),hb,cd0,cd1,cd2,cd3,cd4,rf,cd6,cd7,cd8,cd9,cd10,cd11,rf,cd13,rf,rf,cd16,cd17,cd18,cd19,cd20,cd21,cd22⟩
         · have hf' : b16 = false := hf
           subst hf'
           have d5 : b5 = true := hd ⟨5, .data⟩ (by simp) rfl
           subst d5
           have d15 : b15 = true := hd ⟨15, .data⟩ (by simp) rfl
           subst d15
           obtain rfl := cd5.out rfl
           obtain rfl := cd15.out rfl
           clear hf hd
           try simp only [setIfInBounds_toArray, set_cons_zero, set_cons_succ]
           intro K hK
           rw [if_pos (by rfl)]
           go_simp
           exact hK.out _ _ ⟨b0,b1,b2,b3,b4,true,b6,b7,b8,b9,b10,b11,b12,b13,b14,true,true,b17,b18,b19,b20,b21,b22,x69,x70,x71,x72,x73,.bool false,x75,x76,x77,x78,x79,x80,x81,x82,x83,.bool false,(.bool false),x86,x87,x88,x89,x90,x91,(by go_simp),(by go_simp),hb,cd0,cd1,cd2,cd3,cd4,rf,cd6,cd7,cd8,cd9,cd10,cd11,cd12,cd13,cd14,rf,rf,cd17,cd18,cd19,cd20,cd21,cd22⟩
         · have hf' : b17 = false := hf
           subst hf'
           have d16 : b16 = true := hd ⟨16, .data⟩ (by simp) rfl
           subst d16
           have d12 : b12 = true := hd ⟨12, .chain⟩ (by simp) rfl
           subst d12
           obtain rfl := cd16.out rfl
           obtain rfl := cd12.out rfl
           clear hf hd
           try simp only [setIfInBounds_toArray, set_cons_zero, set_cons_succ]
           intro K hK
           rw [if_pos (by rfl)]
           go_simp
           exact hK.out _ _ ⟨b0,b1,b2,b3,b4,b5,b6,b7,b8,b9,b10,b11,true,b13,b14,b15,true,true,b18,b19,b20,b21,b22,x69,x70,x71,x72,x73,x74,x75,x76,x77,x78,x79,x80,.agg HA,x82,x83,x84,.bool false,(.bool false),x87,x88,x89,x90,x91,(by go_simp),(by go_simp),hb,cd0,cd1,cd2,cd3,cd4,cd5,cd6,cd7,cd8,cd9,cd10,cd11,rf,cd13,cd14,cd15,rf,rf,cd18,cd19,cd20,cd21,cd22⟩
         · have hf' : b18 = false := hf
           subst hf'
           have d17 : b17 = true := hd ⟨17, .guard⟩ (by simp) rfl
           subst d17
           obtain rfl := cd17.out rfl
           clear hf hd
           try simp only [setIfInBounds_toArray, set_cons_zero, set_cons_succ]
           intro K hK
           rw [if_pos (by rfl)]
           go_simp
           exact hK.out _ _ ⟨b0,b1,b2,b3,b4,b5,b6,b7,b8,b9,b10,b11,b12,b13,b14,b15,b16,true,true,b19,b20,b21,b22,x69,x70,x71,x72,x73,x74,x75,x76,x77,x78,x79,x80,x81,x82,x83,x84,x85,.bool false,(.pointer (some ⟨pg,0,none⟩)),x88,x89,x90,x91,(by go_simp),(by go_simp),hb,cd0,cd1,cd2,cd3,cd4,cd5,cd6,cd7,cd8,cd9,cd10,cd11,cd12,cd13,cd14,cd15,cd16,rf,rf,cd19,cd20,cd21,cd22⟩
         · have hf' : b19 = false := hf
           subst hf'
           have d18 : b18 = true := hd ⟨18, .data⟩ (by simp) rfl
           subst d18
           have d17 : b17 = true := hd ⟨17, .guard⟩ (by simp) rfl
           subst d17
           obtain rfl := cd18.out rfl
           obtain rfl := cd17.out rfl
           clear hf hd
           try simp only [setIfInBounds_toArray, set_cons_zero, set_cons_succ]
           have z0 := (hb.cell hpg).trans cg0
           intro K hK
           rw [if_pos (by rfl)]
           go_simp
           exact hK.out _ _ ⟨b0,b1,b2,b3,b4,b5,b6,b7,b8,b9,b10,b11,b12,b13,b14,b15,b16,true,true,true,b20,b21,b22,x69,x70,x71,x72,x73,x74,x75,x76,x77,x78,x79,x80,x81,x82,x83,x84,x85,.bool false,.pointer (some ⟨pg,0,none⟩),(.int .i64 (bn : Nat)),x89,x90,x91,(by go_simp),(by go_simp),hb,cd0,cd1,cd2,cd3,cd4,cd5,cd6,cd7,cd8,cd9,cd10,cd11,cd12,cd13,cd14,cd15,cd16,rf,rf,rf,cd20,cd21,cd22⟩
         · have hf' : b20 = false := hf
           subst hf'
           have d17 : b17 = true := hd ⟨17, .guard⟩ (by simp) rfl
           subst d17
           obtain rfl := cd17.out rfl
           clear hf hd
           try simp only [setIfInBounds_toArray, set_cons_zero, set_cons_succ]
           intro K hK
           rw [if_pos (by rfl)]
           go_simp
           exact hK.out _ _ ⟨b0,b1,b2,b3,b4,b5,b6,b7,b8,b9,b10,b11,b12,b13,b14,b15,b16,true,b18,b19,true,b21,b22,x69,x70,x71,x72,x73,x74,x75,x76,x77,x78,x79,x80,x81,x82,x83,x84,x85,.bool false,x87,x88,(.int .i64 (bn : Nat)),x90,x91,(by go_simp),(by go_simp),hb,cd0,cd1,cd2,cd3,cd4,cd5,cd6,cd7,cd8,cd9,cd10,cd11,cd12,cd13,cd14,cd15,cd16,rf,cd18,cd19,rf,cd21,cd22⟩
         · have hf' : b21 = false := hf
           subst hf'
           have d19 : b19 = true := hd ⟨19, .data⟩ (by simp) rfl
           subst d19
           have d20 : b20 = true := hd ⟨20, .data⟩ (by simp) rfl
           subst d20
           have d17 : b17 = true := hd ⟨17, .guard⟩ (by simp) rfl
           subst d17
           obtain rfl := cd19.out rfl
           obtain rfl := cd20.out rfl
           obtain rfl := cd17.out rfl
           clear hf hd
           try simp only [setIfInBounds_toArray, set_cons_zero, set_cons_succ]
           intro K hK
           rw [if_pos (by rfl)]
           go_simp
           exact hK.out _ _ ⟨b0,b1,b2,b3,b4,b5,b6,b7,b8,b9,b10,b11,b12,b13,b14,b15,b16,true,b18,true,true,true,b22,x69,x70,x71,x72,x73,x74,x75,x76,x77,x78,x79,x80,x81,x82,x83,x84,x85,.bool false,x87,.int .i64 (bn : Nat),.int .i64 (bn : Nat),(.bool false),x91,(by go_simp),(by go_simp),hb,cd0,cd1,cd2,cd3,cd4,cd5,cd6,cd7,cd8,cd9,cd10,cd11,cd12,cd13,cd14,cd15,cd16,rf,cd18,rf,rf,rf,cd22⟩
         · have hf' : b22 = false := hf
           subst hf'
           have d17 : b17 = true := hd ⟨17, .data⟩ (by simp) rfl
           subst d17
           have d21 : b21 = true := hd ⟨21, .data⟩ (by simp) rfl
           subst d21
           obtain rfl := cd17.out rfl
           obtain rfl := cd21.out rfl
           clear hf hd
           try simp only [setIfInBounds_toArray, set_cons_zero, set_cons_succ]
           intro K hK
           rw [if_pos (by rfl)]
           go_simp
           exact hK.out _ _ ⟨b0,b1,b2,b3,b4,b5,b6,b7,b8,b9,b10,b11,b12,b13,b14,b15,b16,true,b18,b19,b20,true,true,x69,x70,x71,x72,x73,x74,x75,x76,x77,x78,x79,x80,x81,x82,x83,x84,x85,.bool false,x87,x88,x89,.bool false,(.bool false),(by go_simp),(by go_simp),hb,cd0,cd1,cd2,cd3,cd4,cd5,cd6,cd7,cd8,cd9,cd10,cd11,cd12,cd13,cd14,cd15,cd16,rf,cd18,cd19,cd20,rf,rf⟩
       · rintro act V ⟨b0,b1,b2,b3,b4,b5,b6,b7,b8,b9,b10,b11,b12,b13,b14,b15,b16,b17,b18,b19,b20,b21,b22,x69,x70,x71,x72,x73,x74,x75,x76,x77,x78,x79,x80,x81,x82,x83,x84,x85,x86,x87,x88,x89,x90,x91,hL,rfl,hb,cd0,cd1,cd2,cd3,cd4,cd5,cd6,cd7,cd8,cd9,cd10,cd11,cd12,cd13,cd14,cd15,cd16,cd17,cd18,cd19,cd20,cd21,cd22⟩
         have hL' : [true,true,true,true,true,true,true,true,true,true,true,true,true,true,true,true,true,true,true,true,true,true,true] = [b0,b1,b2,b3,b4,b5,b6,b7,b8,b9,b10,b11,b12,b13,b14,b15,b16,b17,b18,b19,b20,b21,b22] := congrArg Array.toList hL
         simp only [List.cons.injEq, and_true] at hL'
         obtain ⟨rfl, rfl, rfl, rfl, rfl, rfl, rfl, rfl, rfl, rfl, rfl, rfl, rfl, rfl, rfl, rfl, rfl, rfl, rfl, rfl, rfl, rfl, rfl⟩ := hL'
         obtain rfl := cd0.out rfl
         obtain rfl := cd1.out rfl
         obtain rfl := cd2.out rfl
         obtain rfl := cd3.out rfl
         obtain rfl := cd4.out rfl
         obtain rfl := cd5.out rfl
         obtain rfl := cd6.out rfl
         obtain rfl := cd7.out rfl
         obtain rfl := cd8.out rfl
         obtain rfl := cd9.out rfl
         obtain rfl := cd10.out rfl
         obtain rfl := cd11.out rfl
         obtain rfl := cd12.out rfl
         obtain rfl := cd13.out rfl
         obtain rfl := cd14.out rfl
         obtain rfl := cd15.out rfl
         obtain rfl := cd16.out rfl
         obtain rfl := cd17.out rfl
         obtain rfl := cd18.out rfl
         obtain rfl := cd19.out rfl
         obtain rfl := cd20.out rfl
         obtain rfl := cd21.out rfl
         obtain rfl := cd22.out rfl
         clear hL cd0 cd1 cd2 cd3 cd4 cd5 cd6 cd7 cd8 cd9 cd10 cd11 cd12 cd13 cd14 cd15 cd16 cd17 cd18 cd19 cd20 cd21 cd22
         simp only [setIfInBounds_toArray, set_cons_zero, set_cons_succ]
         have BV : Below wr.heap.size wr V := by rw [HR.out]; exact (Below.refl _ _).drew.trans hb
         have X5 := hX.past BV
         have L5 := hL.past BV
         have BW5 := hBw.trans (BV.mono hBw.size)
         have hL0 := hL
         clear hb B2
         obtain ⟨wq, rfl⟩ : ∃ z, z = wr := ⟨wr, rfl⟩
         have hblM := hL0.bl.len
         have htsM := hL0.ts.len
         have hb80 : bnb ≤ 80 := by have := hI.bl; have := HKJ.out; omega
         go_wp2_with fail
         go_loopw [11] (fun i wr => ∃ jn : Nat, jn ≤ bnb ∧ i = .int .i64 (jn : Nat) ∧ Below V.heap.size V wr) (fun i _ => bnb - (intOf i).toNat)
         case atStart => exact ⟨0, Nat.zero_le _, rfl, Below.refl _ _⟩
         case round =>
          obtain ⟨jn, hj, rfl, hB⟩ := hrel
          have hCr : RC wr := hC.past (BW5.trans (hB.mono BW5.size))
          by_cases hlt : jn < bnb
          · have hlti : (jn : Int) < (bnb : Int) := by omega
            have X6 := X5.past hB
            have L6 := L5.past hB
            obtain ⟨b, hb⟩ : ∃ b, Mj.bl[jn]? = some b := ⟨Mj.bl[jn]'(by omega), List.getElem?_eq_getElem _⟩
            obtain ⟨t, ht⟩ : ∃ t, Mj.ts[jn]? = some t := ⟨Mj.ts[jn]'(by have := hCh.len; omega), List.getElem?_eq_getElem _⟩
            obtain ⟨hn1, hp1, hc1, ht1, ht4, hr1⟩ := hCh.at_ jn b t hb ht
            obtain ⟨HP, hHP⟩ : ∃ x, (bcs b.prev.l).toArray = x := ⟨_, rfl⟩
            have HPS0 : HP.size = 32 := by rw [← hHP]; simp [bcs_length, b.prev.len]
            have HP1 : Hid (HP.all (·.oneCell') = true) := Lib.hid (by rw [← hHP]; exact bcs_all _)
            have HPz : Hid (HP.size = 32) := Lib.hid HPS0
            obtain ⟨Z0, hZ0⟩ : ∃ x, (bcs (List.replicate 32 0)).toArray = x := ⟨_, rfl⟩
            have HZ : Hid ((bcs (List.replicate 32 0)).toArray = Z0) := Lib.hid hZ0
            have HZ0 : Hid (Z0.size = 32) := Lib.hid (by rw [← hZ0]; simp [bcs_length])
            have HZ1 : Hid (Z0.all (·.oneCell') = true) := Lib.hid (by rw [← hZ0]; exact bcs_all _)
            have HBZ : Hid (Tryz.prog.built 53 [] = some Z0) := Lib.hid (by rw [← hZ0]; exact built_hash0)
            clear hZ0 HPS0
            have cx2 : wr.cell? ⟨px, 2, none⟩ = some (.slice (some ⟨gv, gvo, none⟩) bnb bbc) := X6.c rfl
            go_upto_region 23 with (first
             | ((with_reducible refine wpList_build_at rfl 53 _ rfl Z0 ?_ ?_); (first | exact HBZ.out | (simp only [List.map_toArray, List.map_nil]; exact HBZ.out)))
             | ((with_reducible refine wpList_alloc_blk (o := ⟨some 12, _, _, _, _, _⟩) rfl 53 rfl _ zeroHash ?_); (rw [HZ.out]); (intro w6 pv h6 b6 q6))
             | ((with_reducible refine wpList_store_blk rfl 53 _ _ rfl pv Z0 Z0 ?_ ?_ _ h6 32 sizeHash HZ0.out HZ0.out HZ1.out ?_); (rfl); (rfl); (intro w7 h7 g7)))
            have B7 : Below wr.heap.size wr w7 := b6.grown g7 b6.size (fun z hz => by cases hz; exact q6)
            have V7 : Bk w7 pv Z0 53 := h7.out
            clear h6 b6 h7 g7 cx2
            go_upto_if 101 with fail
            go_cut [] from 92 to 176 (fun wx => Bk wx pv HP 53 ∧ Below wr.heap.size wr wx)
            case first =>
             by_cases hj0 : jn = 0
             · have HJ0 := Lib.hid hj0
               have hji : ¬ ((0 : Int) < (jn : Int)) := by omega
               have hPZ : HP = Z0 := by
                have e0 : b.prev.l = List.replicate 32 0 := by rw [hp1, hj0]; rfl
                rw [← hHP, ← HZ.out, e0]
               have HPZ := Lib.hid hPZ
               clear hj0 hPZ hn1 hp1 hc1 hr1
               go_wp2_with fail
               go_meet
               exact ⟨by rw [HPZ.out]; exact V7, B7⟩
             · have hjm : 0 < jn := by omega
               have hji : (0 : Int) < (jn : Int) := by omega
               obtain ⟨bq, hbq⟩ : ∃ b, Mj.bl[jn - 1]? = some b := ⟨Mj.bl[jn - 1]'(by omega), List.getElem?_eq_getElem _⟩
               have hpq : b.prev.l = blkS bq := by
                rw [hp1]
                unfold hLast
                rw [List.getLast?_eq_getElem?, List.length_take, List.getElem?_take, if_pos (by omega), show min jn Mj.bl.length - 1 = jn - 1 by omega, hbq]
               have X7 := X6.past B7
               obtain ⟨gw, gwo, hq9, hgv, hcv⟩ := blk_in (L6.bl.flat.past B7) hbq
               obtain ⟨rfl, rfl⟩ : gv = gw ∧ gvo = gwo := by simpa using hq9
               clear hq9
               have cx2 : w7.cell? ⟨px, 2, none⟩ = some (.slice (some ⟨gv, gvo, none⟩) bnb bbc) := X7.c rfl
               have HHq := lhash_any w7 (hCr.past B7) bq
               rw [← hpq, hHP] at HHq
               obtain ⟨BA, hBA⟩ : ∃ x, bq.cs.toArray = x := ⟨_, rfl⟩
               have hbs : BA.size = 66 := by rw [← hBA]; simp [Blk.cs_len]
               have HBS := Lib.hid hbs
               have hcb : bq.cs = BA.toList := by rw [← hBA]
               rw [hcb] at hcv
               rw [hBA] at HHq
               have HHQ := Lib.hid HHq
               have hV7 : Hid (w7.heap[pv]? = some (.cells Z0 53 (0, 0))) := Lib.hid V7
               clear hjm hHP hn1 hp1 hc1 hr1 hpq hbq hbs hcb hBA HHq hb ht hj0
               go_wp2_with (first
                | ((with_reducible refine wpList_load_cells rfl 64 _ rfl ⟨gv,gvo + (jn - 1) * 66,none⟩ ?_ BA.toList hcv dig_agg ?_ ?_); (rfl); (rw [blk_size,Array.length_toList,HBS.out]); (simp only [Array.toArray_toList]))
                | (go_at_call 36; refine HHQ.out.mono ?_; rintro e w8 ⟨rfl,b8⟩; have V8 : Hid (w8.heap[pv]? = some (.cells Z0 53 (0,0))) := Lib.hid (V7.past b8))
                | ((with_reducible refine wpList_store_blk rfl 53 _ _ rfl pv Z0 HP ?_ ?_ _ V8 32 sizeHash HZ0.out HPz.out HP1.out ?_); (rfl); (rfl); (intro w9 h9 g9)))
               go_meet
               exact ⟨h9.out, (B7.trans (b8.mono B7.size)).grown g9 (Nat.le_trans B7.size b8.size) (fun z hz => by cases hz; exact q6)⟩
            case rest =>
             obtain ⟨V8, B8w⟩ := hcut
             clear V7 B7
             obtain ⟨w8, rfl⟩ : ∃ z, z = wc := ⟨wc, rfl⟩
             have B8 : Below V.heap.size V w8 := hB.trans (B8w.mono hB.size)
             have X8 := X6.past B8w
             have L8 := L6.past B8w
             have hC8 : RC w8 := hCr.past B8w
             have hlenS := L8.ts.len
             obtain ⟨gw, gwo, hq9, hgv, hcv⟩ := blk_in L8.bl.flat hb
             obtain ⟨rfl, rfl⟩ : gv = gw ∧ gvo = gwo := by simpa using hq9
             clear hq9
             obtain ⟨gt, gto, ⟨ua, un, uc⟩, rfl, hgt, -, hct, hru⟩ := L8.ts.at ht
             have hru2 : IsD DT w8 _ ua un uc t := hru
             have htl : t.length = un := hru2.len
             have hxt := hI.txs t (List.mem_of_getElem? ht)
             have hEn0 := fun (w' : World) (hb : Below w8.heap.size w8 w') => (rentries_any w' _ t ua un uc (hru2.past hb) (by omega) hxt.2)
             obtain ⟨EH, hEH⟩ : ∃ x, entsS t = x := ⟨_, rfl⟩
             have hEl : EH.length = un := by rw [← hEH]; unfold entsS; rw [List.length_map]; exact htl
             rw [hEH] at hr1
             have hpx := X8.lt
             have hpv := V8.lt
             obtain ⟨r8, hr8⟩ : ∃ r, w8.heap.size = r := ⟨_, rfl⟩
             have HR8 := Lib.hid hr8
             have hB0 : r8 ≤ w8.heap.size := Nat.le_of_eq hr8.symm
             have HW := fun (w' : World) (hb : Below r8 w8.drew w') => (show Below w8.heap.size w8 w' by rw [HR8.out]; exact (Below.refl _ _).drew.trans hb)
             rw [hr8] at hpx hpv hgv hgt
             have cx2 : w8.drew.cell? ⟨px, 2, none⟩ = some (.slice (some ⟨gv, gvo, none⟩) bnb bbc) := X8.c rfl
             have cx3 : w8.drew.cell? ⟨px, 3, none⟩ = some (.slice (some ⟨gt, gto, none⟩) tnb tbc) := X8.c rfl
             have cc0 : w8.drew.cell? ⟨gv, gvo + jn * 66, none⟩ = some (.int .i64 ((jn : Int) + 1)) := by have h9 := hcv 0 _ rfl; rw [Addr.add_lit, Nat.add_zero] at h9; rw [← hn1]; exact h9
             have cc65 : w8.drew.cell? ⟨gv,gvo + jn * 66 + 65,none⟩ = some (.int .i64 (un : Nat)) := by have h9 := hcv 65 (.int .i64 b.count) (by have := blk_cs65 b; simpa using this); rw [Addr.add_lit] at h9; rw [← htl, ← hc1]; exact h9
             have u0 : w8.drew.cell? ⟨gt,gto + jn,none⟩ = some (.slice ua un uc) := (show w8.cell? ⟨gt,gto + jn,none⟩ = some (.slice ua un uc) by have := hct 0 (.slice ua un uc) rfl; simpa only [show DTs.E.sz = 1 from rfl,Nat.mul_one,Nat.add_zero] using this)
             obtain ⟨HR0, hHR⟩ : ∃ x, (bcs b.root.l).toArray = x := ⟨_, rfl⟩
             have qP := equal_hash _ _ b.prev.len b.prev.len
             have qR := equal_hash _ _ b.root.len b.root.len
             simp only [beq_self_eq_true] at qP qR
             rw [hHP] at qP
             rw [hHR] at qR
             have g1 : bcs b.prev.l = HP.toList := by rw [← hHP]
             have g2 : bcs b.root.l = HR0.toList := by rw [← hHR]
             have HPS : Hid (HP.toList.length = 32) := Lib.hid (by rw [← g1, bcs_length, b.prev.len])
             have HRS : Hid (HR0.toList.length = 32) := Lib.hid (by rw [← g2, bcs_length, b.root.len])
             have HV1 : Hid (∀ (w' : World) (_ : Below r8 w8.drew w') (q : Nat) (v : Value),HP.toList[q]? = some v → w'.cell? ((⟨gv,gvo + jn * 66 + 1,none⟩ : Addr).add q) = some v) := Lib.hid fun w' hb q v hv => by
              rw [← g1] at hv
              have hq : q < 32 := by have := (List.getElem?_eq_some_iff.1 hv).1; rw [bcs_length, b.prev.len] at this; exact this
              have h9 := hcv (1 + q) v (by unfold Blk.cs; rw [Nat.add_comm, List.getElem?_cons_succ, List.getElem?_append_left (by rw [bcs_length, b.prev.len]; exact hq)]; exact hv)
              rw [Addr.add_lit] at h9 ⊢
              rw [← Nat.add_assoc] at h9
              exact (hb.cell hgv).trans h9
             have HV33 : Hid (∀ (w' : World) (_ : Below r8 w8.drew w') (q : Nat) (v : Value),HR0.toList[q]? = some v → w'.cell? ((⟨gv,gvo + jn * 66 + 33,none⟩ : Addr).add q) = some v) := Lib.hid fun w' hb q v hv => by
              rw [← g2] at hv
              have hq : q < 32 := by have := (List.getElem?_eq_some_iff.1 hv).1; rw [bcs_length, b.root.len] at this; exact this
              have h9 := hcv (33 + q) v (by unfold Blk.cs; rw [show 33 + q = 32 + q + 1 by omega,List.getElem?_cons_succ,List.getElem?_append_right (by rw [bcs_length,b.prev.len]; omega),bcs_length,b.prev.len,show 32 + q - 32 = q by omega,List.getElem?_append_left (by rw [bcs_length,b.root.len]; exact hq)]; exact hv)
              rw [Addr.add_lit] at h9 ⊢
              rw [← Nat.add_assoc] at h9
              exact (hb.cell hgv).trans h9
             have HPv : Hid (∀ (w' : World) (_ : Below r8 w8.drew w') (q : Nat) (v : Value),HP.toList[q]? = some v → w'.cell? ((⟨pv,0,none⟩ : Addr).add q) = some v) := Lib.hid fun w' hb q v hv => by
              rw [Addr.add_lit, Nat.zero_add]
              exact (hb.cell hpv).trans (V8.c (by simpa using hv))
             have HEn : ∀ (w' : World) (hb : Below r8 w8.drew w'),Calls Tryz.prog 40 #[.slice ua un uc] w' fun e w2 => ∃ a c,e = .returned (.slice a un c) ∧ IsH w2 a un c EH ∧ Below w'.heap.size w' w2 := fun w' hb => (hEn0 w' (HW w' hb)).mono fun e w2 ⟨a,c,h1,h2,h3⟩ => ⟨a,c,h1,by have h4 := h2.isR.hs; rw [entsH_l] at h4; rw [← hEH]; exact h4,h3⟩
             have HRt : ∀ (w' : World) (a : Option Addr) (c : Nat) (hI : IsH w' a un c EH),Calls Tryz.prog 39 #[.slice a un c] w' fun e w2 => e = .returned (.agg HR0) ∧ Below w'.heap.size w' w2 := fun w' a c hI => by have h4 := rroot_any a un c EH w' hI (by omega); rw [← hr1,hHR] at h4; exact h4
             have HJ1 : Hid (IntKind.i64.wrap ((jn : Int) + 1) = (jn : Int) + 1) := Lib.hid (IntWalk.i64_in _ (by omega))
             have hun1 : ¬ ((un : Int) < 1) := by omega
             have hun4 : ¬ ((4 : Int) < (un : Int)) := by omega
             have hjt : (jn : Int) < (tnb : Int) := by have := hCh.len; omega
             clear hcv hct hru hru2 hEn0 hEH hr1 hHR hHP g1 g2 HW X8 L8 hlenS htl hxt hb ht hn1 hp1 hc1 ht1 ht4 V8 hr8 HP1 HPz HZ HZ0 HZ1 HBZ hEl
             go_upto_region 25 with fail
             refine region_inv (LSt25 r8 px pv gv gvo bnb bbc gt gto tnb tbc jn ua un uc HP HR0 EH) (by kernel_rfl) (by kernel_rfl) ?_ ?_ ?_
             · exact ⟨false,false,false,false,false,false,false,false,false,false,false,false,false,false,false,false,false,false,false,false,false,false,false,false,false,false,false,false,false,false,false,false,false,false,false,false,false,false,false,false,false,false,false,false,false,false,false,false,false,false,false,false,false,false,false,false,false,false,false,false,false,false,false,false,false,false,false,false,u109,u110,u111,u112,u113,u114,u115,u116,u117,u118,u119,u120,u121,u122,u123,u124,u125,u126,u127,u128,u129,u130,u131,u132,u133,u134,u135,u136,u137,u138,u139,u140,u141,u142,u143,u144,u145,u146,u147,u148,u149,u150,u151,u152,u153,u154,u155,u156,u157,u158,u159,u160,u161,u162,u163,u164,u165,u166,u167,u168,u169,u170,u171,u172,u173,u174,u175,u176,none,0,rfl,(by go_simp),Below.refl _ _,nf2,nf2,nf2,nf2,nf2,nf2,nf2,nf2,nf2,nf2,nf2,nf2,nf2,nf2,nf2,nf2,nf2,nf2,nf2,nf2,nf2,nf2,nf2,nf2,nf2,nf2,nf2,nf2,nf2,nf2,nf2,nf2,nf2,nf2,nf2,nf2,nf2,nf2,nf2,nf2,nf2,nf2,nf2,nf2,nf2,nf2,nf2,nf2,nf2,nf2,nf2,nf2,nf2,nf2,nf2,nf2,nf2,nf2,nf2,nf2,nf2,nf2,nf2,nf2,nf2,nf2,nf2,nf2,nf2⟩
             · refine ⟨?_,?_,?_,?_,?_,?_,?_,?_,?_,?_,?_,?_,?_,?_,?_,?_,?_,?_,?_,?_,?_,?_,?_,?_,?_,?_,?_,?_,?_,?_,?_,?_,?_,?_,?_,?_,?_,?_,?_,?_,?_,?_,?_,?_,?_,?_,?_,?_,?_,?_,?_,?_,?_,?_,?_,?_,?_,?_,?_,?_,?_,?_,?_,?_,?_,?_,?_,?_,trivial⟩
               all_goals rintro L a w ⟨b0,b1,b2,b3,b4,b5,b6,b7,b8,b9,b10,b11,b12,b13,b14,b15,b16,b17,b18,b19,b20,b21,b22,b23,b24,b25,b26,b27,b28,b29,b30,b31,b32,b33,b34,b35,b36,b37,b38,b39,b40,b41,b42,b43,b44,b45,b46,b47,b48,b49,b50,b51,b52,b53,b54,b55,b56,b57,b58,b59,b60,b61,b62,b63,b64,b65,b66,b67,x109,x110,x111,x112,x113,x114,x115,x116,x117,x118,x119,x120,x121,x122,x123,x124,x125,x126,x127,x128,x129,x130,x131,x132,x133,x134,x135,x136,x137,x138,x139,x140,x141,x142,x143,x144,x145,x146,x147,x148,x149,x150,x151,x152,x153,x154,x155,x156,x157,x158,x159,x160,x161,x162,x163,x164,x165,x166,x167,x168,x169,x170,x171,x172,x173,x174,x175,x176,ea,ec,rfl,rfl,hb,cd0,cd1,cd2,cd3,cd4,cd5,cd6,cd7,cd8,cd9,cd10,cd11,cd12,cd13,cd14,cd15,cd16,cd17,cd18,cd19,cd20,cd21,cd22,cd23,cd24,cd25,cd26,cd27,cd28,cd29,cd30,cd31,cd32,cd33,cd34,cd35,cd36,cd37,cd38,cd39,cd40,cd41,cd42,cd43,cd44,cd45,cd46,cd47,cd48,cd49,cd50,cd51,cd52,cd53,cd54,cd55,cd56,cd57,cd58,cd59,cd60,cd61,cd62,cd63,cd64,cd65,cd66,cd67,f_e⟩ hf hd
               · have hf' : b0 = false := hf
                 subst hf'
                 clear hf hd
                 try simp only [setIfInBounds_toArray, set_cons_zero, set_cons_succ]
                 intro K hK
                 rw [if_pos (by rfl)]
                 go_simp
                 exact hK.out _ _ ⟨true,b1,b2,b3,b4,b5,b6,b7,b8,b9,b10,b11,b12,b13,b14,b15,b16,b17,b18,b19,b20,b21,b22,b23,b24,b25,b26,b27,b28,b29,b30,b31,b32,b33,b34,b35,b36,b37,b38,b39,b40,b41,b42,b43,b44,b45,b46,b47,b48,b49,b50,b51,b52,b53,b54,b55,b56,b57,b58,b59,b60,b61,b62,b63,b64,b65,b66,b67,(.pointer (some ⟨px,2,none⟩)),x110,x111,x112,x113,x114,x115,x116,x117,x118,x119,x120,x121,x122,x123,x124,x125,x126,x127,x128,x129,x130,x131,x132,x133,x134,x135,x136,x137,x138,x139,x140,x141,x142,x143,x144,x145,x146,x147,x148,x149,x150,x151,x152,x153,x154,x155,x156,x157,x158,x159,x160,x161,x162,x163,x164,x165,x166,x167,x168,x169,x170,x171,x172,x173,x174,x175,x176,ea,ec,(by go_simp),(by go_simp),hb,rf,cd1,cd2,cd3,cd4,cd5,cd6,cd7,cd8,cd9,cd10,cd11,cd12,cd13,cd14,cd15,cd16,cd17,cd18,cd19,cd20,cd21,cd22,cd23,cd24,cd25,cd26,cd27,cd28,cd29,cd30,cd31,cd32,cd33,cd34,cd35,cd36,cd37,cd38,cd39,cd40,cd41,cd42,cd43,cd44,cd45,cd46,cd47,cd48,cd49,cd50,cd51,cd52,cd53,cd54,cd55,cd56,cd57,cd58,cd59,cd60,cd61,cd62,cd63,cd64,cd65,cd66,cd67,f_e⟩
               · have hf' : b1 = false := hf
                 subst hf'
                 have d0 : b0 = true := hd ⟨0, .data⟩ (by simp) rfl
                 subst d0
                 obtain rfl := cd0.out rfl
                 clear hf hd
                 try simp only [setIfInBounds_toArray, set_cons_zero, set_cons_succ]
                 have z0 := (hb.cell hpx).trans cx2
                 intro K hK
                 rw [if_pos (by rfl)]
                 go_simp
                 exact hK.out _ _ ⟨true,true,b2,b3,b4,b5,b6,b7,b8,b9,b10,b11,b12,b13,b14,b15,b16,b17,b18,b19,b20,b21,b22,b23,b24,b25,b26,b27,b28,b29,b30,b31,b32,b33,b34,b35,b36,b37,b38,b39,b40,b41,b42,b43,b44,b45,b46,b47,b48,b49,b50,b51,b52,b53,b54,b55,b56,b57,b58,b59,b60,b61,b62,b63,b64,b65,b66,b67,.pointer (some ⟨px,2,none⟩),(.slice (some ⟨gv,gvo,none⟩) bnb bbc),x111,x112,x113,x114,x115,x116,x117,x118,x119,x120,x121,x122,x123,x124,x125,x126,x127,x128,x129,x130,x131,x132,x133,x134,x135,x136,x137,x138,x139,x140,x141,x142,x143,x144,x145,x146,x147,x148,x149,x150,x151,x152,x153,x154,x155,x156,x157,x158,x159,x160,x161,x162,x163,x164,x165,x166,x167,x168,x169,x170,x171,x172,x173,x174,x175,x176,ea,ec,(by go_simp),(by go_simp),hb,rf,rf,cd2,cd3,cd4,cd5,cd6,cd7,cd8,cd9,cd10,cd11,cd12,cd13,cd14,cd15,cd16,cd17,cd18,cd19,cd20,cd21,cd22,cd23,cd24,cd25,cd26,cd27,cd28,cd29,cd30,cd31,cd32,cd33,cd34,cd35,cd36,cd37,cd38,cd39,cd40,cd41,cd42,cd43,cd44,cd45,cd46,cd47,cd48,cd49,cd50,cd51,cd52,cd53,cd54,cd55,cd56,cd57,cd58,cd59,cd60,cd61,cd62,cd63,cd64,cd65,cd66,cd67,f_e⟩
               · have hf' : b2 = false := hf
                 subst hf'
                 clear hf hd
                 try simp only [setIfInBounds_toArray, set_cons_zero, set_cons_succ]
                 intro K hK
                 rw [if_pos (by rfl)]
                 go_simp
                 exact hK.out _ _ ⟨b0,b1,true,b3,b4,b5,b6,b7,b8,b9,b10,b11,b12,b13,b14,b15,b16,b17,b18,b19,b20,b21,b22,b23,b24,b25,b26,b27,b28,b29,b30,b31,b32,b33,b34,b35,b36,b37,b38,b39,b40,b41,b42,b43,b44,b45,b46,b47,b48,b49,b50,b51,b52,b53,b54,b55,b56,b57,b58,b59,b60,b61,b62,b63,b64,b65,b66,b67,x109,x110,(.int .i64 (jn : Nat)),x112,x113,x114,x115,x116,x117,x118,x119,x120,x121,x122,x123,x124,x125,x126,x127,x128,x129,x130,x131,x132,x133,x134,x135,x136,x137,x138,x139,x140,x141,x142,x143,x144,x145,x146,x147,x148,x149,x150,x151,x152,x153,x154,x155,x156,x157,x158,x159,x160,x161,x162,x163,x164,x165,x166,x167,x168,x169,x170,x171,x172,x173,x174,x175,x176,ea,ec,(by go_simp),(by go_simp),hb,cd0,cd1,rf,cd3,cd4,cd5,cd6,cd7,cd8,cd9,cd10,cd11,cd12,cd13,cd14,cd15,cd16,cd17,cd18,cd19,cd20,cd21,cd22,cd23,cd24,cd25,cd26,cd27,cd28,cd29,cd30,cd31,cd32,cd33,cd34,cd35,cd36,cd37,cd38,cd39,cd40,cd41,cd42,cd43,cd44,cd45,cd46,cd47,cd48,cd49,cd50,cd51,cd52,cd53,cd54,cd55,cd56,cd57,cd58,cd59,cd60,cd61,cd62,cd63,cd64,cd65,cd66,cd67,f_e⟩
               · have hf' : b3 = false := hf
                 subst hf'
                 have d1 : b1 = true := hd ⟨1, .data⟩ (by simp) rfl
                 subst d1
                 have d2 : b2 = true := hd ⟨2, .data⟩ (by simp) rfl
                 subst d2
                 obtain rfl := cd1.out rfl
                 obtain rfl := cd2.out rfl
                 clear hf hd
                 try simp only [setIfInBounds_toArray, set_cons_zero, set_cons_succ]
                 intro K hK
                 rw [if_pos (by rfl)]
                 go_simp
                 exact hK.out _ _ ⟨b0,true,true,true,b4,b5,b6,b7,b8,b9,b10,b11,b12,b13,b14,b15,b16,b17,b18,b19,b20,b21,b22,b23,b24,b25,b26,b27,b28,b29,b30,b31,b32,b33,b34,b35,b36,b37,b38,b39,b40,b41,b42,b43,b44,b45,b46,b47,b48,b49,b50,b51,b52,b53,b54,b55,b56,b57,b58,b59,b60,b61,b62,b63,b64,b65,b66,b67,x109,.slice (some ⟨gv,gvo,none⟩) bnb bbc,.int .i64 (jn : Nat),(.pointer (some ⟨gv,gvo + jn * 66,none⟩)),x113,x114,x115,x116,x117,x118,x119,x120,x121,x122,x123,x124,x125,x126,x127,x128,x129,x130,x131,x132,x133,x134,x135,x136,x137,x138,x139,x140,x141,x142,x143,x144,x145,x146,x147,x148,x149,x150,x151,x152,x153,x154,x155,x156,x157,x158,x159,x160,x161,x162,x163,x164,x165,x166,x167,x168,x169,x170,x171,x172,x173,x174,x175,x176,ea,ec,(by go_simp),(by go_simp),hb,cd0,rf,rf,rf,cd4,cd5,cd6,cd7,cd8,cd9,cd10,cd11,cd12,cd13,cd14,cd15,cd16,cd17,cd18,cd19,cd20,cd21,cd22,cd23,cd24,cd25,cd26,cd27,cd28,cd29,cd30,cd31,cd32,cd33,cd34,cd35,cd36,cd37,cd38,cd39,cd40,cd41,cd42,cd43,cd44,cd45,cd46,cd47,cd48,cd49,cd50,cd51,cd52,cd53,cd54,cd55,cd56,cd57,cd58,cd59,cd60,cd61,cd62,cd63,cd64,cd65,cd66,cd67,f_e⟩
               · have hf' : b4 = false := hf
                 subst hf'
                 have d3 : b3 = true := hd ⟨3, .data⟩ (by simp) rfl
                 subst d3
                 obtain rfl := cd3.out rfl
                 clear hf hd
                 try simp only [setIfInBounds_toArray, set_cons_zero, set_cons_succ]
                 intro K hK
                 rw [if_pos (by rfl)]
                 go_simp
                 exact hK.out _ _ ⟨b0,b1,b2,true,true,b5,b6,b7,b8,b9,b10,b11,b12,b13,b14,b15,b16,b17,b18,b19,b20,b21,b22,b23,b24,b25,b26,b27,b28,b29,b30,b31,b32,b33,b34,b35,b36,b37,b38,b39,b40,b41,b42,b43,b44,b45,b46,b47,b48,b49,b50,b51,b52,b53,b54,b55,b56,b57,b58,b59,b60,b61,b62,b63,b64,b65,b66,b67,x109,x110,x111,.pointer (some ⟨gv,gvo + jn * 66,none⟩),(.pointer (some ⟨gv,gvo + jn * 66,none⟩)),x114,x115,x116,x117,x118,x119,x120,x121,x122,x123,x124,x125,x126,x127,x128,x129,x130,x131,x132,x133,x134,x135,x136,x137,x138,x139,x140,x141,x142,x143,x144,x145,x146,x147,x148,x149,x150,x151,x152,x153,x154,x155,x156,x157,x158,x159,x160,x161,x162,x163,x164,x165,x166,x167,x168,x169,x170,x171,x172,x173,x174,x175,x176,ea,ec,(by go_simp),(by go_simp),hb,cd0,cd1,cd2,rf,rf,cd5,cd6,cd7,cd8,cd9,cd10,cd11,cd12,cd13,cd14,cd15,cd16,cd17,cd18,cd19,cd20,cd21,cd22,cd23,cd24,cd25,cd26,cd27,cd28,cd29,cd30,cd31,cd32,cd33,cd34,cd35,cd36,cd37,cd38,cd39,cd40,cd41,cd42,cd43,cd44,cd45,cd46,cd47,cd48,cd49,cd50,cd51,cd52,cd53,cd54,cd55,cd56,cd57,cd58,cd59,cd60,cd61,cd62,cd63,cd64,cd65,cd66,cd67,f_e⟩
               · have hf' : b5 = false := hf
                 subst hf'
                 have d4 : b4 = true := hd ⟨4, .data⟩ (by simp) rfl
                 subst d4
                 obtain rfl := cd4.out rfl
                 clear hf hd
                 try simp only [setIfInBounds_toArray, set_cons_zero, set_cons_succ]
                 have z0 := (hb.cell hgv).trans cc0
                 intro K hK
                 rw [if_pos (by rfl)]
                 go_simp
                 exact hK.out _ _ ⟨b0,b1,b2,b3,true,true,b6,b7,b8,b9,b10,b11,b12,b13,b14,b15,b16,b17,b18,b19,b20,b21,b22,b23,b24,b25,b26,b27,b28,b29,b30,b31,b32,b33,b34,b35,b36,b37,b38,b39,b40,b41,b42,b43,b44,b45,b46,b47,b48,b49,b50,b51,b52,b53,b54,b55,b56,b57,b58,b59,b60,b61,b62,b63,b64,b65,b66,b67,x109,x110,x111,x112,.pointer (some ⟨gv,gvo + jn * 66,none⟩),(.int .i64 ((jn : Int) + 1)),x115,x116,x117,x118,x119,x120,x121,x122,x123,x124,x125,x126,x127,x128,x129,x130,x131,x132,x133,x134,x135,x136,x137,x138,x139,x140,x141,x142,x143,x144,x145,x146,x147,x148,x149,x150,x151,x152,x153,x154,x155,x156,x157,x158,x159,x160,x161,x162,x163,x164,x165,x166,x167,x168,x169,x170,x171,x172,x173,x174,x175,x176,ea,ec,(by go_simp),(by go_simp),hb,cd0,cd1,cd2,cd3,rf,rf,cd6,cd7,cd8,cd9,cd10,cd11,cd12,cd13,cd14,cd15,cd16,cd17,cd18,cd19,cd20,cd21,cd22,cd23,cd24,cd25,cd26,cd27,cd28,cd29,cd30,cd31,cd32,cd33,cd34,cd35,cd36,cd37,cd38,cd39,cd40,cd41,cd42,cd43,cd44,cd45,cd46,cd47,cd48,cd49,cd50,cd51,cd52,cd53,cd54,cd55,cd56,cd57,cd58,cd59,cd60,cd61,cd62,cd63,cd64,cd65,cd66,cd67,f_e⟩
               · have hf' : b6 = false := hf
                 subst hf'
                 clear hf hd
                 try simp only [setIfInBounds_toArray, set_cons_zero, set_cons_succ]
                 intro K hK
                 rw [if_pos (by rfl)]
                 go_simp
                 exact hK.out _ _ ⟨b0,b1,b2,b3,b4,b5,true,b7,b8,b9,b10,b11,b12,b13,b14,b15,b16,b17,b18,b19,b20,b21,b22,b23,b24,b25,b26,b27,b28,b29,b30,b31,b32,b33,b34,b35,b36,b37,b38,b39,b40,b41,b42,b43,b44,b45,b46,b47,b48,b49,b50,b51,b52,b53,b54,b55,b56,b57,b58,b59,b60,b61,b62,b63,b64,b65,b66,b67,x109,x110,x111,x112,x113,x114,(.int .i64 (jn : Nat)),x116,x117,x118,x119,x120,x121,x122,x123,x124,x125,x126,x127,x128,x129,x130,x131,x132,x133,x134,x135,x136,x137,x138,x139,x140,x141,x142,x143,x144,x145,x146,x147,x148,x149,x150,x151,x152,x153,x154,x155,x156,x157,x158,x159,x160,x161,x162,x163,x164,x165,x166,x167,x168,x169,x170,x171,x172,x173,x174,x175,x176,ea,ec,(by go_simp),(by go_simp),hb,cd0,cd1,cd2,cd3,cd4,cd5,rf,cd7,cd8,cd9,cd10,cd11,cd12,cd13,cd14,cd15,cd16,cd17,cd18,cd19,cd20,cd21,cd22,cd23,cd24,cd25,cd26,cd27,cd28,cd29,cd30,cd31,cd32,cd33,cd34,cd35,cd36,cd37,cd38,cd39,cd40,cd41,cd42,cd43,cd44,cd45,cd46,cd47,cd48,cd49,cd50,cd51,cd52,cd53,cd54,cd55,cd56,cd57,cd58,cd59,cd60,cd61,cd62,cd63,cd64,cd65,cd66,cd67,f_e⟩
               · have hf' : b7 = false := hf
                 subst hf'
                 have d6 : b6 = true := hd ⟨6, .data⟩ (by simp) rfl
                 subst d6
                 obtain rfl := cd6.out rfl
                 clear hf hd
                 try simp only [setIfInBounds_toArray, set_cons_zero, set_cons_succ]
                 intro K hK
                 rw [if_pos (by rfl)]
                 go_simp
                 rw [HJ1.out]
                 exact hK.out _ _ ⟨b0,b1,b2,b3,b4,b5,true,true,b8,b9,b10,b11,b12,b13,b14,b15,b16,b17,b18,b19,b20,b21,b22,b23,b24,b25,b26,b27,b28,b29,b30,b31,b32,b33,b34,b35,b36,b37,b38,b39,b40,b41,b42,b43,b44,b45,b46,b47,b48,b49,b50,b51,b52,b53,b54,b55,b56,b57,b58,b59,b60,b61,b62,b63,b64,b65,b66,b67,x109,x110,x111,x112,x113,x114,.int .i64 (jn : Nat),(.int .i64 ((jn : Int) + 1)),x117,x118,x119,x120,x121,x122,x123,x124,x125,x126,x127,x128,x129,x130,x131,x132,x133,x134,x135,x136,x137,x138,x139,x140,x141,x142,x143,x144,x145,x146,x147,x148,x149,x150,x151,x152,x153,x154,x155,x156,x157,x158,x159,x160,x161,x162,x163,x164,x165,x166,x167,x168,x169,x170,x171,x172,x173,x174,x175,x176,ea,ec,(by go_simp),(by go_simp),hb,cd0,cd1,cd2,cd3,cd4,cd5,rf,rf,cd8,cd9,cd10,cd11,cd12,cd13,cd14,cd15,cd16,cd17,cd18,cd19,cd20,cd21,cd22,cd23,cd24,cd25,cd26,cd27,cd28,cd29,cd30,cd31,cd32,cd33,cd34,cd35,cd36,cd37,cd38,cd39,cd40,cd41,cd42,cd43,cd44,cd45,cd46,cd47,cd48,cd49,cd50,cd51,cd52,cd53,cd54,cd55,cd56,cd57,cd58,cd59,cd60,cd61,cd62,cd63,cd64,cd65,cd66,cd67,f_e⟩
               · have hf' : b8 = false := hf
                 subst hf'
                 have d5 : b5 = true := hd ⟨5, .data⟩ (by simp) rfl
                 subst d5
                 have d7 : b7 = true := hd ⟨7, .data⟩ (by simp) rfl
                 subst d7
                 obtain rfl := cd5.out rfl
                 obtain rfl := cd7.out rfl
                 clear hf hd
                 try simp only [setIfInBounds_toArray, set_cons_zero, set_cons_succ]
                 intro K hK
                 rw [if_pos (by rfl)]
                 go_simp
                 exact hK.out _ _ ⟨b0,b1,b2,b3,b4,true,b6,true,true,b9,b10,b11,b12,b13,b14,b15,b16,b17,b18,b19,b20,b21,b22,b23,b24,b25,b26,b27,b28,b29,b30,b31,b32,b33,b34,b35,b36,b37,b38,b39,b40,b41,b42,b43,b44,b45,b46,b47,b48,b49,b50,b51,b52,b53,b54,b55,b56,b57,b58,b59,b60,b61,b62,b63,b64,b65,b66,b67,x109,x110,x111,x112,x113,.int .i64 ((jn : Int) + 1),x115,.int .i64 ((jn : Int) + 1),(.bool false),x118,x119,x120,x121,x122,x123,x124,x125,x126,x127,x128,x129,x130,x131,x132,x133,x134,x135,x136,x137,x138,x139,x140,x141,x142,x143,x144,x145,x146,x147,x148,x149,x150,x151,x152,x153,x154,x155,x156,x157,x158,x159,x160,x161,x162,x163,x164,x165,x166,x167,x168,x169,x170,x171,x172,x173,x174,x175,x176,ea,ec,(by go_simp),(by go_simp),hb,cd0,cd1,cd2,cd3,cd4,rf,cd6,rf,rf,cd9,cd10,cd11,cd12,cd13,cd14,cd15,cd16,cd17,cd18,cd19,cd20,cd21,cd22,cd23,cd24,cd25,cd26,cd27,cd28,cd29,cd30,cd31,cd32,cd33,cd34,cd35,cd36,cd37,cd38,cd39,cd40,cd41,cd42,cd43,cd44,cd45,cd46,cd47,cd48,cd49,cd50,cd51,cd52,cd53,cd54,cd55,cd56,cd57,cd58,cd59,cd60,cd61,cd62,cd63,cd64,cd65,cd66,cd67,f_e⟩
               · have hf' : b9 = false := hf
                 subst hf'
                 have d8 : b8 = true := hd ⟨8, .data⟩ (by simp) rfl
                 subst d8
                 obtain rfl := cd8.out rfl
                 clear hf hd
                 try simp only [setIfInBounds_toArray, set_cons_zero, set_cons_succ]
                 intro K hK
                 rw [if_pos (by rfl)]
                 go_simp
                 exact hK.out _ _ ⟨b0,b1,b2,b3,b4,b5,b6,b7,true,true,b10,b11,b12,b13,b14,b15,b16,b17,b18,b19,b20,b21,b22,b23,b24,b25,b26,b27,b28,b29,b30,b31,b32,b33,b34,b35,b36,b37,b38,b39,b40,b41,b42,b43,b44,b45,b46,b47,b48,b49,b50,b51,b52,b53,b54,b55,b56,b57,b58,b59,b60,b61,b62,b63,b64,b65,b66,b67,x109,x110,x111,x112,x113,x114,x115,x116,.bool false,(.bool false),x119,x120,x121,x122,x123,x124,x125,x126,x127,x128,x129,x130,x131,x132,x133,x134,x135,x136,x137,x138,x139,x140,x141,x142,x143,x144,x145,x146,x147,x148,x149,x150,x151,x152,x153,x154,x155,x156,x157,x158,x159,x160,x161,x162,x163,x164,x165,x166,x167,x168,x169,x170,x171,x172,x173,x174,x175,x176,ea,ec,(by go_simp),(by go_simp),hb,cd0,cd1,cd2,cd3,cd4,cd5,cd6,cd7,rf,rf,cd10,cd11,cd12,cd13,cd14,cd15,cd16,cd17,cd18,cd19,cd20,cd21,cd22,cd23,cd24,cd25,cd26,cd27,cd28,cd29,cd30,cd31,cd32,cd33,cd34,cd35,cd36,cd37,cd38,cd39,cd40,cd41,cd42,cd43,cd44,cd45,cd46,cd47,cd48,cd49,cd50,cd51,cd52,cd53,cd54,cd55,cd56,cd57,cd58,cd59,cd60,cd61,cd62,cd63,cd64,cd65,cd66,cd67,f_e⟩
               · have hf' : b10 = false := hf
                 subst hf'
                 have d9 : b9 = true := hd ⟨9, .guard⟩ (by simp) rfl
                 subst d9
                 obtain rfl := cd9.out rfl
                 clear hf hd
                 try simp only [setIfInBounds_toArray, set_cons_zero, set_cons_succ]
                 intro K hK
                 rw [if_pos (by rfl)]
                 go_simp
                 exact hK.out _ _ ⟨b0,b1,b2,b3,b4,b5,b6,b7,b8,true,true,b11,b12,b13,b14,b15,b16,b17,b18,b19,b20,b21,b22,b23,b24,b25,b26,b27,b28,b29,b30,b31,b32,b33,b34,b35,b36,b37,b38,b39,b40,b41,b42,b43,b44,b45,b46,b47,b48,b49,b50,b51,b52,b53,b54,b55,b56,b57,b58,b59,b60,b61,b62,b63,b64,b65,b66,b67,x109,x110,x111,x112,x113,x114,x115,x116,x117,.bool false,(.pointer (some ⟨px,2,none⟩)),x120,x121,x122,x123,x124,x125,x126,x127,x128,x129,x130,x131,x132,x133,x134,x135,x136,x137,x138,x139,x140,x141,x142,x143,x144,x145,x146,x147,x148,x149,x150,x151,x152,x153,x154,x155,x156,x157,x158,x159,x160,x161,x162,x163,x164,x165,x166,x167,x168,x169,x170,x171,x172,x173,x174,x175,x176,ea,ec,(by go_simp),(by go_simp),hb,cd0,cd1,cd2,cd3,cd4,cd5,cd6,cd7,cd8,rf,rf,cd11,cd12,cd13,cd14,cd15,cd16,cd17,cd18,cd19,cd20,cd21,cd22,cd23,cd24,cd25,cd26,cd27,cd28,cd29,cd30,cd31,cd32,cd33,cd34,cd35,cd36,cd37,cd38,cd39,cd40,cd41,cd42,cd43,cd44,cd45,cd46,cd47,cd48,cd49,cd50,cd51,cd52,cd53,cd54,cd55,cd56,cd57,cd58,cd59,cd60,cd61,cd62,cd63,cd64,cd65,cd66,cd67,f_e⟩
               · have hf' : b11 = false := hf
                 subst hf'
                 have d10 : b10 = true := hd ⟨10, .data⟩ (by simp) rfl
                 subst d10
                 have d9 : b9 = true := hd ⟨9, .guard⟩ (by simp) rfl
                 subst d9
                 obtain rfl := cd10.out rfl
                 obtain rfl := cd9.out rfl
                 clear hf hd
                 try simp only [setIfInBounds_toArray, set_cons_zero, set_cons_succ]
                 have z0 := (hb.cell hpx).trans cx2
                 intro K hK
                 rw [if_pos (by rfl)]
                 go_simp
                 exact hK.out _ _ ⟨b0,b1,b2,b3,b4,b5,b6,b7,b8,true,true,true,b12,b13,b14,b15,b16,b17,b18,b19,b20,b21,b22,b23,b24,b25,b26,b27,b28,b29,b30,b31,b32,b33,b34,b35,b36,b37,b38,b39,b40,b41,b42,b43,b44,b45,b46,b47,b48,b49,b50,b51,b52,b53,b54,b55,b56,b57,b58,b59,b60,b61,b62,b63,b64,b65,b66,b67,x109,x110,x111,x112,x113,x114,x115,x116,x117,.bool false,.pointer (some ⟨px,2,none⟩),(.slice (some ⟨gv,gvo,none⟩) bnb bbc),x121,x122,x123,x124,x125,x126,x127,x128,x129,x130,x131,x132,x133,x134,x135,x136,x137,x138,x139,x140,x141,x142,x143,x144,x145,x146,x147,x148,x149,x150,x151,x152,x153,x154,x155,x156,x157,x158,x159,x160,x161,x162,x163,x164,x165,x166,x167,x168,x169,x170,x171,x172,x173,x174,x175,x176,ea,ec,(by go_simp),(by go_simp),hb,cd0,cd1,cd2,cd3,cd4,cd5,cd6,cd7,cd8,rf,rf,rf,cd12,cd13,cd14,cd15,cd16,cd17,cd18,cd19,cd20,cd21,cd22,cd23,cd24,cd25,cd26,cd27,cd28,cd29,cd30,cd31,cd32,cd33,cd34,cd35,cd36,cd37,cd38,cd39,cd40,cd41,cd42,cd43,cd44,cd45,cd46,cd47,cd48,cd49,cd50,cd51,cd52,cd53,cd54,cd55,cd56,cd57,cd58,cd59,cd60,cd61,cd62,cd63,cd64,cd65,cd66,cd67,f_e⟩
               · have hf' : b12 = false := hf
                 subst hf'
                 have d9 : b9 = true := hd ⟨9, .guard⟩ (by simp) rfl
                 subst d9
                 obtain rfl := cd9.out rfl
                 clear hf hd
                 try simp only [setIfInBounds_toArray, set_cons_zero, set_cons_succ]
                 intro K hK
                 rw [if_pos (by rfl)]
                 go_simp
                 exact hK.out _ _ ⟨b0,b1,b2,b3,b4,b5,b6,b7,b8,true,b10,b11,true,b13,b14,b15,b16,b17,b18,b19,b20,b21,b22,b23,b24,b25,b26,b27,b28,b29,b30,b31,b32,b33,b34,b35,b36,b37,b38,b39,b40,b41,b42,b43,b44,b45,b46,b47,b48,b49,b50,b51,b52,b53,b54,b55,b56,b57,b58,b59,b60,b61,b62,b63,b64,b65,b66,b67,x109,x110,x111,x112,x113,x114,x115,x116,x117,.bool false,x119,x120,(.int .i64 (jn : Nat)),x122,x123,x124,x125,x126,x127,x128,x129,x130,x131,x132,x133,x134,x135,x136,x137,x138,x139,x140,x141,x142,x143,x144,x145,x146,x147,x148,x149,x150,x151,x152,x153,x154,x155,x156,x157,x158,x159,x160,x161,x162,x163,x164,x165,x166,x167,x168,x169,x170,x171,x172,x173,x174,x175,x176,ea,ec,(by go_simp),(by go_simp),hb,cd0,cd1,cd2,cd3,cd4,cd5,cd6,cd7,cd8,rf,cd10,cd11,rf,cd13,cd14,cd15,cd16,cd17,cd18,cd19,cd20,cd21,cd22,cd23,cd24,cd25,cd26,cd27,cd28,cd29,cd30,cd31,cd32,cd33,cd34,cd35,cd36,cd37,cd38,cd39,cd40,cd41,cd42,cd43,cd44,cd45,cd46,cd47,cd48,cd49,cd50,cd51,cd52,cd53,cd54,cd55,cd56,cd57,cd58,cd59,cd60,cd61,cd62,cd63,cd64,cd65,cd66,cd67,f_e⟩
               · have hf' : b13 = false := hf
                 subst hf'
                 have d11 : b11 = true := hd ⟨11, .data⟩ (by simp) rfl
                 subst d11
                 have d12 : b12 = true := hd ⟨12, .data⟩ (by simp) rfl
                 subst d12
                 have d9 : b9 = true := hd ⟨9, .guard⟩ (by simp) rfl
                 subst d9
                 obtain rfl := cd11.out rfl
                 obtain rfl := cd12.out rfl
                 obtain rfl := cd9.out rfl
                 clear hf hd
                 try simp only [setIfInBounds_toArray, set_cons_zero, set_cons_succ]
                 intro K hK
                 rw [if_pos (by rfl)]
                 go_simp
                 exact hK.out _ _ ⟨b0,b1,b2,b3,b4,b5,b6,b7,b8,true,b10,true,true,true,b14,b15,b16,b17,b18,b19,b20,b21,b22,b23,b24,b25,b26,b27,b28,b29,b30,b31,b32,b33,b34,b35,b36,b37,b38,b39,b40,b41,b42,b43,b44,b45,b46,b47,b48,b49,b50,b51,b52,b53,b54,b55,b56,b57,b58,b59,b60,b61,b62,b63,b64,b65,b66,b67,x109,x110,x111,x112,x113,x114,x115,x116,x117,.bool false,x119,.slice (some ⟨gv,gvo,none⟩) bnb bbc,.int .i64 (jn : Nat),(.pointer (some ⟨gv,gvo + jn * 66,none⟩)),x123,x124,x125,x126,x127,x128,x129,x130,x131,x132,x133,x134,x135,x136,x137,x138,x139,x140,x141,x142,x143,x144,x145,x146,x147,x148,x149,x150,x151,x152,x153,x154,x155,x156,x157,x158,x159,x160,x161,x162,x163,x164,x165,x166,x167,x168,x169,x170,x171,x172,x173,x174,x175,x176,ea,ec,(by go_simp),(by go_simp),hb,cd0,cd1,cd2,cd3,cd4,cd5,cd6,cd7,cd8,rf,cd10,rf,rf,rf,cd14,cd15,cd16,cd17,cd18,cd19,cd20,cd21,cd22,cd23,cd24,cd25,cd26,cd27,cd28,cd29,cd30,cd31,cd32,cd33,cd34,cd35,cd36,cd37,cd38,cd39,cd40,cd41,cd42,cd43,cd44,cd45,cd46,cd47,cd48,cd49,cd50,cd51,cd52,cd53,cd54,cd55,cd56,cd57,cd58,cd59,cd60,cd61,cd62,cd63,cd64,cd65,cd66,cd67,f_e⟩
               · have hf' : b14 = false := hf
                 subst hf'
                 have d13 : b13 = true := hd ⟨13, .data⟩ (by simp) rfl
                 subst d13
                 have d9 : b9 = true := hd ⟨9, .guard⟩ (by simp) rfl
                 subst d9
                 obtain rfl := cd13.out rfl
                 obtain rfl := cd9.out rfl
                 clear hf hd
                 try simp only [setIfInBounds_toArray, set_cons_zero, set_cons_succ]
                 intro K hK
                 rw [if_pos (by rfl)]
                 go_simp
                 exact hK.out _ _ ⟨b0,b1,b2,b3,b4,b5,b6,b7,b8,true,b10,b11,b12,true,true,b15,b16,b17,b18,b19,b20,b21,b22,b23,b24,b25,b26,b27,b28,b29,b30,b31,b32,b33,b34,b35,b36,b37,b38,b39,b40,b41,b42,b43,b44,b45,b46,b47,b48,b49,b50,b51,b52,b53,b54,b55,b56,b57,b58,b59,b60,b61,b62,b63,b64,b65,b66,b67,x109,x110,x111,x112,x113,x114,x115,x116,x117,.bool false,x119,x120,x121,.pointer (some ⟨gv,gvo + jn * 66,none⟩),(.pointer (some ⟨gv,gvo + jn * 66 + 1,none⟩)),x124,x125,x126,x127,x128,x129,x130,x131,x132,x133,x134,x135,x136,x137,x138,x139,x140,x141,x142,x143,x144,x145,x146,x147,x148,x149,x150,x151,x152,x153,x154,x155,x156,x157,x158,x159,x160,x161,x162,x163,x164,x165,x166,x167,x168,x169,x170,x171,x172,x173,x174,x175,x176,ea,ec,(by go_simp),(by go_simp),hb,cd0,cd1,cd2,cd3,cd4,cd5,cd6,cd7,cd8,rf,cd10,cd11,cd12,rf,rf,cd15,cd16,cd17,cd18,cd19,cd20,cd21,cd22,cd23,cd24,cd25,cd26,cd27,cd28,cd29,cd30,cd31,cd32,cd33,cd34,cd35,cd36,cd37,cd38,cd39,cd40,cd41,cd42,cd43,cd44,cd45,cd46,cd47,cd48,cd49,cd50,cd51,cd52,cd53,cd54,cd55,cd56,cd57,cd58,cd59,cd60,cd61,cd62,cd63,cd64,cd65,cd66,cd67,f_e⟩
               · have hf' : b15 = false := hf
                 subst hf'
                 have d14 : b14 = true := hd ⟨14, .data⟩ (by simp) rfl
                 subst d14
                 have d9 : b9 = true := hd ⟨9, .guard⟩ (by simp) rfl
                 subst d9
                 obtain rfl := cd14.out rfl
                 obtain rfl := cd9.out rfl
                 clear hf hd
                 try simp only [setIfInBounds_toArray, set_cons_zero, set_cons_succ]
                 intro K hK
                 rw [if_pos (by rfl)]
                 refine wp_load_cells 53 _ rfl ⟨gv, gvo + jn * 66 + 1, none⟩ rfl HP.toList (fun q v hv => HV1.out w hb q v hv) hash_agg (by rw [sizeHash, HPS.out]) ?_
                 simp only [Array.toArray_toList]
                 exact hK.out _ _ ⟨b0,b1,b2,b3,b4,b5,b6,b7,b8,true,b10,b11,b12,b13,true,true,b16,b17,b18,b19,b20,b21,b22,b23,b24,b25,b26,b27,b28,b29,b30,b31,b32,b33,b34,b35,b36,b37,b38,b39,b40,b41,b42,b43,b44,b45,b46,b47,b48,b49,b50,b51,b52,b53,b54,b55,b56,b57,b58,b59,b60,b61,b62,b63,b64,b65,b66,b67,x109,x110,x111,x112,x113,x114,x115,x116,x117,.bool false,x119,x120,x121,x122,.pointer (some ⟨gv,gvo + jn * 66 + 1,none⟩),(.agg HP),x125,x126,x127,x128,x129,x130,x131,x132,x133,x134,x135,x136,x137,x138,x139,x140,x141,x142,x143,x144,x145,x146,x147,x148,x149,x150,x151,x152,x153,x154,x155,x156,x157,x158,x159,x160,x161,x162,x163,x164,x165,x166,x167,x168,x169,x170,x171,x172,x173,x174,x175,x176,ea,ec,(by go_simp),(by go_simp),hb,cd0,cd1,cd2,cd3,cd4,cd5,cd6,cd7,cd8,rf,cd10,cd11,cd12,cd13,rf,rf,cd16,cd17,cd18,cd19,cd20,cd21,cd22,cd23,cd24,cd25,cd26,cd27,cd28,cd29,cd30,cd31,cd32,cd33,cd34,cd35,cd36,cd37,cd38,cd39,cd40,cd41,cd42,cd43,cd44,cd45,cd46,cd47,cd48,cd49,cd50,cd51,cd52,cd53,cd54,cd55,cd56,cd57,cd58,cd59,cd60,cd61,cd62,cd63,cd64,cd65,cd66,cd67,f_e⟩
               · have hf' : b16 = false := hf
                 subst hf'
                 have d9 : b9 = true := hd ⟨9, .guard⟩ (by simp) rfl
                 subst d9
                 obtain rfl := cd9.out rfl
                 clear hf hd
                 try simp only [setIfInBounds_toArray, set_cons_zero, set_cons_succ]
                 intro K hK
                 rw [if_pos (by rfl)]
                 refine wp_load_cells 53 _ rfl ⟨pv, 0, none⟩ rfl HP.toList (fun q v hv => HPv.out w hb q v hv) hash_agg (by rw [sizeHash, HPS.out]) ?_
                 simp only [Array.toArray_toList]
                 exact hK.out _ _ ⟨b0,b1,b2,b3,b4,b5,b6,b7,b8,true,b10,b11,b12,b13,b14,b15,true,b17,b18,b19,b20,b21,b22,b23,b24,b25,b26,b27,b28,b29,b30,b31,b32,b33,b34,b35,b36,b37,b38,b39,b40,b41,b42,b43,b44,b45,b46,b47,b48,b49,b50,b51,b52,b53,b54,b55,b56,b57,b58,b59,b60,b61,b62,b63,b64,b65,b66,b67,x109,x110,x111,x112,x113,x114,x115,x116,x117,.bool false,x119,x120,x121,x122,x123,x124,(.agg HP),x126,x127,x128,x129,x130,x131,x132,x133,x134,x135,x136,x137,x138,x139,x140,x141,x142,x143,x144,x145,x146,x147,x148,x149,x150,x151,x152,x153,x154,x155,x156,x157,x158,x159,x160,x161,x162,x163,x164,x165,x166,x167,x168,x169,x170,x171,x172,x173,x174,x175,x176,ea,ec,(by go_simp),(by go_simp),hb,cd0,cd1,cd2,cd3,cd4,cd5,cd6,cd7,cd8,rf,cd10,cd11,cd12,cd13,cd14,cd15,rf,cd17,cd18,cd19,cd20,cd21,cd22,cd23,cd24,cd25,cd26,cd27,cd28,cd29,cd30,cd31,cd32,cd33,cd34,cd35,cd36,cd37,cd38,cd39,cd40,cd41,cd42,cd43,cd44,cd45,cd46,cd47,cd48,cd49,cd50,cd51,cd52,cd53,cd54,cd55,cd56,cd57,cd58,cd59,cd60,cd61,cd62,cd63,cd64,cd65,cd66,cd67,f_e⟩
               · have hf' : b17 = false := hf
                 subst hf'
                 have d15 : b15 = true := hd ⟨15, .data⟩ (by simp) rfl
                 subst d15
                 have d16 : b16 = true := hd ⟨16, .data⟩ (by simp) rfl
                 subst d16
                 have d9 : b9 = true := hd ⟨9, .guard⟩ (by simp) rfl
                 subst d9
                 obtain rfl := cd15.out rfl
                 obtain rfl := cd16.out rfl
                 obtain rfl := cd9.out rfl
                 clear hf hd
                 try simp only [setIfInBounds_toArray, set_cons_zero, set_cons_succ]
                 intro K hK
                 rw [if_pos (by rfl)]
                 go_simp
                 exact hK.out _ _ ⟨b0,b1,b2,b3,b4,b5,b6,b7,b8,true,b10,b11,b12,b13,b14,true,true,true,b18,b19,b20,b21,b22,b23,b24,b25,b26,b27,b28,b29,b30,b31,b32,b33,b34,b35,b36,b37,b38,b39,b40,b41,b42,b43,b44,b45,b46,b47,b48,b49,b50,b51,b52,b53,b54,b55,b56,b57,b58,b59,b60,b61,b62,b63,b64,b65,b66,b67,x109,x110,x111,x112,x113,x114,x115,x116,x117,.bool false,x119,x120,x121,x122,x123,.agg HP,.agg HP,(.bool false),x127,x128,x129,x130,x131,x132,x133,x134,x135,x136,x137,x138,x139,x140,x141,x142,x143,x144,x145,x146,x147,x148,x149,x150,x151,x152,x153,x154,x155,x156,x157,x158,x159,x160,x161,x162,x163,x164,x165,x166,x167,x168,x169,x170,x171,x172,x173,x174,x175,x176,ea,ec,(by go_simp),(by go_simp),hb,cd0,cd1,cd2,cd3,cd4,cd5,cd6,cd7,cd8,rf,cd10,cd11,cd12,cd13,cd14,rf,rf,rf,cd18,cd19,cd20,cd21,cd22,cd23,cd24,cd25,cd26,cd27,cd28,cd29,cd30,cd31,cd32,cd33,cd34,cd35,cd36,cd37,cd38,cd39,cd40,cd41,cd42,cd43,cd44,cd45,cd46,cd47,cd48,cd49,cd50,cd51,cd52,cd53,cd54,cd55,cd56,cd57,cd58,cd59,cd60,cd61,cd62,cd63,cd64,cd65,cd66,cd67,f_e⟩
               · have hf' : b18 = false := hf
                 subst hf'
                 have d9 : b9 = true := hd ⟨9, .data⟩ (by simp) rfl
                 subst d9
                 have d17 : b17 = true := hd ⟨17, .data⟩ (by simp) rfl
                 subst d17
                 obtain rfl := cd9.out rfl
                 obtain rfl := cd17.out rfl
                 clear hf hd
                 try simp only [setIfInBounds_toArray, set_cons_zero, set_cons_succ]
                 intro K hK
                 rw [if_pos (by rfl)]
                 go_simp
                 exact hK.out _ _ ⟨b0,b1,b2,b3,b4,b5,b6,b7,b8,true,b10,b11,b12,b13,b14,b15,b16,true,true,b19,b20,b21,b22,b23,b24,b25,b26,b27,b28,b29,b30,b31,b32,b33,b34,b35,b36,b37,b38,b39,b40,b41,b42,b43,b44,b45,b46,b47,b48,b49,b50,b51,b52,b53,b54,b55,b56,b57,b58,b59,b60,b61,b62,b63,b64,b65,b66,b67,x109,x110,x111,x112,x113,x114,x115,x116,x117,.bool false,x119,x120,x121,x122,x123,x124,x125,.bool false,(.bool false),x128,x129,x130,x131,x132,x133,x134,x135,x136,x137,x138,x139,x140,x141,x142,x143,x144,x145,x146,x147,x148,x149,x150,x151,x152,x153,x154,x155,x156,x157,x158,x159,x160,x161,x162,x163,x164,x165,x166,x167,x168,x169,x170,x171,x172,x173,x174,x175,x176,ea,ec,(by go_simp),(by go_simp),hb,cd0,cd1,cd2,cd3,cd4,cd5,cd6,cd7,cd8,rf,cd10,cd11,cd12,cd13,cd14,cd15,cd16,rf,rf,cd19,cd20,cd21,cd22,cd23,cd24,cd25,cd26,cd27,cd28,cd29,cd30,cd31,cd32,cd33,cd34,cd35,cd36,cd37,cd38,cd39,cd40,cd41,cd42,cd43,cd44,cd45,cd46,cd47,cd48,cd49,cd50,cd51,cd52,cd53,cd54,cd55,cd56,cd57,cd58,cd59,cd60,cd61,cd62,cd63,cd64,cd65,cd66,cd67,f_e⟩
               · have hf' : b19 = false := hf
                 subst hf'
                 have d18 : b18 = true := hd ⟨18, .data⟩ (by simp) rfl
                 subst d18
                 have d9 : b9 = true := hd ⟨9, .chain⟩ (by simp) rfl
                 subst d9
                 obtain rfl := cd18.out rfl
                 obtain rfl := cd9.out rfl
                 clear hf hd
                 try simp only [setIfInBounds_toArray, set_cons_zero, set_cons_succ]
                 intro K hK
                 rw [if_pos (by rfl)]
                 go_simp
                 exact hK.out _ _ ⟨b0,b1,b2,b3,b4,b5,b6,b7,b8,true,b10,b11,b12,b13,b14,b15,b16,b17,true,true,b20,b21,b22,b23,b24,b25,b26,b27,b28,b29,b30,b31,b32,b33,b34,b35,b36,b37,b38,b39,b40,b41,b42,b43,b44,b45,b46,b47,b48,b49,b50,b51,b52,b53,b54,b55,b56,b57,b58,b59,b60,b61,b62,b63,b64,b65,b66,b67,x109,x110,x111,x112,x113,x114,x115,x116,x117,.bool false,x119,x120,x121,x122,x123,x124,x125,x126,.bool false,(.bool false),x129,x130,x131,x132,x133,x134,x135,x136,x137,x138,x139,x140,x141,x142,x143,x144,x145,x146,x147,x148,x149,x150,x151,x152,x153,x154,x155,x156,x157,x158,x159,x160,x161,x162,x163,x164,x165,x166,x167,x168,x169,x170,x171,x172,x173,x174,x175,x176,ea,ec,(by go_simp),(by go_simp),hb,cd0,cd1,cd2,cd3,cd4,cd5,cd6,cd7,cd8,rf,cd10,cd11,cd12,cd13,cd14,cd15,cd16,cd17,rf,rf,cd20,cd21,cd22,cd23,cd24,cd25,cd26,cd27,cd28,cd29,cd30,cd31,cd32,cd33,cd34,cd35,cd36,cd37,cd38,cd39,cd40,cd41,cd42,cd43,cd44,cd45,cd46,cd47,cd48,cd49,cd50,cd51,cd52,cd53,cd54,cd55,cd56,cd57,cd58,cd59,cd60,cd61,cd62,cd63,cd64,cd65,cd66,cd67,f_e⟩
               · have hf' : b20 = false := hf
                 subst hf'
                 have d19 : b19 = true := hd ⟨19, .guard⟩ (by simp) rfl
                 subst d19
                 obtain rfl := cd19.out rfl
                 clear hf hd
                 try simp only [setIfInBounds_toArray, set_cons_zero, set_cons_succ]
                 intro K hK
                 rw [if_pos (by rfl)]
                 go_simp
                 exact hK.out _ _ ⟨b0,b1,b2,b3,b4,b5,b6,b7,b8,b9,b10,b11,b12,b13,b14,b15,b16,b17,b18,true,true,b21,b22,b23,b24,b25,b26,b27,b28,b29,b30,b31,b32,b33,b34,b35,b36,b37,b38,b39,b40,b41,b42,b43,b44,b45,b46,b47,b48,b49,b50,b51,b52,b53,b54,b55,b56,b57,b58,b59,b60,b61,b62,b63,b64,b65,b66,b67,x109,x110,x111,x112,x113,x114,x115,x116,x117,x118,x119,x120,x121,x122,x123,x124,x125,x126,x127,.bool false,(.pointer (some ⟨px,2,none⟩)),x130,x131,x132,x133,x134,x135,x136,x137,x138,x139,x140,x141,x142,x143,x144,x145,x146,x147,x148,x149,x150,x151,x152,x153,x154,x155,x156,x157,x158,x159,x160,x161,x162,x163,x164,x165,x166,x167,x168,x169,x170,x171,x172,x173,x174,x175,x176,ea,ec,(by go_simp),(by go_simp),hb,cd0,cd1,cd2,cd3,cd4,cd5,cd6,cd7,cd8,cd9,cd10,cd11,cd12,cd13,cd14,cd15,cd16,cd17,cd18,rf,rf,cd21,cd22,cd23,cd24,cd25,cd26,cd27,cd28,cd29,cd30,cd31,cd32,cd33,cd34,cd35,cd36,cd37,cd38,cd39,cd40,cd41,cd42,cd43,cd44,cd45,cd46,cd47,cd48,cd49,cd50,cd51,cd52,cd53,cd54,cd55,cd56,cd57,cd58,cd59,cd60,cd61,cd62,cd63,cd64,cd65,cd66,cd67,f_e⟩
               · have hf' : b21 = false := hf
                 subst hf'
                 have d20 : b20 = true := hd ⟨20, .data⟩ (by simp) rfl
                 subst d20
                 have d19 : b19 = true := hd ⟨19, .guard⟩ (by simp) rfl
                 subst d19
                 obtain rfl := cd20.out rfl
                 obtain rfl := cd19.out rfl
                 clear hf hd
                 try simp only [setIfInBounds_toArray, set_cons_zero, set_cons_succ]
                 have z0 := (hb.cell hpx).trans cx2
                 intro K hK
                 rw [if_pos (by rfl)]
                 go_simp
                 exact hK.out _ _ ⟨b0,b1,b2,b3,b4,b5,b6,b7,b8,b9,b10,b11,b12,b13,b14,b15,b16,b17,b18,true,true,true,b22,b23,b24,b25,b26,b27,b28,b29,b30,b31,b32,b33,b34,b35,b36,b37,b38,b39,b40,b41,b42,b43,b44,b45,b46,b47,b48,b49,b50,b51,b52,b53,b54,b55,b56,b57,b58,b59,b60,b61,b62,b63,b64,b65,b66,b67,x109,x110,x111,x112,x113,x114,x115,x116,x117,x118,x119,x120,x121,x122,x123,x124,x125,x126,x127,.bool false,.pointer (some ⟨px,2,none⟩),(.slice (some ⟨gv,gvo,none⟩) bnb bbc),x131,x132,x133,x134,x135,x136,x137,x138,x139,x140,x141,x142,x143,x144,x145,x146,x147,x148,x149,x150,x151,x152,x153,x154,x155,x156,x157,x158,x159,x160,x161,x162,x163,x164,x165,x166,x167,x168,x169,x170,x171,x172,x173,x174,x175,x176,ea,ec,(by go_simp),(by go_simp),hb,cd0,cd1,cd2,cd3,cd4,cd5,cd6,cd7,cd8,cd9,cd10,cd11,cd12,cd13,cd14,cd15,cd16,cd17,cd18,rf,rf,rf,cd22,cd23,cd24,cd25,cd26,cd27,cd28,cd29,cd30,cd31,cd32,cd33,cd34,cd35,cd36,cd37,cd38,cd39,cd40,cd41,cd42,cd43,cd44,cd45,cd46,cd47,cd48,cd49,cd50,cd51,cd52,cd53,cd54,cd55,cd56,cd57,cd58,cd59,cd60,cd61,cd62,cd63,cd64,cd65,cd66,cd67,f_e⟩
               · have hf' : b22 = false := hf
                 subst hf'
                 have d19 : b19 = true := hd ⟨19, .guard⟩ (by simp) rfl
                 subst d19
                 obtain rfl := cd19.out rfl
                 clear hf hd
                 try simp only [setIfInBounds_toArray, set_cons_zero, set_cons_succ]
                 intro K hK
                 rw [if_pos (by rfl)]
                 go_simp
                 exact hK.out _ _ ⟨b0,b1,b2,b3,b4,b5,b6,b7,b8,b9,b10,b11,b12,b13,b14,b15,b16,b17,b18,true,b20,b21,true,b23,b24,b25,b26,b27,b28,b29,b30,b31,b32,b33,b34,b35,b36,b37,b38,b39,b40,b41,b42,b43,b44,b45,b46,b47,b48,b49,b50,b51,b52,b53,b54,b55,b56,b57,b58,b59,b60,b61,b62,b63,b64,b65,b66,b67,x109,x110,x111,x112,x113,x114,x115,x116,x117,x118,x119,x120,x121,x122,x123,x124,x125,x126,x127,.bool false,x129,x130,(.int .i64 (jn : Nat)),x132,x133,x134,x135,x136,x137,x138,x139,x140,x141,x142,x143,x144,x145,x146,x147,x148,x149,x150,x151,x152,x153,x154,x155,x156,x157,x158,x159,x160,x161,x162,x163,x164,x165,x166,x167,x168,x169,x170,x171,x172,x173,x174,x175,x176,ea,ec,(by go_simp),(by go_simp),hb,cd0,cd1,cd2,cd3,cd4,cd5,cd6,cd7,cd8,cd9,cd10,cd11,cd12,cd13,cd14,cd15,cd16,cd17,cd18,rf,cd20,cd21,rf,cd23,cd24,cd25,cd26,cd27,cd28,cd29,cd30,cd31,cd32,cd33,cd34,cd35,cd36,cd37,cd38,cd39,cd40,cd41,cd42,cd43,cd44,cd45,cd46,cd47,cd48,cd49,cd50,cd51,cd52,cd53,cd54,cd55,cd56,cd57,cd58,cd59,cd60,cd61,cd62,cd63,cd64,cd65,cd66,cd67,f_e⟩
               · have hf' : b23 = false := hf
                 subst hf'
                 have d21 : b21 = true := hd ⟨21, .data⟩ (by simp) rfl
                 subst d21
                 have d22 : b22 = true := hd ⟨22, .data⟩ (by simp) rfl
                 subst d22
                 have d19 : b19 = true := hd ⟨19, .guard⟩ (by simp) rfl
                 subst d19
                 obtain rfl := cd21.out rfl
                 obtain rfl := cd22.out rfl
                 obtain rfl := cd19.out rfl
                 clear hf hd
                 try simp only [setIfInBounds_toArray, set_cons_zero, set_cons_succ]
                 intro K hK
                 rw [if_pos (by rfl)]
                 go_simp
                 exact hK.out _ _ ⟨b0,b1,b2,b3,b4,b5,b6,b7,b8,b9,b10,b11,b12,b13,b14,b15,b16,b17,b18,true,b20,true,true,true,b24,b25,b26,b27,b28,b29,b30,b31,b32,b33,b34,b35,b36,b37,b38,b39,b40,b41,b42,b43,b44,b45,b46,b47,b48,b49,b50,b51,b52,b53,b54,b55,b56,b57,b58,b59,b60,b61,b62,b63,b64,b65,b66,b67,x109,x110,x111,x112,x113,x114,x115,x116,x117,x118,x119,x120,x121,x122,x123,x124,x125,x126,x127,.bool false,x129,.slice (some ⟨gv,gvo,none⟩) bnb bbc,.int .i64 (jn : Nat),(.pointer (some ⟨gv,gvo + jn * 66,none⟩)),x133,x134,x135,x136,x137,x138,x139,x140,x141,x142,x143,x144,x145,x146,x147,x148,x149,x150,x151,x152,x153,x154,x155,x156,x157,x158,x159,x160,x161,x162,x163,x164,x165,x166,x167,x168,x169,x170,x171,x172,x173,x174,x175,x176,ea,ec,(by go_simp),(by go_simp),hb,cd0,cd1,cd2,cd3,cd4,cd5,cd6,cd7,cd8,cd9,cd10,cd11,cd12,cd13,cd14,cd15,cd16,cd17,cd18,rf,cd20,rf,rf,rf,cd24,cd25,cd26,cd27,cd28,cd29,cd30,cd31,cd32,cd33,cd34,cd35,cd36,cd37,cd38,cd39,cd40,cd41,cd42,cd43,cd44,cd45,cd46,cd47,cd48,cd49,cd50,cd51,cd52,cd53,cd54,cd55,cd56,cd57,cd58,cd59,cd60,cd61,cd62,cd63,cd64,cd65,cd66,cd67,f_e⟩
               · have hf' : b24 = false := hf
                 subst hf'
                 have d23 : b23 = true := hd ⟨23, .data⟩ (by simp) rfl
                 subst d23
                 have d19 : b19 = true := hd ⟨19, .guard⟩ (by simp) rfl
                 subst d19
                 obtain rfl := cd23.out rfl
                 obtain rfl := cd19.out rfl
                 clear hf hd
                 try simp only [setIfInBounds_toArray, set_cons_zero, set_cons_succ]
                 intro K hK
                 rw [if_pos (by rfl)]
                 go_simp
                 exact hK.out _ _ ⟨b0,b1,b2,b3,b4,b5,b6,b7,b8,b9,b10,b11,b12,b13,b14,b15,b16,b17,b18,true,b20,b21,b22,true,true,b25,b26,b27,b28,b29,b30,b31,b32,b33,b34,b35,b36,b37,b38,b39,b40,b41,b42,b43,b44,b45,b46,b47,b48,b49,b50,b51,b52,b53,b54,b55,b56,b57,b58,b59,b60,b61,b62,b63,b64,b65,b66,b67,x109,x110,x111,x112,x113,x114,x115,x116,x117,x118,x119,x120,x121,x122,x123,x124,x125,x126,x127,.bool false,x129,x130,x131,.pointer (some ⟨gv,gvo + jn * 66,none⟩),(.pointer (some ⟨gv,gvo + jn * 66 + 65,none⟩)),x134,x135,x136,x137,x138,x139,x140,x141,x142,x143,x144,x145,x146,x147,x148,x149,x150,x151,x152,x153,x154,x155,x156,x157,x158,x159,x160,x161,x162,x163,x164,x165,x166,x167,x168,x169,x170,x171,x172,x173,x174,x175,x176,ea,ec,(by go_simp),(by go_simp),hb,cd0,cd1,cd2,cd3,cd4,cd5,cd6,cd7,cd8,cd9,cd10,cd11,cd12,cd13,cd14,cd15,cd16,cd17,cd18,rf,cd20,cd21,cd22,rf,rf,cd25,cd26,cd27,cd28,cd29,cd30,cd31,cd32,cd33,cd34,cd35,cd36,cd37,cd38,cd39,cd40,cd41,cd42,cd43,cd44,cd45,cd46,cd47,cd48,cd49,cd50,cd51,cd52,cd53,cd54,cd55,cd56,cd57,cd58,cd59,cd60,cd61,cd62,cd63,cd64,cd65,cd66,cd67,f_e⟩
               · have hf' : b25 = false := hf
                 subst hf'
                 have d24 : b24 = true := hd ⟨24, .data⟩ (by simp) rfl
                 subst d24
                 have d19 : b19 = true := hd ⟨19, .guard⟩ (by simp) rfl
                 subst d19
                 obtain rfl := cd24.out rfl
                 obtain rfl := cd19.out rfl
                 clear hf hd
                 try simp only [setIfInBounds_toArray, set_cons_zero, set_cons_succ]
                 have z0 := (hb.cell hgv).trans cc65
                 intro K hK
                 rw [if_pos (by rfl)]
                 go_simp
                 exact hK.out _ _ ⟨b0,b1,b2,b3,b4,b5,b6,b7,b8,b9,b10,b11,b12,b13,b14,b15,b16,b17,b18,true,b20,b21,b22,b23,true,true,b26,b27,b28,b29,b30,b31,b32,b33,b34,b35,b36,b37,b38,b39,b40,b41,b42,b43,b44,b45,b46,b47,b48,b49,b50,b51,b52,b53,b54,b55,b56,b57,b58,b59,b60,b61,b62,b63,b64,b65,b66,b67,x109,x110,x111,x112,x113,x114,x115,x116,x117,x118,x119,x120,x121,x122,x123,x124,x125,x126,x127,.bool false,x129,x130,x131,x132,.pointer (some ⟨gv,gvo + jn * 66 + 65,none⟩),(.int .i64 (un : Nat)),x135,x136,x137,x138,x139,x140,x141,x142,x143,x144,x145,x146,x147,x148,x149,x150,x151,x152,x153,x154,x155,x156,x157,x158,x159,x160,x161,x162,x163,x164,x165,x166,x167,x168,x169,x170,x171,x172,x173,x174,x175,x176,ea,ec,(by go_simp),(by go_simp),hb,cd0,cd1,cd2,cd3,cd4,cd5,cd6,cd7,cd8,cd9,cd10,cd11,cd12,cd13,cd14,cd15,cd16,cd17,cd18,rf,cd20,cd21,cd22,cd23,rf,rf,cd26,cd27,cd28,cd29,cd30,cd31,cd32,cd33,cd34,cd35,cd36,cd37,cd38,cd39,cd40,cd41,cd42,cd43,cd44,cd45,cd46,cd47,cd48,cd49,cd50,cd51,cd52,cd53,cd54,cd55,cd56,cd57,cd58,cd59,cd60,cd61,cd62,cd63,cd64,cd65,cd66,cd67,f_e⟩
               · have hf' : b26 = false := hf
                 subst hf'
                 have d19 : b19 = true := hd ⟨19, .guard⟩ (by simp) rfl
                 subst d19
                 obtain rfl := cd19.out rfl
                 clear hf hd
                 try simp only [setIfInBounds_toArray, set_cons_zero, set_cons_succ]
                 intro K hK
                 rw [if_pos (by rfl)]
                 go_simp
                 exact hK.out _ _ ⟨b0,b1,b2,b3,b4,b5,b6,b7,b8,b9,b10,b11,b12,b13,b14,b15,b16,b17,b18,true,b20,b21,b22,b23,b24,b25,true,b27,b28,b29,b30,b31,b32,b33,b34,b35,b36,b37,b38,b39,b40,b41,b42,b43,b44,b45,b46,b47,b48,b49,b50,b51,b52,b53,b54,b55,b56,b57,b58,b59,b60,b61,b62,b63,b64,b65,b66,b67,x109,x110,x111,x112,x113,x114,x115,x116,x117,x118,x119,x120,x121,x122,x123,x124,x125,x126,x127,.bool false,x129,x130,x131,x132,x133,x134,(.pointer (some ⟨px,3,none⟩)),x136,x137,x138,x139,x140,x141,x142,x143,x144,x145,x146,x147,x148,x149,x150,x151,x152,x153,x154,x155,x156,x157,x158,x159,x160,x161,x162,x163,x164,x165,x166,x167,x168,x169,x170,x171,x172,x173,x174,x175,x176,ea,ec,(by go_simp),(by go_simp),hb,cd0,cd1,cd2,cd3,cd4,cd5,cd6,cd7,cd8,cd9,cd10,cd11,cd12,cd13,cd14,cd15,cd16,cd17,cd18,rf,cd20,cd21,cd22,cd23,cd24,cd25,rf,cd27,cd28,cd29,cd30,cd31,cd32,cd33,cd34,cd35,cd36,cd37,cd38,cd39,cd40,cd41,cd42,cd43,cd44,cd45,cd46,cd47,cd48,cd49,cd50,cd51,cd52,cd53,cd54,cd55,cd56,cd57,cd58,cd59,cd60,cd61,cd62,cd63,cd64,cd65,cd66,cd67,f_e⟩
               · have hf' : b27 = false := hf
                 subst hf'
                 have d26 : b26 = true := hd ⟨26, .data⟩ (by simp) rfl
                 subst d26
                 have d19 : b19 = true := hd ⟨19, .guard⟩ (by simp) rfl
                 subst d19
                 obtain rfl := cd26.out rfl
                 obtain rfl := cd19.out rfl
                 clear hf hd
                 try simp only [setIfInBounds_toArray, set_cons_zero, set_cons_succ]
                 have z0 := (hb.cell hpx).trans cx3
                 intro K hK
                 rw [if_pos (by rfl)]
                 go_simp
                 exact hK.out _ _ ⟨b0,b1,b2,b3,b4,b5,b6,b7,b8,b9,b10,b11,b12,b13,b14,b15,b16,b17,b18,true,b20,b21,b22,b23,b24,b25,true,true,b28,b29,b30,b31,b32,b33,b34,b35,b36,b37,b38,b39,b40,b41,b42,b43,b44,b45,b46,b47,b48,b49,b50,b51,b52,b53,b54,b55,b56,b57,b58,b59,b60,b61,b62,b63,b64,b65,b66,b67,x109,x110,x111,x112,x113,x114,x115,x116,x117,x118,x119,x120,x121,x122,x123,x124,x125,x126,x127,.bool false,x129,x130,x131,x132,x133,x134,.pointer (some ⟨px,3,none⟩),(.slice (some ⟨gt,gto,none⟩) tnb tbc),x137,x138,x139,x140,x141,x142,x143,x144,x145,x146,x147,x148,x149,x150,x151,x152,x153,x154,x155,x156,x157,x158,x159,x160,x161,x162,x163,x164,x165,x166,x167,x168,x169,x170,x171,x172,x173,x174,x175,x176,ea,ec,(by go_simp),(by go_simp),hb,cd0,cd1,cd2,cd3,cd4,cd5,cd6,cd7,cd8,cd9,cd10,cd11,cd12,cd13,cd14,cd15,cd16,cd17,cd18,rf,cd20,cd21,cd22,cd23,cd24,cd25,rf,rf,cd28,cd29,cd30,cd31,cd32,cd33,cd34,cd35,cd36,cd37,cd38,cd39,cd40,cd41,cd42,cd43,cd44,cd45,cd46,cd47,cd48,cd49,cd50,cd51,cd52,cd53,cd54,cd55,cd56,cd57,cd58,cd59,cd60,cd61,cd62,cd63,cd64,cd65,cd66,cd67,f_e⟩
               · have hf' : b28 = false := hf
                 subst hf'
                 have d19 : b19 = true := hd ⟨19, .guard⟩ (by simp) rfl
                 subst d19
                 obtain rfl := cd19.out rfl
                 clear hf hd
                 try simp only [setIfInBounds_toArray, set_cons_zero, set_cons_succ]
                 intro K hK
                 rw [if_pos (by rfl)]
                 go_simp
                 exact hK.out _ _ ⟨b0,b1,b2,b3,b4,b5,b6,b7,b8,b9,b10,b11,b12,b13,b14,b15,b16,b17,b18,true,b20,b21,b22,b23,b24,b25,b26,b27,true,b29,b30,b31,b32,b33,b34,b35,b36,b37,b38,b39,b40,b41,b42,b43,b44,b45,b46,b47,b48,b49,b50,b51,b52,b53,b54,b55,b56,b57,b58,b59,b60,b61,b62,b63,b64,b65,b66,b67,x109,x110,x111,x112,x113,x114,x115,x116,x117,x118,x119,x120,x121,x122,x123,x124,x125,x126,x127,.bool false,x129,x130,x131,x132,x133,x134,x135,x136,(.int .i64 (jn : Nat)),x138,x139,x140,x141,x142,x143,x144,x145,x146,x147,x148,x149,x150,x151,x152,x153,x154,x155,x156,x157,x158,x159,x160,x161,x162,x163,x164,x165,x166,x167,x168,x169,x170,x171,x172,x173,x174,x175,x176,ea,ec,(by go_simp),(by go_simp),hb,cd0,cd1,cd2,cd3,cd4,cd5,cd6,cd7,cd8,cd9,cd10,cd11,cd12,cd13,cd14,cd15,cd16,cd17,cd18,rf,cd20,cd21,cd22,cd23,cd24,cd25,cd26,cd27,rf,cd29,cd30,cd31,cd32,cd33,cd34,cd35,cd36,cd37,cd38,cd39,cd40,cd41,cd42,cd43,cd44,cd45,cd46,cd47,cd48,cd49,cd50,cd51,cd52,cd53,cd54,cd55,cd56,cd57,cd58,cd59,cd60,cd61,cd62,cd63,cd64,cd65,cd66,cd67,f_e⟩
               · have hf' : b29 = false := hf
                 subst hf'
                 have d27 : b27 = true := hd ⟨27, .data⟩ (by simp) rfl
                 subst d27
                 have d28 : b28 = true := hd ⟨28, .data⟩ (by simp) rfl
                 subst d28
                 have d19 : b19 = true := hd ⟨19, .guard⟩ (by simp) rfl
                 subst d19
                 obtain rfl := cd27.out rfl
                 obtain rfl := cd28.out rfl
                 obtain rfl := cd19.out rfl
                 clear hf hd
                 try simp only [setIfInBounds_toArray, set_cons_zero, set_cons_succ]
                 intro K hK
                 rw [if_pos (by rfl)]
                 go_simp
                 exact hK.out _ _ ⟨b0,b1,b2,b3,b4,b5,b6,b7,b8,b9,b10,b11,b12,b13,b14,b15,b16,b17,b18,true,b20,b21,b22,b23,b24,b25,b26,true,true,true,b30,b31,b32,b33,b34,b35,b36,b37,b38,b39,b40,b41,b42,b43,b44,b45,b46,b47,b48,b49,b50,b51,b52,b53,b54,b55,b56,b57,b58,b59,b60,b61,b62,b63,b64,b65,b66,b67,x109,x110,x111,x112,x113,x114,x115,x116,x117,x118,x119,x120,x121,x122,x123,x124,x125,x126,x127,.bool false,x129,x130,x131,x132,x133,x134,x135,.slice (some ⟨gt,gto,none⟩) tnb tbc,.int .i64 (jn : Nat),(.pointer (some ⟨gt,gto + jn,none⟩)),x139,x140,x141,x142,x143,x144,x145,x146,x147,x148,x149,x150,x151,x152,x153,x154,x155,x156,x157,x158,x159,x160,x161,x162,x163,x164,x165,x166,x167,x168,x169,x170,x171,x172,x173,x174,x175,x176,ea,ec,(by go_simp),(by go_simp),hb,cd0,cd1,cd2,cd3,cd4,cd5,cd6,cd7,cd8,cd9,cd10,cd11,cd12,cd13,cd14,cd15,cd16,cd17,cd18,rf,cd20,cd21,cd22,cd23,cd24,cd25,cd26,rf,rf,rf,cd30,cd31,cd32,cd33,cd34,cd35,cd36,cd37,cd38,cd39,cd40,cd41,cd42,cd43,cd44,cd45,cd46,cd47,cd48,cd49,cd50,cd51,cd52,cd53,cd54,cd55,cd56,cd57,cd58,cd59,cd60,cd61,cd62,cd63,cd64,cd65,cd66,cd67,f_e⟩
               · have hf' : b30 = false := hf
                 subst hf'
                 have d29 : b29 = true := hd ⟨29, .data⟩ (by simp) rfl
                 subst d29
                 have d19 : b19 = true := hd ⟨19, .guard⟩ (by simp) rfl
                 subst d19
                 obtain rfl := cd29.out rfl
                 obtain rfl := cd19.out rfl
                 clear hf hd
                 try simp only [setIfInBounds_toArray, set_cons_zero, set_cons_succ]
                 have z0 := (hb.cell hgt).trans u0
                 intro K hK
                 rw [if_pos (by rfl)]
                 go_simp
                 exact hK.out _ _ ⟨b0,b1,b2,b3,b4,b5,b6,b7,b8,b9,b10,b11,b12,b13,b14,b15,b16,b17,b18,true,b20,b21,b22,b23,b24,b25,b26,b27,b28,true,true,b31,b32,b33,b34,b35,b36,b37,b38,b39,b40,b41,b42,b43,b44,b45,b46,b47,b48,b49,b50,b51,b52,b53,b54,b55,b56,b57,b58,b59,b60,b61,b62,b63,b64,b65,b66,b67,x109,x110,x111,x112,x113,x114,x115,x116,x117,x118,x119,x120,x121,x122,x123,x124,x125,x126,x127,.bool false,x129,x130,x131,x132,x133,x134,x135,x136,x137,.pointer (some ⟨gt,gto + jn,none⟩),(.slice ua un uc),x140,x141,x142,x143,x144,x145,x146,x147,x148,x149,x150,x151,x152,x153,x154,x155,x156,x157,x158,x159,x160,x161,x162,x163,x164,x165,x166,x167,x168,x169,x170,x171,x172,x173,x174,x175,x176,ea,ec,(by go_simp),(by go_simp),hb,cd0,cd1,cd2,cd3,cd4,cd5,cd6,cd7,cd8,cd9,cd10,cd11,cd12,cd13,cd14,cd15,cd16,cd17,cd18,rf,cd20,cd21,cd22,cd23,cd24,cd25,cd26,cd27,cd28,rf,rf,cd31,cd32,cd33,cd34,cd35,cd36,cd37,cd38,cd39,cd40,cd41,cd42,cd43,cd44,cd45,cd46,cd47,cd48,cd49,cd50,cd51,cd52,cd53,cd54,cd55,cd56,cd57,cd58,cd59,cd60,cd61,cd62,cd63,cd64,cd65,cd66,cd67,f_e⟩
               · have hf' : b31 = false := hf
                 subst hf'
                 have d30 : b30 = true := hd ⟨30, .data⟩ (by simp) rfl
                 subst d30
                 have d19 : b19 = true := hd ⟨19, .guard⟩ (by simp) rfl
                 subst d19
                 obtain rfl := cd30.out rfl
                 obtain rfl := cd19.out rfl
                 clear hf hd
                 try simp only [setIfInBounds_toArray, set_cons_zero, set_cons_succ]
                 intro K hK
                 rw [if_pos (by rfl)]
                 go_simp
                 exact hK.out _ _ ⟨b0,b1,b2,b3,b4,b5,b6,b7,b8,b9,b10,b11,b12,b13,b14,b15,b16,b17,b18,true,b20,b21,b22,b23,b24,b25,b26,b27,b28,b29,true,true,b32,b33,b34,b35,b36,b37,b38,b39,b40,b41,b42,b43,b44,b45,b46,b47,b48,b49,b50,b51,b52,b53,b54,b55,b56,b57,b58,b59,b60,b61,b62,b63,b64,b65,b66,b67,x109,x110,x111,x112,x113,x114,x115,x116,x117,x118,x119,x120,x121,x122,x123,x124,x125,x126,x127,.bool false,x129,x130,x131,x132,x133,x134,x135,x136,x137,x138,.slice ua un uc,(.int .i64 (un : Nat)),x141,x142,x143,x144,x145,x146,x147,x148,x149,x150,x151,x152,x153,x154,x155,x156,x157,x158,x159,x160,x161,x162,x163,x164,x165,x166,x167,x168,x169,x170,x171,x172,x173,x174,x175,x176,ea,ec,(by go_simp),(by go_simp),hb,cd0,cd1,cd2,cd3,cd4,cd5,cd6,cd7,cd8,cd9,cd10,cd11,cd12,cd13,cd14,cd15,cd16,cd17,cd18,rf,cd20,cd21,cd22,cd23,cd24,cd25,cd26,cd27,cd28,cd29,rf,rf,cd32,cd33,cd34,cd35,cd36,cd37,cd38,cd39,cd40,cd41,cd42,cd43,cd44,cd45,cd46,cd47,cd48,cd49,cd50,cd51,cd52,cd53,cd54,cd55,cd56,cd57,cd58,cd59,cd60,cd61,cd62,cd63,cd64,cd65,cd66,cd67,f_e⟩
               · have hf' : b32 = false := hf
                 subst hf'
                 have d25 : b25 = true := hd ⟨25, .data⟩ (by simp) rfl
                 subst d25
                 have d31 : b31 = true := hd ⟨31, .data⟩ (by simp) rfl
                 subst d31
                 have d19 : b19 = true := hd ⟨19, .guard⟩ (by simp) rfl
                 subst d19
                 obtain rfl := cd25.out rfl
                 obtain rfl := cd31.out rfl
                 obtain rfl := cd19.out rfl
                 clear hf hd
                 try simp only [setIfInBounds_toArray, set_cons_zero, set_cons_succ]
                 intro K hK
                 rw [if_pos (by rfl)]
                 go_simp
                 exact hK.out _ _ ⟨b0,b1,b2,b3,b4,b5,b6,b7,b8,b9,b10,b11,b12,b13,b14,b15,b16,b17,b18,true,b20,b21,b22,b23,b24,true,b26,b27,b28,b29,b30,true,true,b33,b34,b35,b36,b37,b38,b39,b40,b41,b42,b43,b44,b45,b46,b47,b48,b49,b50,b51,b52,b53,b54,b55,b56,b57,b58,b59,b60,b61,b62,b63,b64,b65,b66,b67,x109,x110,x111,x112,x113,x114,x115,x116,x117,x118,x119,x120,x121,x122,x123,x124,x125,x126,x127,.bool false,x129,x130,x131,x132,x133,.int .i64 (un : Nat),x135,x136,x137,x138,x139,.int .i64 (un : Nat),(.bool false),x142,x143,x144,x145,x146,x147,x148,x149,x150,x151,x152,x153,x154,x155,x156,x157,x158,x159,x160,x161,x162,x163,x164,x165,x166,x167,x168,x169,x170,x171,x172,x173,x174,x175,x176,ea,ec,(by go_simp),(by go_simp),hb,cd0,cd1,cd2,cd3,cd4,cd5,cd6,cd7,cd8,cd9,cd10,cd11,cd12,cd13,cd14,cd15,cd16,cd17,cd18,rf,cd20,cd21,cd22,cd23,cd24,rf,cd26,cd27,cd28,cd29,cd30,rf,rf,cd33,cd34,cd35,cd36,cd37,cd38,cd39,cd40,cd41,cd42,cd43,cd44,cd45,cd46,cd47,cd48,cd49,cd50,cd51,cd52,cd53,cd54,cd55,cd56,cd57,cd58,cd59,cd60,cd61,cd62,cd63,cd64,cd65,cd66,cd67,f_e⟩
               · have hf' : b33 = false := hf
                 subst hf'
                 have d19 : b19 = true := hd ⟨19, .data⟩ (by simp) rfl
                 subst d19
                 have d32 : b32 = true := hd ⟨32, .data⟩ (by simp) rfl
                 subst d32
                 obtain rfl := cd19.out rfl
                 obtain rfl := cd32.out rfl
                 clear hf hd
                 try simp only [setIfInBounds_toArray, set_cons_zero, set_cons_succ]
                 intro K hK
                 rw [if_pos (by rfl)]
                 go_simp
                 exact hK.out _ _ ⟨b0,b1,b2,b3,b4,b5,b6,b7,b8,b9,b10,b11,b12,b13,b14,b15,b16,b17,b18,true,b20,b21,b22,b23,b24,b25,b26,b27,b28,b29,b30,b31,true,true,b34,b35,b36,b37,b38,b39,b40,b41,b42,b43,b44,b45,b46,b47,b48,b49,b50,b51,b52,b53,b54,b55,b56,b57,b58,b59,b60,b61,b62,b63,b64,b65,b66,b67,x109,x110,x111,x112,x113,x114,x115,x116,x117,x118,x119,x120,x121,x122,x123,x124,x125,x126,x127,.bool false,x129,x130,x131,x132,x133,x134,x135,x136,x137,x138,x139,x140,.bool false,(.bool false),x143,x144,x145,x146,x147,x148,x149,x150,x151,x152,x153,x154,x155,x156,x157,x158,x159,x160,x161,x162,x163,x164,x165,x166,x167,x168,x169,x170,x171,x172,x173,x174,x175,x176,ea,ec,(by go_simp),(by go_simp),hb,cd0,cd1,cd2,cd3,cd4,cd5,cd6,cd7,cd8,cd9,cd10,cd11,cd12,cd13,cd14,cd15,cd16,cd17,cd18,rf,cd20,cd21,cd22,cd23,cd24,cd25,cd26,cd27,cd28,cd29,cd30,cd31,rf,rf,cd34,cd35,cd36,cd37,cd38,cd39,cd40,cd41,cd42,cd43,cd44,cd45,cd46,cd47,cd48,cd49,cd50,cd51,cd52,cd53,cd54,cd55,cd56,cd57,cd58,cd59,cd60,cd61,cd62,cd63,cd64,cd65,cd66,cd67,f_e⟩
               · have hf' : b34 = false := hf
                 subst hf'
                 have d33 : b33 = true := hd ⟨33, .data⟩ (by simp) rfl
                 subst d33
                 have d19 : b19 = true := hd ⟨19, .chain⟩ (by simp) rfl
                 subst d19
                 obtain rfl := cd33.out rfl
                 obtain rfl := cd19.out rfl
                 clear hf hd
                 try simp only [setIfInBounds_toArray, set_cons_zero, set_cons_succ]
                 intro K hK
                 rw [if_pos (by rfl)]
                 go_simp
                 exact hK.out _ _ ⟨b0,b1,b2,b3,b4,b5,b6,b7,b8,b9,b10,b11,b12,b13,b14,b15,b16,b17,b18,true,b20,b21,b22,b23,b24,b25,b26,b27,b28,b29,b30,b31,b32,true,true,b35,b36,b37,b38,b39,b40,b41,b42,b43,b44,b45,b46,b47,b48,b49,b50,b51,b52,b53,b54,b55,b56,b57,b58,b59,b60,b61,b62,b63,b64,b65,b66,b67,x109,x110,x111,x112,x113,x114,x115,x116,x117,x118,x119,x120,x121,x122,x123,x124,x125,x126,x127,.bool false,x129,x130,x131,x132,x133,x134,x135,x136,x137,x138,x139,x140,x141,.bool false,(.bool false),x144,x145,x146,x147,x148,x149,x150,x151,x152,x153,x154,x155,x156,x157,x158,x159,x160,x161,x162,x163,x164,x165,x166,x167,x168,x169,x170,x171,x172,x173,x174,x175,x176,ea,ec,(by go_simp),(by go_simp),hb,cd0,cd1,cd2,cd3,cd4,cd5,cd6,cd7,cd8,cd9,cd10,cd11,cd12,cd13,cd14,cd15,cd16,cd17,cd18,rf,cd20,cd21,cd22,cd23,cd24,cd25,cd26,cd27,cd28,cd29,cd30,cd31,cd32,rf,rf,cd35,cd36,cd37,cd38,cd39,cd40,cd41,cd42,cd43,cd44,cd45,cd46,cd47,cd48,cd49,cd50,cd51,cd52,cd53,cd54,cd55,cd56,cd57,cd58,cd59,cd60,cd61,cd62,cd63,cd64,cd65,cd66,cd67,f_e⟩
               · have hf' : b35 = false := hf
                 subst hf'
                 have d34 : b34 = true := hd ⟨34, .guard⟩ (by simp) rfl
                 subst d34
                 obtain rfl := cd34.out rfl
                 clear hf hd
                 try simp only [setIfInBounds_toArray, set_cons_zero, set_cons_succ]
                 intro K hK
                 rw [if_pos (by rfl)]
                 go_simp
                 exact hK.out _ _ ⟨b0,b1,b2,b3,b4,b5,b6,b7,b8,b9,b10,b11,b12,b13,b14,b15,b16,b17,b18,b19,b20,b21,b22,b23,b24,b25,b26,b27,b28,b29,b30,b31,b32,b33,true,true,b36,b37,b38,b39,b40,b41,b42,b43,b44,b45,b46,b47,b48,b49,b50,b51,b52,b53,b54,b55,b56,b57,b58,b59,b60,b61,b62,b63,b64,b65,b66,b67,x109,x110,x111,x112,x113,x114,x115,x116,x117,x118,x119,x120,x121,x122,x123,x124,x125,x126,x127,x128,x129,x130,x131,x132,x133,x134,x135,x136,x137,x138,x139,x140,x141,x142,.bool false,(.pointer (some ⟨px,2,none⟩)),x145,x146,x147,x148,x149,x150,x151,x152,x153,x154,x155,x156,x157,x158,x159,x160,x161,x162,x163,x164,x165,x166,x167,x168,x169,x170,x171,x172,x173,x174,x175,x176,ea,ec,(by go_simp),(by go_simp),hb,cd0,cd1,cd2,cd3,cd4,cd5,cd6,cd7,cd8,cd9,cd10,cd11,cd12,cd13,cd14,cd15,cd16,cd17,cd18,cd19,cd20,cd21,cd22,cd23,cd24,cd25,cd26,cd27,cd28,cd29,cd30,cd31,cd32,cd33,rf,rf,cd36,cd37,cd38,cd39,cd40,cd41,cd42,cd43,cd44,cd45,cd46,cd47,cd48,cd49,cd50,cd51,cd52,cd53,cd54,cd55,cd56,cd57,cd58,cd59,cd60,cd61,cd62,cd63,cd64,cd65,cd66,cd67,f_e⟩
               · have hf' : b36 = false := hf
                 subst hf'
                 have d35 : b35 = true := hd ⟨35, .data⟩ (by simp) rfl
                 subst d35
                 have d34 : b34 = true := hd ⟨34, .guard⟩ (by simp) rfl
                 subst d34
                 obtain rfl := cd35.out rfl
                 obtain rfl := cd34.out rfl
                 clear hf hd
                 try simp only [setIfInBounds_toArray, set_cons_zero, set_cons_succ]
                 have z0 := (hb.cell hpx).trans cx2
                 intro K hK
                 rw [if_pos (by rfl)]
                 go_simp
                 exact hK.out _ _ ⟨b0,b1,b2,b3,b4,b5,b6,b7,b8,b9,b10,b11,b12,b13,b14,b15,b16,b17,b18,b19,b20,b21,b22,b23,b24,b25,b26,b27,b28,b29,b30,b31,b32,b33,true,true,true,b37,b38,b39,b40,b41,b42,b43,b44,b45,b46,b47,b48,b49,b50,b51,b52,b53,b54,b55,b56,b57,b58,b59,b60,b61,b62,b63,b64,b65,b66,b67,x109,x110,x111,x112,x113,x114,x115,x116,x117,x118,x119,x120,x121,x122,x123,x124,x125,x126,x127,x128,x129,x130,x131,x132,x133,x134,x135,x136,x137,x138,x139,x140,x141,x142,.bool false,.pointer (some ⟨px,2,none⟩),(.slice (some ⟨gv,gvo,none⟩) bnb bbc),x146,x147,x148,x149,x150,x151,x152,x153,x154,x155,x156,x157,x158,x159,x160,x161,x162,x163,x164,x165,x166,x167,x168,x169,x170,x171,x172,x173,x174,x175,x176,ea,ec,(by go_simp),(by go_simp),hb,cd0,cd1,cd2,cd3,cd4,cd5,cd6,cd7,cd8,cd9,cd10,cd11,cd12,cd13,cd14,cd15,cd16,cd17,cd18,cd19,cd20,cd21,cd22,cd23,cd24,cd25,cd26,cd27,cd28,cd29,cd30,cd31,cd32,cd33,rf,rf,rf,cd37,cd38,cd39,cd40,cd41,cd42,cd43,cd44,cd45,cd46,cd47,cd48,cd49,cd50,cd51,cd52,cd53,cd54,cd55,cd56,cd57,cd58,cd59,cd60,cd61,cd62,cd63,cd64,cd65,cd66,cd67,f_e⟩
               · have hf' : b37 = false := hf
                 subst hf'
                 have d34 : b34 = true := hd ⟨34, .guard⟩ (by simp) rfl
                 subst d34
                 obtain rfl := cd34.out rfl
                 clear hf hd
                 try simp only [setIfInBounds_toArray, set_cons_zero, set_cons_succ]
                 intro K hK
                 rw [if_pos (by rfl)]
                 go_simp
                 exact hK.out _ _ ⟨b0,b1,b2,b3,b4,b5,b6,b7,b8,b9,b10,b11,b12,b13,b14,b15,b16,b17,b18,b19,b20,b21,b22,b23,b24,b25,b26,b27,b28,b29,b30,b31,b32,b33,true,b35,b36,true,b38,b39,b40,b41,b42,b43,b44,b45,b46,b47,b48,b49,b50,b51,b52,b53,b54,b55,b56,b57,b58,b59,b60,b61,b62,b63,b64,b65,b66,b67,x109,x110,x111,x112,x113,x114,x115,x116,x117,x118,x119,x120,x121,x122,x123,x124,x125,x126,x127,x128,x129,x130,x131,x132,x133,x134,x135,x136,x137,x138,x139,x140,x141,x142,.bool false,x144,x145,(.int .i64 (jn : Nat)),x147,x148,x149,x150,x151,x152,x153,x154,x155,x156,x157,x158,x159,x160,x161,x162,x163,x164,x165,x166,x167,x168,x169,x170,x171,x172,x173,x174,x175,x176,ea,ec,(by go_simp),(by go_simp),hb,cd0,cd1,cd2,cd3,cd4,cd5,cd6,cd7,cd8,cd9,cd10,cd11,cd12,cd13,cd14,cd15,cd16,cd17,cd18,cd19,cd20,cd21,cd22,cd23,cd24,cd25,cd26,cd27,cd28,cd29,cd30,cd31,cd32,cd33,rf,cd35,cd36,rf,cd38,cd39,cd40,cd41,cd42,cd43,cd44,cd45,cd46,cd47,cd48,cd49,cd50,cd51,cd52,cd53,cd54,cd55,cd56,cd57,cd58,cd59,cd60,cd61,cd62,cd63,cd64,cd65,cd66,cd67,f_e⟩
               · have hf' : b38 = false := hf
                 subst hf'
                 have d36 : b36 = true := hd ⟨36, .data⟩ (by simp) rfl
                 subst d36
                 have d37 : b37 = true := hd ⟨37, .data⟩ (by simp) rfl
                 subst d37
                 have d34 : b34 = true := hd ⟨34, .guard⟩ (by simp) rfl
                 subst d34
                 obtain rfl := cd36.out rfl
                 obtain rfl := cd37.out rfl
                 obtain rfl := cd34.out rfl
                 clear hf hd
                 try simp only [setIfInBounds_toArray, set_cons_zero, set_cons_succ]
                 intro K hK
                 rw [if_pos (by rfl)]
                 go_simp
                 exact hK.out _ _ ⟨b0,b1,b2,b3,b4,b5,b6,b7,b8,b9,b10,b11,b12,b13,b14,b15,b16,b17,b18,b19,b20,b21,b22,b23,b24,b25,b26,b27,b28,b29,b30,b31,b32,b33,true,b35,true,true,true,b39,b40,b41,b42,b43,b44,b45,b46,b47,b48,b49,b50,b51,b52,b53,b54,b55,b56,b57,b58,b59,b60,b61,b62,b63,b64,b65,b66,b67,x109,x110,x111,x112,x113,x114,x115,x116,x117,x118,x119,x120,x121,x122,x123,x124,x125,x126,x127,x128,x129,x130,x131,x132,x133,x134,x135,x136,x137,x138,x139,x140,x141,x142,.bool false,x144,.slice (some ⟨gv,gvo,none⟩) bnb bbc,.int .i64 (jn : Nat),(.pointer (some ⟨gv,gvo + jn * 66,none⟩)),x148,x149,x150,x151,x152,x153,x154,x155,x156,x157,x158,x159,x160,x161,x162,x163,x164,x165,x166,x167,x168,x169,x170,x171,x172,x173,x174,x175,x176,ea,ec,(by go_simp),(by go_simp),hb,cd0,cd1,cd2,cd3,cd4,cd5,cd6,cd7,cd8,cd9,cd10,cd11,cd12,cd13,cd14,cd15,cd16,cd17,cd18,cd19,cd20,cd21,cd22,cd23,cd24,cd25,cd26,cd27,cd28,cd29,cd30,cd31,cd32,cd33,rf,cd35,rf,rf,rf,cd39,cd40,cd41,cd42,cd43,cd44,cd45,cd46,cd47,cd48,cd49,cd50,cd51,cd52,cd53,cd54,cd55,cd56,cd57,cd58,cd59,cd60,cd61,cd62,cd63,cd64,cd65,cd66,cd67,f_e⟩
               · have hf' : b39 = false := hf
                 subst hf'
                 have d38 : b38 = true := hd ⟨38, .data⟩ (by simp) rfl
                 subst d38
                 have d34 : b34 = true := hd ⟨34, .guard⟩ (by simp) rfl
                 subst d34
                 obtain rfl := cd38.out rfl
                 obtain rfl := cd34.out rfl
                 clear hf hd
                 try simp only [setIfInBounds_toArray, set_cons_zero, set_cons_succ]
                 intro K hK
                 rw [if_pos (by rfl)]
                 go_simp
                 exact hK.out _ _ ⟨b0,b1,b2,b3,b4,b5,b6,b7,b8,b9,b10,b11,b12,b13,b14,b15,b16,b17,b18,b19,b20,b21,b22,b23,b24,b25,b26,b27,b28,b29,b30,b31,b32,b33,true,b35,b36,b37,true,true,b40,b41,b42,b43,b44,b45,b46,b47,b48,b49,b50,b51,b52,b53,b54,b55,b56,b57,b58,b59,b60,b61,b62,b63,b64,b65,b66,b67,x109,x110,x111,x112,x113,x114,x115,x116,x117,x118,x119,x120,x121,x122,x123,x124,x125,x126,x127,x128,x129,x130,x131,x132,x133,x134,x135,x136,x137,x138,x139,x140,x141,x142,.bool false,x144,x145,x146,.pointer (some ⟨gv,gvo + jn * 66,none⟩),(.pointer (some ⟨gv,gvo + jn * 66 + 65,none⟩)),x149,x150,x151,x152,x153,x154,x155,x156,x157,x158,x159,x160,x161,x162,x163,x164,x165,x166,x167,x168,x169,x170,x171,x172,x173,x174,x175,x176,ea,ec,(by go_simp),(by go_simp),hb,cd0,cd1,cd2,cd3,cd4,cd5,cd6,cd7,cd8,cd9,cd10,cd11,cd12,cd13,cd14,cd15,cd16,cd17,cd18,cd19,cd20,cd21,cd22,cd23,cd24,cd25,cd26,cd27,cd28,cd29,cd30,cd31,cd32,cd33,rf,cd35,cd36,cd37,rf,rf,cd40,cd41,cd42,cd43,cd44,cd45,cd46,cd47,cd48,cd49,cd50,cd51,cd52,cd53,cd54,cd55,cd56,cd57,cd58,cd59,cd60,cd61,cd62,cd63,cd64,cd65,cd66,cd67,f_e⟩
               · have hf' : b40 = false := hf
                 subst hf'
                 have d39 : b39 = true := hd ⟨39, .data⟩ (by simp) rfl
                 subst d39
                 have d34 : b34 = true := hd ⟨34, .guard⟩ (by simp) rfl
                 subst d34
                 obtain rfl := cd39.out rfl
                 obtain rfl := cd34.out rfl
                 clear hf hd
                 try simp only [setIfInBounds_toArray, set_cons_zero, set_cons_succ]
                 have z0 := (hb.cell hgv).trans cc65
                 intro K hK
                 rw [if_pos (by rfl)]
                 go_simp
                 exact hK.out _ _ ⟨b0,b1,b2,b3,b4,b5,b6,b7,b8,b9,b10,b11,b12,b13,b14,b15,b16,b17,b18,b19,b20,b21,b22,b23,b24,b25,b26,b27,b28,b29,b30,b31,b32,b33,true,b35,b36,b37,b38,true,true,b41,b42,b43,b44,b45,b46,b47,b48,b49,b50,b51,b52,b53,b54,b55,b56,b57,b58,b59,b60,b61,b62,b63,b64,b65,b66,b67,x109,x110,x111,x112,x113,x114,x115,x116,x117,x118,x119,x120,x121,x122,x123,x124,x125,x126,x127,x128,x129,x130,x131,x132,x133,x134,x135,x136,x137,x138,x139,x140,x141,x142,.bool false,x144,x145,x146,x147,.pointer (some ⟨gv,gvo + jn * 66 + 65,none⟩),(.int .i64 (un : Nat)),x150,x151,x152,x153,x154,x155,x156,x157,x158,x159,x160,x161,x162,x163,x164,x165,x166,x167,x168,x169,x170,x171,x172,x173,x174,x175,x176,ea,ec,(by go_simp),(by go_simp),hb,cd0,cd1,cd2,cd3,cd4,cd5,cd6,cd7,cd8,cd9,cd10,cd11,cd12,cd13,cd14,cd15,cd16,cd17,cd18,cd19,cd20,cd21,cd22,cd23,cd24,cd25,cd26,cd27,cd28,cd29,cd30,cd31,cd32,cd33,rf,cd35,cd36,cd37,cd38,rf,rf,cd41,cd42,cd43,cd44,cd45,cd46,cd47,cd48,cd49,cd50,cd51,cd52,cd53,cd54,cd55,cd56,cd57,cd58,cd59,cd60,cd61,cd62,cd63,cd64,cd65,cd66,cd67,f_e⟩
               · have hf' : b41 = false := hf
                 subst hf'
                 have d40 : b40 = true := hd ⟨40, .data⟩ (by simp) rfl
                 subst d40
                 have d34 : b34 = true := hd ⟨34, .guard⟩ (by simp) rfl
                 subst d34
                 obtain rfl := cd40.out rfl
                 obtain rfl := cd34.out rfl
                 clear hf hd
                 try simp only [setIfInBounds_toArray, set_cons_zero, set_cons_succ]
                 intro K hK
                 rw [if_pos (by rfl)]
                 go_simp
                 exact hK.out _ _ ⟨b0,b1,b2,b3,b4,b5,b6,b7,b8,b9,b10,b11,b12,b13,b14,b15,b16,b17,b18,b19,b20,b21,b22,b23,b24,b25,b26,b27,b28,b29,b30,b31,b32,b33,true,b35,b36,b37,b38,b39,true,true,b42,b43,b44,b45,b46,b47,b48,b49,b50,b51,b52,b53,b54,b55,b56,b57,b58,b59,b60,b61,b62,b63,b64,b65,b66,b67,x109,x110,x111,x112,x113,x114,x115,x116,x117,x118,x119,x120,x121,x122,x123,x124,x125,x126,x127,x128,x129,x130,x131,x132,x133,x134,x135,x136,x137,x138,x139,x140,x141,x142,.bool false,x144,x145,x146,x147,x148,.int .i64 (un : Nat),(.bool false),x151,x152,x153,x154,x155,x156,x157,x158,x159,x160,x161,x162,x163,x164,x165,x166,x167,x168,x169,x170,x171,x172,x173,x174,x175,x176,ea,ec,(by go_simp),(by go_simp),hb,cd0,cd1,cd2,cd3,cd4,cd5,cd6,cd7,cd8,cd9,cd10,cd11,cd12,cd13,cd14,cd15,cd16,cd17,cd18,cd19,cd20,cd21,cd22,cd23,cd24,cd25,cd26,cd27,cd28,cd29,cd30,cd31,cd32,cd33,rf,cd35,cd36,cd37,cd38,cd39,rf,rf,cd42,cd43,cd44,cd45,cd46,cd47,cd48,cd49,cd50,cd51,cd52,cd53,cd54,cd55,cd56,cd57,cd58,cd59,cd60,cd61,cd62,cd63,cd64,cd65,cd66,cd67,f_e⟩
               · have hf' : b42 = false := hf
                 subst hf'
                 have d34 : b34 = true := hd ⟨34, .data⟩ (by simp) rfl
                 subst d34
                 have d41 : b41 = true := hd ⟨41, .data⟩ (by simp) rfl
                 subst d41
                 obtain rfl := cd34.out rfl
                 obtain rfl := cd41.out rfl
                 clear hf hd
                 try simp only [setIfInBounds_toArray, set_cons_zero, set_cons_succ]
                 intro K hK
                 rw [if_pos (by rfl)]
                 go_simp
                 exact hK.out _ _ ⟨b0,b1,b2,b3,b4,b5,b6,b7,b8,b9,b10,b11,b12,b13,b14,b15,b16,b17,b18,b19,b20,b21,b22,b23,b24,b25,b26,b27,b28,b29,b30,b31,b32,b33,true,b35,b36,b37,b38,b39,b40,true,true,b43,b44,b45,b46,b47,b48,b49,b50,b51,b52,b53,b54,b55,b56,b57,b58,b59,b60,b61,b62,b63,b64,b65,b66,b67,x109,x110,x111,x112,x113,x114,x115,x116,x117,x118,x119,x120,x121,x122,x123,x124,x125,x126,x127,x128,x129,x130,x131,x132,x133,x134,x135,x136,x137,x138,x139,x140,x141,x142,.bool false,x144,x145,x146,x147,x148,x149,.bool false,(.bool false),x152,x153,x154,x155,x156,x157,x158,x159,x160,x161,x162,x163,x164,x165,x166,x167,x168,x169,x170,x171,x172,x173,x174,x175,x176,ea,ec,(by go_simp),(by go_simp),hb,cd0,cd1,cd2,cd3,cd4,cd5,cd6,cd7,cd8,cd9,cd10,cd11,cd12,cd13,cd14,cd15,cd16,cd17,cd18,cd19,cd20,cd21,cd22,cd23,cd24,cd25,cd26,cd27,cd28,cd29,cd30,cd31,cd32,cd33,rf,cd35,cd36,cd37,cd38,cd39,cd40,rf,rf,cd43,cd44,cd45,cd46,cd47,cd48,cd49,cd50,cd51,cd52,cd53,cd54,cd55,cd56,cd57,cd58,cd59,cd60,cd61,cd62,cd63,cd64,cd65,cd66,cd67,f_e⟩
               · have hf' : b43 = false := hf
                 subst hf'
                 have d42 : b42 = true := hd ⟨42, .data⟩ (by simp) rfl
                 subst d42
                 have d34 : b34 = true := hd ⟨34, .chain⟩ (by simp) rfl
                 subst d34
                 obtain rfl := cd42.out rfl
                 obtain rfl := cd34.out rfl
                 clear hf hd
                 try simp only [setIfInBounds_toArray, set_cons_zero, set_cons_succ]
                 intro K hK
                 rw [if_pos (by rfl)]
                 go_simp
                 exact hK.out _ _ ⟨b0,b1,b2,b3,b4,b5,b6,b7,b8,b9,b10,b11,b12,b13,b14,b15,b16,b17,b18,b19,b20,b21,b22,b23,b24,b25,b26,b27,b28,b29,b30,b31,b32,b33,true,b35,b36,b37,b38,b39,b40,b41,true,true,b44,b45,b46,b47,b48,b49,b50,b51,b52,b53,b54,b55,b56,b57,b58,b59,b60,b61,b62,b63,b64,b65,b66,b67,x109,x110,x111,x112,x113,x114,x115,x116,x117,x118,x119,x120,x121,x122,x123,x124,x125,x126,x127,x128,x129,x130,x131,x132,x133,x134,x135,x136,x137,x138,x139,x140,x141,x142,.bool false,x144,x145,x146,x147,x148,x149,x150,.bool false,(.bool false),x153,x154,x155,x156,x157,x158,x159,x160,x161,x162,x163,x164,x165,x166,x167,x168,x169,x170,x171,x172,x173,x174,x175,x176,ea,ec,(by go_simp),(by go_simp),hb,cd0,cd1,cd2,cd3,cd4,cd5,cd6,cd7,cd8,cd9,cd10,cd11,cd12,cd13,cd14,cd15,cd16,cd17,cd18,cd19,cd20,cd21,cd22,cd23,cd24,cd25,cd26,cd27,cd28,cd29,cd30,cd31,cd32,cd33,rf,cd35,cd36,cd37,cd38,cd39,cd40,cd41,rf,rf,cd44,cd45,cd46,cd47,cd48,cd49,cd50,cd51,cd52,cd53,cd54,cd55,cd56,cd57,cd58,cd59,cd60,cd61,cd62,cd63,cd64,cd65,cd66,cd67,f_e⟩
               · have hf' : b44 = false := hf
                 subst hf'
                 have d43 : b43 = true := hd ⟨43, .guard⟩ (by simp) rfl
                 subst d43
                 obtain rfl := cd43.out rfl
                 clear hf hd
                 try simp only [setIfInBounds_toArray, set_cons_zero, set_cons_succ]
                 intro K hK
                 rw [if_pos (by rfl)]
                 go_simp
                 exact hK.out _ _ ⟨b0,b1,b2,b3,b4,b5,b6,b7,b8,b9,b10,b11,b12,b13,b14,b15,b16,b17,b18,b19,b20,b21,b22,b23,b24,b25,b26,b27,b28,b29,b30,b31,b32,b33,b34,b35,b36,b37,b38,b39,b40,b41,b42,true,true,b45,b46,b47,b48,b49,b50,b51,b52,b53,b54,b55,b56,b57,b58,b59,b60,b61,b62,b63,b64,b65,b66,b67,x109,x110,x111,x112,x113,x114,x115,x116,x117,x118,x119,x120,x121,x122,x123,x124,x125,x126,x127,x128,x129,x130,x131,x132,x133,x134,x135,x136,x137,x138,x139,x140,x141,x142,x143,x144,x145,x146,x147,x148,x149,x150,x151,.bool false,(.pointer (some ⟨px,2,none⟩)),x154,x155,x156,x157,x158,x159,x160,x161,x162,x163,x164,x165,x166,x167,x168,x169,x170,x171,x172,x173,x174,x175,x176,ea,ec,(by go_simp),(by go_simp),hb,cd0,cd1,cd2,cd3,cd4,cd5,cd6,cd7,cd8,cd9,cd10,cd11,cd12,cd13,cd14,cd15,cd16,cd17,cd18,cd19,cd20,cd21,cd22,cd23,cd24,cd25,cd26,cd27,cd28,cd29,cd30,cd31,cd32,cd33,cd34,cd35,cd36,cd37,cd38,cd39,cd40,cd41,cd42,rf,rf,cd45,cd46,cd47,cd48,cd49,cd50,cd51,cd52,cd53,cd54,cd55,cd56,cd57,cd58,cd59,cd60,cd61,cd62,cd63,cd64,cd65,cd66,cd67,f_e⟩
               · have hf' : b45 = false := hf
                 subst hf'
                 have d44 : b44 = true := hd ⟨44, .data⟩ (by simp) rfl
                 subst d44
                 have d43 : b43 = true := hd ⟨43, .guard⟩ (by simp) rfl
                 subst d43
                 obtain rfl := cd44.out rfl
                 obtain rfl := cd43.out rfl
                 clear hf hd
                 try simp only [setIfInBounds_toArray, set_cons_zero, set_cons_succ]
                 have z0 := (hb.cell hpx).trans cx2
                 intro K hK
                 rw [if_pos (by rfl)]
                 go_simp
                 exact hK.out _ _ ⟨b0,b1,b2,b3,b4,b5,b6,b7,b8,b9,b10,b11,b12,b13,b14,b15,b16,b17,b18,b19,b20,b21,b22,b23,b24,b25,b26,b27,b28,b29,b30,b31,b32,b33,b34,b35,b36,b37,b38,b39,b40,b41,b42,true,true,true,b46,b47,b48,b49,b50,b51,b52,b53,b54,b55,b56,b57,b58,b59,b60,b61,b62,b63,b64,b65,b66,b67,x109,x110,x111,x112,x113,x114,x115,x116,x117,x118,x119,x120,x121,x122,x123,x124,x125,x126,x127,x128,x129,x130,x131,x132,x133,x134,x135,x136,x137,x138,x139,x140,x141,x142,x143,x144,x145,x146,x147,x148,x149,x150,x151,.bool false,.pointer (some ⟨px,2,none⟩),(.slice (some ⟨gv,gvo,none⟩) bnb bbc),x155,x156,x157,x158,x159,x160,x161,x162,x163,x164,x165,x166,x167,x168,x169,x170,x171,x172,x173,x174,x175,x176,ea,ec,(by go_simp),(by go_simp),hb,cd0,cd1,cd2,cd3,cd4,cd5,cd6,cd7,cd8,cd9,cd10,cd11,cd12,cd13,cd14,cd15,cd16,cd17,cd18,cd19,cd20,cd21,cd22,cd23,cd24,cd25,cd26,cd27,cd28,cd29,cd30,cd31,cd32,cd33,cd34,cd35,cd36,cd37,cd38,cd39,cd40,cd41,cd42,rf,rf,rf,cd46,cd47,cd48,cd49,cd50,cd51,cd52,cd53,cd54,cd55,cd56,cd57,cd58,cd59,cd60,cd61,cd62,cd63,cd64,cd65,cd66,cd67,f_e⟩
               · have hf' : b46 = false := hf
                 subst hf'
                 have d43 : b43 = true := hd ⟨43, .guard⟩ (by simp) rfl
                 subst d43
                 obtain rfl := cd43.out rfl
                 clear hf hd
                 try simp only [setIfInBounds_toArray, set_cons_zero, set_cons_succ]
                 intro K hK
                 rw [if_pos (by rfl)]
                 go_simp
                 exact hK.out _ _ ⟨b0,b1,b2,b3,b4,b5,b6,b7,b8,b9,b10,b11,b12,b13,b14,b15,b16,b17,b18,b19,b20,b21,b22,b23,b24,b25,b26,b27,b28,b29,b30,b31,b32,b33,b34,b35,b36,b37,b38,b39,b40,b41,b42,true,b44,b45,true,b47,b48,b49,b50,b51,b52,b53,b54,b55,b56,b57,b58,b59,b60,b61,b62,b63,b64,b65,b66,b67,x109,x110,x111,x112,x113,x114,x115,x116,x117,x118,x119,x120,x121,x122,x123,x124,x125,x126,x127,x128,x129,x130,x131,x132,x133,x134,x135,x136,x137,x138,x139,x140,x141,x142,x143,x144,x145,x146,x147,x148,x149,x150,x151,.bool false,x153,x154,(.int .i64 (jn : Nat)),x156,x157,x158,x159,x160,x161,x162,x163,x164,x165,x166,x167,x168,x169,x170,x171,x172,x173,x174,x175,x176,ea,ec,(by go_simp),(by go_simp),hb,cd0,cd1,cd2,cd3,cd4,cd5,cd6,cd7,cd8,cd9,cd10,cd11,cd12,cd13,cd14,cd15,cd16,cd17,cd18,cd19,cd20,cd21,cd22,cd23,cd24,cd25,cd26,cd27,cd28,cd29,cd30,cd31,cd32,cd33,cd34,cd35,cd36,cd37,cd38,cd39,cd40,cd41,cd42,rf,cd44,cd45,rf,cd47,cd48,cd49,cd50,cd51,cd52,cd53,cd54,cd55,cd56,cd57,cd58,cd59,cd60,cd61,cd62,cd63,cd64,cd65,cd66,cd67,f_e⟩
               · have hf' : b47 = false := hf
                 subst hf'
                 have d45 : b45 = true := hd ⟨45, .data⟩ (by simp) rfl
                 subst d45
                 have d46 : b46 = true := hd ⟨46, .data⟩ (by simp) rfl
                 subst d46
                 have d43 : b43 = true := hd ⟨43, .guard⟩ (by simp) rfl
                 subst d43
                 obtain rfl := cd45.out rfl
                 obtain rfl := cd46.out rfl
                 obtain rfl := cd43.out rfl
                 clear hf hd
                 try simp only [setIfInBounds_toArray, set_cons_zero, set_cons_succ]
                 intro K hK
                 rw [if_pos (by rfl)]
                 go_simp
                 exact hK.out _ _ ⟨b0,b1,b2,b3,b4,b5,b6,b7,b8,b9,b10,b11,b12,b13,b14,b15,b16,b17,b18,b19,b20,b21,b22,b23,b24,b25,b26,b27,b28,b29,b30,b31,b32,b33,b34,b35,b36,b37,b38,b39,b40,b41,b42,true,b44,true,true,true,b48,b49,b50,b51,b52,b53,b54,b55,b56,b57,b58,b59,b60,b61,b62,b63,b64,b65,b66,b67,x109,x110,x111,x112,x113,x114,x115,x116,x117,x118,x119,x120,x121,x122,x123,x124,x125,x126,x127,x128,x129,x130,x131,x132,x133,x134,x135,x136,x137,x138,x139,x140,x141,x142,x143,x144,x145,x146,x147,x148,x149,x150,x151,.bool false,x153,.slice (some ⟨gv,gvo,none⟩) bnb bbc,.int .i64 (jn : Nat),(.pointer (some ⟨gv,gvo + jn * 66,none⟩)),x157,x158,x159,x160,x161,x162,x163,x164,x165,x166,x167,x168,x169,x170,x171,x172,x173,x174,x175,x176,ea,ec,(by go_simp),(by go_simp),hb,cd0,cd1,cd2,cd3,cd4,cd5,cd6,cd7,cd8,cd9,cd10,cd11,cd12,cd13,cd14,cd15,cd16,cd17,cd18,cd19,cd20,cd21,cd22,cd23,cd24,cd25,cd26,cd27,cd28,cd29,cd30,cd31,cd32,cd33,cd34,cd35,cd36,cd37,cd38,cd39,cd40,cd41,cd42,rf,cd44,rf,rf,rf,cd48,cd49,cd50,cd51,cd52,cd53,cd54,cd55,cd56,cd57,cd58,cd59,cd60,cd61,cd62,cd63,cd64,cd65,cd66,cd67,f_e⟩
               · have hf' : b48 = false := hf
                 subst hf'
                 have d47 : b47 = true := hd ⟨47, .data⟩ (by simp) rfl
                 subst d47
                 have d43 : b43 = true := hd ⟨43, .guard⟩ (by simp) rfl
                 subst d43
                 obtain rfl := cd47.out rfl
                 obtain rfl := cd43.out rfl
                 clear hf hd
                 try simp only [setIfInBounds_toArray, set_cons_zero, set_cons_succ]
                 intro K hK
                 rw [if_pos (by rfl)]
                 go_simp
                 exact hK.out _ _ ⟨b0,b1,b2,b3,b4,b5,b6,b7,b8,b9,b10,b11,b12,b13,b14,b15,b16,b17,b18,b19,b20,b21,b22,b23,b24,b25,b26,b27,b28,b29,b30,b31,b32,b33,b34,b35,b36,b37,b38,b39,b40,b41,b42,true,b44,b45,b46,true,true,b49,b50,b51,b52,b53,b54,b55,b56,b57,b58,b59,b60,b61,b62,b63,b64,b65,b66,b67,x109,x110,x111,x112,x113,x114,x115,x116,x117,x118,x119,x120,x121,x122,x123,x124,x125,x126,x127,x128,x129,x130,x131,x132,x133,x134,x135,x136,x137,x138,x139,x140,x141,x142,x143,x144,x145,x146,x147,x148,x149,x150,x151,.bool false,x153,x154,x155,.pointer (some ⟨gv,gvo + jn * 66,none⟩),(.pointer (some ⟨gv,gvo + jn * 66 + 65,none⟩)),x158,x159,x160,x161,x162,x163,x164,x165,x166,x167,x168,x169,x170,x171,x172,x173,x174,x175,x176,ea,ec,(by go_simp),(by go_simp),hb,cd0,cd1,cd2,cd3,cd4,cd5,cd6,cd7,cd8,cd9,cd10,cd11,cd12,cd13,cd14,cd15,cd16,cd17,cd18,cd19,cd20,cd21,cd22,cd23,cd24,cd25,cd26,cd27,cd28,cd29,cd30,cd31,cd32,cd33,cd34,cd35,cd36,cd37,cd38,cd39,cd40,cd41,cd42,rf,cd44,cd45,cd46,rf,rf,cd49,cd50,cd51,cd52,cd53,cd54,cd55,cd56,cd57,cd58,cd59,cd60,cd61,cd62,cd63,cd64,cd65,cd66,cd67,f_e⟩
               · have hf' : b49 = false := hf
                 subst hf'
                 have d48 : b48 = true := hd ⟨48, .data⟩ (by simp) rfl
                 subst d48
                 have d43 : b43 = true := hd ⟨43, .guard⟩ (by simp) rfl
                 subst d43
                 obtain rfl := cd48.out rfl
                 obtain rfl := cd43.out rfl
                 clear hf hd
                 try simp only [setIfInBounds_toArray, set_cons_zero, set_cons_succ]
                 have z0 := (hb.cell hgv).trans cc65
                 intro K hK
                 rw [if_pos (by rfl)]
                 go_simp
                 exact hK.out _ _ ⟨b0,b1,b2,b3,b4,b5,b6,b7,b8,b9,b10,b11,b12,b13,b14,b15,b16,b17,b18,b19,b20,b21,b22,b23,b24,b25,b26,b27,b28,b29,b30,b31,b32,b33,b34,b35,b36,b37,b38,b39,b40,b41,b42,true,b44,b45,b46,b47,true,true,b50,b51,b52,b53,b54,b55,b56,b57,b58,b59,b60,b61,b62,b63,b64,b65,b66,b67,x109,x110,x111,x112,x113,x114,x115,x116,x117,x118,x119,x120,x121,x122,x123,x124,x125,x126,x127,x128,x129,x130,x131,x132,x133,x134,x135,x136,x137,x138,x139,x140,x141,x142,x143,x144,x145,x146,x147,x148,x149,x150,x151,.bool false,x153,x154,x155,x156,.pointer (some ⟨gv,gvo + jn * 66 + 65,none⟩),(.int .i64 (un : Nat)),x159,x160,x161,x162,x163,x164,x165,x166,x167,x168,x169,x170,x171,x172,x173,x174,x175,x176,ea,ec,(by go_simp),(by go_simp),hb,cd0,cd1,cd2,cd3,cd4,cd5,cd6,cd7,cd8,cd9,cd10,cd11,cd12,cd13,cd14,cd15,cd16,cd17,cd18,cd19,cd20,cd21,cd22,cd23,cd24,cd25,cd26,cd27,cd28,cd29,cd30,cd31,cd32,cd33,cd34,cd35,cd36,cd37,cd38,cd39,cd40,cd41,cd42,rf,cd44,cd45,cd46,cd47,rf,rf,cd50,cd51,cd52,cd53,cd54,cd55,cd56,cd57,cd58,cd59,cd60,cd61,cd62,cd63,cd64,cd65,cd66,cd67,f_e⟩
               · have hf' : b50 = false := hf
                 subst hf'
                 have d49 : b49 = true := hd ⟨49, .data⟩ (by simp) rfl
                 subst d49
                 have d43 : b43 = true := hd ⟨43, .guard⟩ (by simp) rfl
                 subst d43
                 obtain rfl := cd49.out rfl
                 obtain rfl := cd43.out rfl
                 clear hf hd
                 try simp only [setIfInBounds_toArray, set_cons_zero, set_cons_succ]
                 intro K hK
                 rw [if_pos (by rfl)]
                 go_simp
                 exact hK.out _ _ ⟨b0,b1,b2,b3,b4,b5,b6,b7,b8,b9,b10,b11,b12,b13,b14,b15,b16,b17,b18,b19,b20,b21,b22,b23,b24,b25,b26,b27,b28,b29,b30,b31,b32,b33,b34,b35,b36,b37,b38,b39,b40,b41,b42,true,b44,b45,b46,b47,b48,true,true,b51,b52,b53,b54,b55,b56,b57,b58,b59,b60,b61,b62,b63,b64,b65,b66,b67,x109,x110,x111,x112,x113,x114,x115,x116,x117,x118,x119,x120,x121,x122,x123,x124,x125,x126,x127,x128,x129,x130,x131,x132,x133,x134,x135,x136,x137,x138,x139,x140,x141,x142,x143,x144,x145,x146,x147,x148,x149,x150,x151,.bool false,x153,x154,x155,x156,x157,.int .i64 (un : Nat),(.bool false),x160,x161,x162,x163,x164,x165,x166,x167,x168,x169,x170,x171,x172,x173,x174,x175,x176,ea,ec,(by go_simp),(by go_simp),hb,cd0,cd1,cd2,cd3,cd4,cd5,cd6,cd7,cd8,cd9,cd10,cd11,cd12,cd13,cd14,cd15,cd16,cd17,cd18,cd19,cd20,cd21,cd22,cd23,cd24,cd25,cd26,cd27,cd28,cd29,cd30,cd31,cd32,cd33,cd34,cd35,cd36,cd37,cd38,cd39,cd40,cd41,cd42,rf,cd44,cd45,cd46,cd47,cd48,rf,rf,cd51,cd52,cd53,cd54,cd55,cd56,cd57,cd58,cd59,cd60,cd61,cd62,cd63,cd64,cd65,cd66,cd67,f_e⟩
               · have hf' : b51 = false := hf
                 subst hf'
                 have d43 : b43 = true := hd ⟨43, .data⟩ (by simp) rfl
                 subst d43
                 have d50 : b50 = true := hd ⟨50, .data⟩ (by simp) rfl
                 subst d50
                 obtain rfl := cd43.out rfl
                 obtain rfl := cd50.out rfl
                 clear hf hd
                 try simp only [setIfInBounds_toArray, set_cons_zero, set_cons_succ]
                 intro K hK
                 rw [if_pos (by rfl)]
                 go_simp
                 exact hK.out _ _ ⟨b0,b1,b2,b3,b4,b5,b6,b7,b8,b9,b10,b11,b12,b13,b14,b15,b16,b17,b18,b19,b20,b21,b22,b23,b24,b25,b26,b27,b28,b29,b30,b31,b32,b33,b34,b35,b36,b37,b38,b39,b40,b41,b42,true,b44,b45,b46,b47,b48,b49,true,true,b52,b53,b54,b55,b56,b57,b58,b59,b60,b61,b62,b63,b64,b65,b66,b67,x109,x110,x111,x112,x113,x114,x115,x116,x117,x118,x119,x120,x121,x122,x123,x124,x125,x126,x127,x128,x129,x130,x131,x132,x133,x134,x135,x136,x137,x138,x139,x140,x141,x142,x143,x144,x145,x146,x147,x148,x149,x150,x151,.bool false,x153,x154,x155,x156,x157,x158,.bool false,(.bool false),x161,x162,x163,x164,x165,x166,x167,x168,x169,x170,x171,x172,x173,x174,x175,x176,ea,ec,(by go_simp),(by go_simp),hb,cd0,cd1,cd2,cd3,cd4,cd5,cd6,cd7,cd8,cd9,cd10,cd11,cd12,cd13,cd14,cd15,cd16,cd17,cd18,cd19,cd20,cd21,cd22,cd23,cd24,cd25,cd26,cd27,cd28,cd29,cd30,cd31,cd32,cd33,cd34,cd35,cd36,cd37,cd38,cd39,cd40,cd41,cd42,rf,cd44,cd45,cd46,cd47,cd48,cd49,rf,rf,cd52,cd53,cd54,cd55,cd56,cd57,cd58,cd59,cd60,cd61,cd62,cd63,cd64,cd65,cd66,cd67,f_e⟩
               · have hf' : b52 = false := hf
                 subst hf'
                 have d51 : b51 = true := hd ⟨51, .data⟩ (by simp) rfl
                 subst d51
                 have d43 : b43 = true := hd ⟨43, .chain⟩ (by simp) rfl
                 subst d43
                 obtain rfl := cd51.out rfl
                 obtain rfl := cd43.out rfl
                 clear hf hd
                 try simp only [setIfInBounds_toArray, set_cons_zero, set_cons_succ]
                 intro K hK
                 rw [if_pos (by rfl)]
                 go_simp
                 exact hK.out _ _ ⟨b0,b1,b2,b3,b4,b5,b6,b7,b8,b9,b10,b11,b12,b13,b14,b15,b16,b17,b18,b19,b20,b21,b22,b23,b24,b25,b26,b27,b28,b29,b30,b31,b32,b33,b34,b35,b36,b37,b38,b39,b40,b41,b42,true,b44,b45,b46,b47,b48,b49,b50,true,true,b53,b54,b55,b56,b57,b58,b59,b60,b61,b62,b63,b64,b65,b66,b67,x109,x110,x111,x112,x113,x114,x115,x116,x117,x118,x119,x120,x121,x122,x123,x124,x125,x126,x127,x128,x129,x130,x131,x132,x133,x134,x135,x136,x137,x138,x139,x140,x141,x142,x143,x144,x145,x146,x147,x148,x149,x150,x151,.bool false,x153,x154,x155,x156,x157,x158,x159,.bool false,(.bool false),x162,x163,x164,x165,x166,x167,x168,x169,x170,x171,x172,x173,x174,x175,x176,ea,ec,(by go_simp),(by go_simp),hb,cd0,cd1,cd2,cd3,cd4,cd5,cd6,cd7,cd8,cd9,cd10,cd11,cd12,cd13,cd14,cd15,cd16,cd17,cd18,cd19,cd20,cd21,cd22,cd23,cd24,cd25,cd26,cd27,cd28,cd29,cd30,cd31,cd32,cd33,cd34,cd35,cd36,cd37,cd38,cd39,cd40,cd41,cd42,rf,cd44,cd45,cd46,cd47,cd48,cd49,cd50,rf,rf,cd53,cd54,cd55,cd56,cd57,cd58,cd59,cd60,cd61,cd62,cd63,cd64,cd65,cd66,cd67,f_e⟩
               · have hf' : b53 = false := hf
                 subst hf'
                 have d52 : b52 = true := hd ⟨52, .guard⟩ (by simp) rfl
                 subst d52
                 obtain rfl := cd52.out rfl
                 clear hf hd
                 try simp only [setIfInBounds_toArray, set_cons_zero, set_cons_succ]
                 intro K hK
                 rw [if_pos (by rfl)]
                 go_simp
                 exact hK.out _ _ ⟨b0,b1,b2,b3,b4,b5,b6,b7,b8,b9,b10,b11,b12,b13,b14,b15,b16,b17,b18,b19,b20,b21,b22,b23,b24,b25,b26,b27,b28,b29,b30,b31,b32,b33,b34,b35,b36,b37,b38,b39,b40,b41,b42,b43,b44,b45,b46,b47,b48,b49,b50,b51,true,true,b54,b55,b56,b57,b58,b59,b60,b61,b62,b63,b64,b65,b66,b67,x109,x110,x111,x112,x113,x114,x115,x116,x117,x118,x119,x120,x121,x122,x123,x124,x125,x126,x127,x128,x129,x130,x131,x132,x133,x134,x135,x136,x137,x138,x139,x140,x141,x142,x143,x144,x145,x146,x147,x148,x149,x150,x151,x152,x153,x154,x155,x156,x157,x158,x159,x160,.bool false,(.pointer (some ⟨px,2,none⟩)),x163,x164,x165,x166,x167,x168,x169,x170,x171,x172,x173,x174,x175,x176,ea,ec,(by go_simp),(by go_simp),hb,cd0,cd1,cd2,cd3,cd4,cd5,cd6,cd7,cd8,cd9,cd10,cd11,cd12,cd13,cd14,cd15,cd16,cd17,cd18,cd19,cd20,cd21,cd22,cd23,cd24,cd25,cd26,cd27,cd28,cd29,cd30,cd31,cd32,cd33,cd34,cd35,cd36,cd37,cd38,cd39,cd40,cd41,cd42,cd43,cd44,cd45,cd46,cd47,cd48,cd49,cd50,cd51,rf,rf,cd54,cd55,cd56,cd57,cd58,cd59,cd60,cd61,cd62,cd63,cd64,cd65,cd66,cd67,f_e⟩
               · have hf' : b54 = false := hf
                 subst hf'
                 have d53 : b53 = true := hd ⟨53, .data⟩ (by simp) rfl
                 subst d53
                 have d52 : b52 = true := hd ⟨52, .guard⟩ (by simp) rfl
                 subst d52
                 obtain rfl := cd53.out rfl
                 obtain rfl := cd52.out rfl
                 clear hf hd
                 try simp only [setIfInBounds_toArray, set_cons_zero, set_cons_succ]
                 have z0 := (hb.cell hpx).trans cx2
                 intro K hK
                 rw [if_pos (by rfl)]
                 go_simp
                 exact hK.out _ _ ⟨b0,b1,b2,b3,b4,b5,b6,b7,b8,b9,b10,b11,b12,b13,b14,b15,b16,b17,b18,b19,b20,b21,b22,b23,b24,b25,b26,b27,b28,b29,b30,b31,b32,b33,b34,b35,b36,b37,b38,b39,b40,b41,b42,b43,b44,b45,b46,b47,b48,b49,b50,b51,true,true,true,b55,b56,b57,b58,b59,b60,b61,b62,b63,b64,b65,b66,b67,x109,x110,x111,x112,x113,x114,x115,x116,x117,x118,x119,x120,x121,x122,x123,x124,x125,x126,x127,x128,x129,x130,x131,x132,x133,x134,x135,x136,x137,x138,x139,x140,x141,x142,x143,x144,x145,x146,x147,x148,x149,x150,x151,x152,x153,x154,x155,x156,x157,x158,x159,x160,.bool false,.pointer (some ⟨px,2,none⟩),(.slice (some ⟨gv,gvo,none⟩) bnb bbc),x164,x165,x166,x167,x168,x169,x170,x171,x172,x173,x174,x175,x176,ea,ec,(by go_simp),(by go_simp),hb,cd0,cd1,cd2,cd3,cd4,cd5,cd6,cd7,cd8,cd9,cd10,cd11,cd12,cd13,cd14,cd15,cd16,cd17,cd18,cd19,cd20,cd21,cd22,cd23,cd24,cd25,cd26,cd27,cd28,cd29,cd30,cd31,cd32,cd33,cd34,cd35,cd36,cd37,cd38,cd39,cd40,cd41,cd42,cd43,cd44,cd45,cd46,cd47,cd48,cd49,cd50,cd51,rf,rf,rf,cd55,cd56,cd57,cd58,cd59,cd60,cd61,cd62,cd63,cd64,cd65,cd66,cd67,f_e⟩
               · have hf' : b55 = false := hf
                 subst hf'
                 have d52 : b52 = true := hd ⟨52, .guard⟩ (by simp) rfl
                 subst d52
                 obtain rfl := cd52.out rfl
                 clear hf hd
                 try simp only [setIfInBounds_toArray, set_cons_zero, set_cons_succ]
                 intro K hK
                 rw [if_pos (by rfl)]
                 go_simp
                 exact hK.out _ _ ⟨b0,b1,b2,b3,b4,b5,b6,b7,b8,b9,b10,b11,b12,b13,b14,b15,b16,b17,b18,b19,b20,b21,b22,b23,b24,b25,b26,b27,b28,b29,b30,b31,b32,b33,b34,b35,b36,b37,b38,b39,b40,b41,b42,b43,b44,b45,b46,b47,b48,b49,b50,b51,true,b53,b54,true,b56,b57,b58,b59,b60,b61,b62,b63,b64,b65,b66,b67,x109,x110,x111,x112,x113,x114,x115,x116,x117,x118,x119,x120,x121,x122,x123,x124,x125,x126,x127,x128,x129,x130,x131,x132,x133,x134,x135,x136,x137,x138,x139,x140,x141,x142,x143,x144,x145,x146,x147,x148,x149,x150,x151,x152,x153,x154,x155,x156,x157,x158,x159,x160,.bool false,x162,x163,(.int .i64 (jn : Nat)),x165,x166,x167,x168,x169,x170,x171,x172,x173,x174,x175,x176,ea,ec,(by go_simp),(by go_simp),hb,cd0,cd1,cd2,cd3,cd4,cd5,cd6,cd7,cd8,cd9,cd10,cd11,cd12,cd13,cd14,cd15,cd16,cd17,cd18,cd19,cd20,cd21,cd22,cd23,cd24,cd25,cd26,cd27,cd28,cd29,cd30,cd31,cd32,cd33,cd34,cd35,cd36,cd37,cd38,cd39,cd40,cd41,cd42,cd43,cd44,cd45,cd46,cd47,cd48,cd49,cd50,cd51,rf,cd53,cd54,rf,cd56,cd57,cd58,cd59,cd60,cd61,cd62,cd63,cd64,cd65,cd66,cd67,f_e⟩
               · have hf' : b56 = false := hf
                 subst hf'
                 have d54 : b54 = true := hd ⟨54, .data⟩ (by simp) rfl
                 subst d54
                 have d55 : b55 = true := hd ⟨55, .data⟩ (by simp) rfl
                 subst d55
                 have d52 : b52 = true := hd ⟨52, .guard⟩ (by simp) rfl
                 subst d52
                 obtain rfl := cd54.out rfl
                 obtain rfl := cd55.out rfl
                 obtain rfl := cd52.out rfl
                 clear hf hd
                 try simp only [setIfInBounds_toArray, set_cons_zero, set_cons_succ]
                 intro K hK
                 rw [if_pos (by rfl)]
                 go_simp
                 exact hK.out _ _ ⟨b0,b1,b2,b3,b4,b5,b6,b7,b8,b9,b10,b11,b12,b13,b14,b15,b16,b17,b18,b19,b20,b21,b22,b23,b24,b25,b26,b27,b28,b29,b30,b31,b32,b33,b34,b35,b36,b37,b38,b39,b40,b41,b42,b43,b44,b45,b46,b47,b48,b49,b50,b51,true,b53,true,true,true,b57,b58,b59,b60,b61,b62,b63,b64,b65,b66,b67,x109,x110,x111,x112,x113,x114,x115,x116,x117,x118,x119,x120,x121,x122,x123,x124,x125,x126,x127,x128,x129,x130,x131,x132,x133,x134,x135,x136,x137,x138,x139,x140,x141,x142,x143,x144,x145,x146,x147,x148,x149,x150,x151,x152,x153,x154,x155,x156,x157,x158,x159,x160,.bool false,x162,.slice (some ⟨gv,gvo,none⟩) bnb bbc,.int .i64 (jn : Nat),(.pointer (some ⟨gv,gvo + jn * 66,none⟩)),x166,x167,x168,x169,x170,x171,x172,x173,x174,x175,x176,ea,ec,(by go_simp),(by go_simp),hb,cd0,cd1,cd2,cd3,cd4,cd5,cd6,cd7,cd8,cd9,cd10,cd11,cd12,cd13,cd14,cd15,cd16,cd17,cd18,cd19,cd20,cd21,cd22,cd23,cd24,cd25,cd26,cd27,cd28,cd29,cd30,cd31,cd32,cd33,cd34,cd35,cd36,cd37,cd38,cd39,cd40,cd41,cd42,cd43,cd44,cd45,cd46,cd47,cd48,cd49,cd50,cd51,rf,cd53,rf,rf,rf,cd57,cd58,cd59,cd60,cd61,cd62,cd63,cd64,cd65,cd66,cd67,f_e⟩
               · have hf' : b57 = false := hf
                 subst hf'
                 have d56 : b56 = true := hd ⟨56, .data⟩ (by simp) rfl
                 subst d56
                 have d52 : b52 = true := hd ⟨52, .guard⟩ (by simp) rfl
                 subst d52
                 obtain rfl := cd56.out rfl
                 obtain rfl := cd52.out rfl
                 clear hf hd
                 try simp only [setIfInBounds_toArray, set_cons_zero, set_cons_succ]
                 intro K hK
                 rw [if_pos (by rfl)]
                 go_simp
                 exact hK.out _ _ ⟨b0,b1,b2,b3,b4,b5,b6,b7,b8,b9,b10,b11,b12,b13,b14,b15,b16,b17,b18,b19,b20,b21,b22,b23,b24,b25,b26,b27,b28,b29,b30,b31,b32,b33,b34,b35,b36,b37,b38,b39,b40,b41,b42,b43,b44,b45,b46,b47,b48,b49,b50,b51,true,b53,b54,b55,true,true,b58,b59,b60,b61,b62,b63,b64,b65,b66,b67,x109,x110,x111,x112,x113,x114,x115,x116,x117,x118,x119,x120,x121,x122,x123,x124,x125,x126,x127,x128,x129,x130,x131,x132,x133,x134,x135,x136,x137,x138,x139,x140,x141,x142,x143,x144,x145,x146,x147,x148,x149,x150,x151,x152,x153,x154,x155,x156,x157,x158,x159,x160,.bool false,x162,x163,x164,.pointer (some ⟨gv,gvo + jn * 66,none⟩),(.pointer (some ⟨gv,gvo + jn * 66 + 33,none⟩)),x167,x168,x169,x170,x171,x172,x173,x174,x175,x176,ea,ec,(by go_simp),(by go_simp),hb,cd0,cd1,cd2,cd3,cd4,cd5,cd6,cd7,cd8,cd9,cd10,cd11,cd12,cd13,cd14,cd15,cd16,cd17,cd18,cd19,cd20,cd21,cd22,cd23,cd24,cd25,cd26,cd27,cd28,cd29,cd30,cd31,cd32,cd33,cd34,cd35,cd36,cd37,cd38,cd39,cd40,cd41,cd42,cd43,cd44,cd45,cd46,cd47,cd48,cd49,cd50,cd51,rf,cd53,cd54,cd55,rf,rf,cd58,cd59,cd60,cd61,cd62,cd63,cd64,cd65,cd66,cd67,f_e⟩
               · have hf' : b58 = false := hf
                 subst hf'
                 have d57 : b57 = true := hd ⟨57, .data⟩ (by simp) rfl
                 subst d57
                 have d52 : b52 = true := hd ⟨52, .guard⟩ (by simp) rfl
                 subst d52
                 obtain rfl := cd57.out rfl
                 obtain rfl := cd52.out rfl
                 clear hf hd
                 try simp only [setIfInBounds_toArray, set_cons_zero, set_cons_succ]
                 intro K hK
                 rw [if_pos (by rfl)]
                 refine wp_load_cells 53 _ rfl ⟨gv, gvo + jn * 66 + 33, none⟩ rfl HR0.toList (fun q v hv => HV33.out w hb q v hv) hash_agg (by rw [sizeHash, HRS.out]) ?_
                 simp only [Array.toArray_toList]
                 exact hK.out _ _ ⟨b0,b1,b2,b3,b4,b5,b6,b7,b8,b9,b10,b11,b12,b13,b14,b15,b16,b17,b18,b19,b20,b21,b22,b23,b24,b25,b26,b27,b28,b29,b30,b31,b32,b33,b34,b35,b36,b37,b38,b39,b40,b41,b42,b43,b44,b45,b46,b47,b48,b49,b50,b51,true,b53,b54,b55,b56,true,true,b59,b60,b61,b62,b63,b64,b65,b66,b67,x109,x110,x111,x112,x113,x114,x115,x116,x117,x118,x119,x120,x121,x122,x123,x124,x125,x126,x127,x128,x129,x130,x131,x132,x133,x134,x135,x136,x137,x138,x139,x140,x141,x142,x143,x144,x145,x146,x147,x148,x149,x150,x151,x152,x153,x154,x155,x156,x157,x158,x159,x160,.bool false,x162,x163,x164,x165,.pointer (some ⟨gv,gvo + jn * 66 + 33,none⟩),(.agg HR0),x168,x169,x170,x171,x172,x173,x174,x175,x176,ea,ec,(by go_simp),(by go_simp),hb,cd0,cd1,cd2,cd3,cd4,cd5,cd6,cd7,cd8,cd9,cd10,cd11,cd12,cd13,cd14,cd15,cd16,cd17,cd18,cd19,cd20,cd21,cd22,cd23,cd24,cd25,cd26,cd27,cd28,cd29,cd30,cd31,cd32,cd33,cd34,cd35,cd36,cd37,cd38,cd39,cd40,cd41,cd42,cd43,cd44,cd45,cd46,cd47,cd48,cd49,cd50,cd51,rf,cd53,cd54,cd55,cd56,rf,rf,cd59,cd60,cd61,cd62,cd63,cd64,cd65,cd66,cd67,f_e⟩
               · have hf' : b59 = false := hf
                 subst hf'
                 have d52 : b52 = true := hd ⟨52, .guard⟩ (by simp) rfl
                 subst d52
                 obtain rfl := cd52.out rfl
                 clear hf hd
                 try simp only [setIfInBounds_toArray, set_cons_zero, set_cons_succ]
                 intro K hK
                 rw [if_pos (by rfl)]
                 go_simp
                 exact hK.out _ _ ⟨b0,b1,b2,b3,b4,b5,b6,b7,b8,b9,b10,b11,b12,b13,b14,b15,b16,b17,b18,b19,b20,b21,b22,b23,b24,b25,b26,b27,b28,b29,b30,b31,b32,b33,b34,b35,b36,b37,b38,b39,b40,b41,b42,b43,b44,b45,b46,b47,b48,b49,b50,b51,true,b53,b54,b55,b56,b57,b58,true,b60,b61,b62,b63,b64,b65,b66,b67,x109,x110,x111,x112,x113,x114,x115,x116,x117,x118,x119,x120,x121,x122,x123,x124,x125,x126,x127,x128,x129,x130,x131,x132,x133,x134,x135,x136,x137,x138,x139,x140,x141,x142,x143,x144,x145,x146,x147,x148,x149,x150,x151,x152,x153,x154,x155,x156,x157,x158,x159,x160,.bool false,x162,x163,x164,x165,x166,x167,(.pointer (some ⟨px,3,none⟩)),x169,x170,x171,x172,x173,x174,x175,x176,ea,ec,(by go_simp),(by go_simp),hb,cd0,cd1,cd2,cd3,cd4,cd5,cd6,cd7,cd8,cd9,cd10,cd11,cd12,cd13,cd14,cd15,cd16,cd17,cd18,cd19,cd20,cd21,cd22,cd23,cd24,cd25,cd26,cd27,cd28,cd29,cd30,cd31,cd32,cd33,cd34,cd35,cd36,cd37,cd38,cd39,cd40,cd41,cd42,cd43,cd44,cd45,cd46,cd47,cd48,cd49,cd50,cd51,rf,cd53,cd54,cd55,cd56,cd57,cd58,rf,cd60,cd61,cd62,cd63,cd64,cd65,cd66,cd67,f_e⟩
               · have hf' : b60 = false := hf
                 subst hf'
                 have d59 : b59 = true := hd ⟨59, .data⟩ (by simp) rfl
                 subst d59
                 have d52 : b52 = true := hd ⟨52, .guard⟩ (by simp) rfl
                 subst d52
                 obtain rfl := cd59.out rfl
                 obtain rfl := cd52.out rfl
                 clear hf hd
                 try simp only [setIfInBounds_toArray, set_cons_zero, set_cons_succ]
                 have z0 := (hb.cell hpx).trans cx3
                 intro K hK
                 rw [if_pos (by rfl)]
                 go_simp
                 exact hK.out _ _ ⟨b0,b1,b2,b3,b4,b5,b6,b7,b8,b9,b10,b11,b12,b13,b14,b15,b16,b17,b18,b19,b20,b21,b22,b23,b24,b25,b26,b27,b28,b29,b30,b31,b32,b33,b34,b35,b36,b37,b38,b39,b40,b41,b42,b43,b44,b45,b46,b47,b48,b49,b50,b51,true,b53,b54,b55,b56,b57,b58,true,true,b61,b62,b63,b64,b65,b66,b67,x109,x110,x111,x112,x113,x114,x115,x116,x117,x118,x119,x120,x121,x122,x123,x124,x125,x126,x127,x128,x129,x130,x131,x132,x133,x134,x135,x136,x137,x138,x139,x140,x141,x142,x143,x144,x145,x146,x147,x148,x149,x150,x151,x152,x153,x154,x155,x156,x157,x158,x159,x160,.bool false,x162,x163,x164,x165,x166,x167,.pointer (some ⟨px,3,none⟩),(.slice (some ⟨gt,gto,none⟩) tnb tbc),x170,x171,x172,x173,x174,x175,x176,ea,ec,(by go_simp),(by go_simp),hb,cd0,cd1,cd2,cd3,cd4,cd5,cd6,cd7,cd8,cd9,cd10,cd11,cd12,cd13,cd14,cd15,cd16,cd17,cd18,cd19,cd20,cd21,cd22,cd23,cd24,cd25,cd26,cd27,cd28,cd29,cd30,cd31,cd32,cd33,cd34,cd35,cd36,cd37,cd38,cd39,cd40,cd41,cd42,cd43,cd44,cd45,cd46,cd47,cd48,cd49,cd50,cd51,rf,cd53,cd54,cd55,cd56,cd57,cd58,rf,rf,cd61,cd62,cd63,cd64,cd65,cd66,cd67,f_e⟩
               · have hf' : b61 = false := hf
                 subst hf'
                 have d52 : b52 = true := hd ⟨52, .guard⟩ (by simp) rfl
                 subst d52
                 obtain rfl := cd52.out rfl
                 clear hf hd
                 try simp only [setIfInBounds_toArray, set_cons_zero, set_cons_succ]
                 intro K hK
                 rw [if_pos (by rfl)]
                 go_simp
                 exact hK.out _ _ ⟨b0,b1,b2,b3,b4,b5,b6,b7,b8,b9,b10,b11,b12,b13,b14,b15,b16,b17,b18,b19,b20,b21,b22,b23,b24,b25,b26,b27,b28,b29,b30,b31,b32,b33,b34,b35,b36,b37,b38,b39,b40,b41,b42,b43,b44,b45,b46,b47,b48,b49,b50,b51,true,b53,b54,b55,b56,b57,b58,b59,b60,true,b62,b63,b64,b65,b66,b67,x109,x110,x111,x112,x113,x114,x115,x116,x117,x118,x119,x120,x121,x122,x123,x124,x125,x126,x127,x128,x129,x130,x131,x132,x133,x134,x135,x136,x137,x138,x139,x140,x141,x142,x143,x144,x145,x146,x147,x148,x149,x150,x151,x152,x153,x154,x155,x156,x157,x158,x159,x160,.bool false,x162,x163,x164,x165,x166,x167,x168,x169,(.int .i64 (jn : Nat)),x171,x172,x173,x174,x175,x176,ea,ec,(by go_simp),(by go_simp),hb,cd0,cd1,cd2,cd3,cd4,cd5,cd6,cd7,cd8,cd9,cd10,cd11,cd12,cd13,cd14,cd15,cd16,cd17,cd18,cd19,cd20,cd21,cd22,cd23,cd24,cd25,cd26,cd27,cd28,cd29,cd30,cd31,cd32,cd33,cd34,cd35,cd36,cd37,cd38,cd39,cd40,cd41,cd42,cd43,cd44,cd45,cd46,cd47,cd48,cd49,cd50,cd51,rf,cd53,cd54,cd55,cd56,cd57,cd58,cd59,cd60,rf,cd62,cd63,cd64,cd65,cd66,cd67,f_e⟩
               · have hf' : b62 = false := hf
                 subst hf'
                 have d60 : b60 = true := hd ⟨60, .data⟩ (by simp) rfl
                 subst d60
                 have d61 : b61 = true := hd ⟨61, .data⟩ (by simp) rfl
                 subst d61
                 have d52 : b52 = true := hd ⟨52, .guard⟩ (by simp) rfl
                 subst d52
                 obtain rfl := cd60.out rfl
                 obtain rfl := cd61.out rfl
                 obtain rfl := cd52.out rfl
                 clear hf hd
                 try simp only [setIfInBounds_toArray, set_cons_zero, set_cons_succ]
                 intro K hK
                 rw [if_pos (by rfl)]
                 go_simp
                 exact hK.out _ _ ⟨b0,b1,b2,b3,b4,b5,b6,b7,b8,b9,b10,b11,b12,b13,b14,b15,b16,b17,b18,b19,b20,b21,b22,b23,b24,b25,b26,b27,b28,b29,b30,b31,b32,b33,b34,b35,b36,b37,b38,b39,b40,b41,b42,b43,b44,b45,b46,b47,b48,b49,b50,b51,true,b53,b54,b55,b56,b57,b58,b59,true,true,true,b63,b64,b65,b66,b67,x109,x110,x111,x112,x113,x114,x115,x116,x117,x118,x119,x120,x121,x122,x123,x124,x125,x126,x127,x128,x129,x130,x131,x132,x133,x134,x135,x136,x137,x138,x139,x140,x141,x142,x143,x144,x145,x146,x147,x148,x149,x150,x151,x152,x153,x154,x155,x156,x157,x158,x159,x160,.bool false,x162,x163,x164,x165,x166,x167,x168,.slice (some ⟨gt,gto,none⟩) tnb tbc,.int .i64 (jn : Nat),(.pointer (some ⟨gt,gto + jn,none⟩)),x172,x173,x174,x175,x176,ea,ec,(by go_simp),(by go_simp),hb,cd0,cd1,cd2,cd3,cd4,cd5,cd6,cd7,cd8,cd9,cd10,cd11,cd12,cd13,cd14,cd15,cd16,cd17,cd18,cd19,cd20,cd21,cd22,cd23,cd24,cd25,cd26,cd27,cd28,cd29,cd30,cd31,cd32,cd33,cd34,cd35,cd36,cd37,cd38,cd39,cd40,cd41,cd42,cd43,cd44,cd45,cd46,cd47,cd48,cd49,cd50,cd51,rf,cd53,cd54,cd55,cd56,cd57,cd58,cd59,rf,rf,rf,cd63,cd64,cd65,cd66,cd67,f_e⟩
               · have hf' : b63 = false := hf
                 subst hf'
                 have d62 : b62 = true := hd ⟨62, .data⟩ (by simp) rfl
                 subst d62
                 have d52 : b52 = true := hd ⟨52, .guard⟩ (by simp) rfl
                 subst d52
                 obtain rfl := cd62.out rfl
                 obtain rfl := cd52.out rfl
                 clear hf hd
                 try simp only [setIfInBounds_toArray, set_cons_zero, set_cons_succ]
                 have z0 := (hb.cell hgt).trans u0
                 intro K hK
                 rw [if_pos (by rfl)]
                 go_simp
                 exact hK.out _ _ ⟨b0,b1,b2,b3,b4,b5,b6,b7,b8,b9,b10,b11,b12,b13,b14,b15,b16,b17,b18,b19,b20,b21,b22,b23,b24,b25,b26,b27,b28,b29,b30,b31,b32,b33,b34,b35,b36,b37,b38,b39,b40,b41,b42,b43,b44,b45,b46,b47,b48,b49,b50,b51,true,b53,b54,b55,b56,b57,b58,b59,b60,b61,true,true,b64,b65,b66,b67,x109,x110,x111,x112,x113,x114,x115,x116,x117,x118,x119,x120,x121,x122,x123,x124,x125,x126,x127,x128,x129,x130,x131,x132,x133,x134,x135,x136,x137,x138,x139,x140,x141,x142,x143,x144,x145,x146,x147,x148,x149,x150,x151,x152,x153,x154,x155,x156,x157,x158,x159,x160,.bool false,x162,x163,x164,x165,x166,x167,x168,x169,x170,.pointer (some ⟨gt,gto + jn,none⟩),(.slice ua un uc),x173,x174,x175,x176,ea,ec,(by go_simp),(by go_simp),hb,cd0,cd1,cd2,cd3,cd4,cd5,cd6,cd7,cd8,cd9,cd10,cd11,cd12,cd13,cd14,cd15,cd16,cd17,cd18,cd19,cd20,cd21,cd22,cd23,cd24,cd25,cd26,cd27,cd28,cd29,cd30,cd31,cd32,cd33,cd34,cd35,cd36,cd37,cd38,cd39,cd40,cd41,cd42,cd43,cd44,cd45,cd46,cd47,cd48,cd49,cd50,cd51,rf,cd53,cd54,cd55,cd56,cd57,cd58,cd59,cd60,cd61,rf,rf,cd64,cd65,cd66,cd67,f_e⟩
               · have hf' : b64 = false := hf
                 subst hf'
                 have d63 : b63 = true := hd ⟨63, .data⟩ (by simp) rfl
                 subst d63
                 have d52 : b52 = true := hd ⟨52, .chain⟩ (by simp) rfl
                 subst d52
                 obtain rfl := cd63.out rfl
                 obtain rfl := cd52.out rfl
                 clear hf hd
                 try simp only [setIfInBounds_toArray, set_cons_zero, set_cons_succ]
                 intro K hK
                 rw [if_pos (by rfl)]
                 go_simp
                 go_at_call 40
                 refine (HEn _ hb).mono ?_
                 rintro e w' ⟨a9, c9, rfl, e9, bx⟩
                 exact hK.out _ _ ⟨b0,b1,b2,b3,b4,b5,b6,b7,b8,b9,b10,b11,b12,b13,b14,b15,b16,b17,b18,b19,b20,b21,b22,b23,b24,b25,b26,b27,b28,b29,b30,b31,b32,b33,b34,b35,b36,b37,b38,b39,b40,b41,b42,b43,b44,b45,b46,b47,b48,b49,b50,b51,true,b53,b54,b55,b56,b57,b58,b59,b60,b61,b62,true,true,b65,b66,b67,x109,x110,x111,x112,x113,x114,x115,x116,x117,x118,x119,x120,x121,x122,x123,x124,x125,x126,x127,x128,x129,x130,x131,x132,x133,x134,x135,x136,x137,x138,x139,x140,x141,x142,x143,x144,x145,x146,x147,x148,x149,x150,x151,x152,x153,x154,x155,x156,x157,x158,x159,x160,.bool false,x162,x163,x164,x165,x166,x167,x168,x169,x170,x171,.slice ua un uc,(.slice a9 un c9),x174,x175,x176,a9,c9,(by go_simp),(by go_simp),hb.trans (bx.mono (Nat.le_trans hB0 hb.size)),cd0,cd1,cd2,cd3,cd4,cd5,cd6,cd7,cd8,cd9,cd10,cd11,cd12,cd13,cd14,cd15,cd16,cd17,cd18,cd19,cd20,cd21,cd22,cd23,cd24,cd25,cd26,cd27,cd28,cd29,cd30,cd31,cd32,cd33,cd34,cd35,cd36,cd37,cd38,cd39,cd40,cd41,cd42,cd43,cd44,cd45,cd46,cd47,cd48,cd49,cd50,cd51,rf,cd53,cd54,cd55,cd56,cd57,cd58,cd59,cd60,cd61,cd62,rf,rf,cd65,cd66,cd67,(fun _ _ => e9)⟩
               · have hf' : b65 = false := hf
                 subst hf'
                 have d64 : b64 = true := hd ⟨64, .data⟩ (by simp) rfl
                 subst d64
                 have d52 : b52 = true := hd ⟨52, .guard⟩ (by simp) rfl
                 subst d52
                 obtain rfl := cd64.out rfl
                 obtain rfl := cd52.out rfl
                 clear hf hd
                 have W_e := f_e.out rfl rfl
                 try simp only [setIfInBounds_toArray, set_cons_zero, set_cons_succ]
                 intro K hK
                 rw [if_pos (by rfl)]
                 go_simp
                 go_at_call 39
                 refine (HRt _ _ _ W_e).mono ?_
                 rintro e w' ⟨rfl, bx⟩
                 exact hK.out _ _ ⟨b0,b1,b2,b3,b4,b5,b6,b7,b8,b9,b10,b11,b12,b13,b14,b15,b16,b17,b18,b19,b20,b21,b22,b23,b24,b25,b26,b27,b28,b29,b30,b31,b32,b33,b34,b35,b36,b37,b38,b39,b40,b41,b42,b43,b44,b45,b46,b47,b48,b49,b50,b51,true,b53,b54,b55,b56,b57,b58,b59,b60,b61,b62,b63,true,true,b66,b67,x109,x110,x111,x112,x113,x114,x115,x116,x117,x118,x119,x120,x121,x122,x123,x124,x125,x126,x127,x128,x129,x130,x131,x132,x133,x134,x135,x136,x137,x138,x139,x140,x141,x142,x143,x144,x145,x146,x147,x148,x149,x150,x151,x152,x153,x154,x155,x156,x157,x158,x159,x160,.bool false,x162,x163,x164,x165,x166,x167,x168,x169,x170,x171,x172,.slice ea un ec,(.agg HR0),x175,x176,ea,ec,(by go_simp),(by go_simp),hb.trans (bx.mono (Nat.le_trans hB0 hb.size)),cd0,cd1,cd2,cd3,cd4,cd5,cd6,cd7,cd8,cd9,cd10,cd11,cd12,cd13,cd14,cd15,cd16,cd17,cd18,cd19,cd20,cd21,cd22,cd23,cd24,cd25,cd26,cd27,cd28,cd29,cd30,cd31,cd32,cd33,cd34,cd35,cd36,cd37,cd38,cd39,cd40,cd41,cd42,cd43,cd44,cd45,cd46,cd47,cd48,cd49,cd50,cd51,rf,cd53,cd54,cd55,cd56,cd57,cd58,cd59,cd60,cd61,cd62,cd63,rf,rf,cd66,cd67,(fun _ h => by cases h)⟩
               · have hf' : b66 = false := hf
                 subst hf'
                 have d58 : b58 = true := hd ⟨58, .data⟩ (by simp) rfl
                 subst d58
                 have d65 : b65 = true := hd ⟨65, .data⟩ (by simp) rfl
                 subst d65
                 have d52 : b52 = true := hd ⟨52, .guard⟩ (by simp) rfl
                 subst d52
                 obtain rfl := cd58.out rfl
                 obtain rfl := cd65.out rfl
                 obtain rfl := cd52.out rfl
                 clear hf hd
                 try simp only [setIfInBounds_toArray, set_cons_zero, set_cons_succ]
                 intro K hK
                 rw [if_pos (by rfl)]
                 go_simp
                 exact hK.out _ _ ⟨b0,b1,b2,b3,b4,b5,b6,b7,b8,b9,b10,b11,b12,b13,b14,b15,b16,b17,b18,b19,b20,b21,b22,b23,b24,b25,b26,b27,b28,b29,b30,b31,b32,b33,b34,b35,b36,b37,b38,b39,b40,b41,b42,b43,b44,b45,b46,b47,b48,b49,b50,b51,true,b53,b54,b55,b56,b57,true,b59,b60,b61,b62,b63,b64,true,true,b67,x109,x110,x111,x112,x113,x114,x115,x116,x117,x118,x119,x120,x121,x122,x123,x124,x125,x126,x127,x128,x129,x130,x131,x132,x133,x134,x135,x136,x137,x138,x139,x140,x141,x142,x143,x144,x145,x146,x147,x148,x149,x150,x151,x152,x153,x154,x155,x156,x157,x158,x159,x160,.bool false,x162,x163,x164,x165,x166,.agg HR0,x168,x169,x170,x171,x172,x173,.agg HR0,(.bool false),x176,ea,ec,(by go_simp),(by go_simp),hb,cd0,cd1,cd2,cd3,cd4,cd5,cd6,cd7,cd8,cd9,cd10,cd11,cd12,cd13,cd14,cd15,cd16,cd17,cd18,cd19,cd20,cd21,cd22,cd23,cd24,cd25,cd26,cd27,cd28,cd29,cd30,cd31,cd32,cd33,cd34,cd35,cd36,cd37,cd38,cd39,cd40,cd41,cd42,cd43,cd44,cd45,cd46,cd47,cd48,cd49,cd50,cd51,rf,cd53,cd54,cd55,cd56,cd57,rf,cd59,cd60,cd61,cd62,cd63,cd64,rf,rf,cd67,(fun _ h => by cases h)⟩
               · have hf' : b67 = false := hf
                 subst hf'
                 have d52 : b52 = true := hd ⟨52, .data⟩ (by simp) rfl
                 subst d52
                 have d66 : b66 = true := hd ⟨66, .data⟩ (by simp) rfl
                 subst d66
                 obtain rfl := cd52.out rfl
                 obtain rfl := cd66.out rfl
                 clear hf hd
                 try simp only [setIfInBounds_toArray, set_cons_zero, set_cons_succ]
                 intro K hK
                 rw [if_pos (by rfl)]
                 go_simp
                 exact hK.out _ _ ⟨b0,b1,b2,b3,b4,b5,b6,b7,b8,b9,b10,b11,b12,b13,b14,b15,b16,b17,b18,b19,b20,b21,b22,b23,b24,b25,b26,b27,b28,b29,b30,b31,b32,b33,b34,b35,b36,b37,b38,b39,b40,b41,b42,b43,b44,b45,b46,b47,b48,b49,b50,b51,true,b53,b54,b55,b56,b57,b58,b59,b60,b61,b62,b63,b64,b65,true,true,x109,x110,x111,x112,x113,x114,x115,x116,x117,x118,x119,x120,x121,x122,x123,x124,x125,x126,x127,x128,x129,x130,x131,x132,x133,x134,x135,x136,x137,x138,x139,x140,x141,x142,x143,x144,x145,x146,x147,x148,x149,x150,x151,x152,x153,x154,x155,x156,x157,x158,x159,x160,.bool false,x162,x163,x164,x165,x166,x167,x168,x169,x170,x171,x172,x173,x174,.bool false,(.bool false),ea,ec,(by go_simp),(by go_simp),hb,cd0,cd1,cd2,cd3,cd4,cd5,cd6,cd7,cd8,cd9,cd10,cd11,cd12,cd13,cd14,cd15,cd16,cd17,cd18,cd19,cd20,cd21,cd22,cd23,cd24,cd25,cd26,cd27,cd28,cd29,cd30,cd31,cd32,cd33,cd34,cd35,cd36,cd37,cd38,cd39,cd40,cd41,cd42,cd43,cd44,cd45,cd46,cd47,cd48,cd49,cd50,cd51,rf,cd53,cd54,cd55,cd56,cd57,cd58,cd59,cd60,cd61,cd62,cd63,cd64,cd65,rf,rf,f_e⟩
             · rintro act V ⟨b0,b1,b2,b3,b4,b5,b6,b7,b8,b9,b10,b11,b12,b13,b14,b15,b16,b17,b18,b19,b20,b21,b22,b23,b24,b25,b26,b27,b28,b29,b30,b31,b32,b33,b34,b35,b36,b37,b38,b39,b40,b41,b42,b43,b44,b45,b46,b47,b48,b49,b50,b51,b52,b53,b54,b55,b56,b57,b58,b59,b60,b61,b62,b63,b64,b65,b66,b67,x109,x110,x111,x112,x113,x114,x115,x116,x117,x118,x119,x120,x121,x122,x123,x124,x125,x126,x127,x128,x129,x130,x131,x132,x133,x134,x135,x136,x137,x138,x139,x140,x141,x142,x143,x144,x145,x146,x147,x148,x149,x150,x151,x152,x153,x154,x155,x156,x157,x158,x159,x160,x161,x162,x163,x164,x165,x166,x167,x168,x169,x170,x171,x172,x173,x174,x175,x176,ea,ec,hL,rfl,hb,cd0,cd1,cd2,cd3,cd4,cd5,cd6,cd7,cd8,cd9,cd10,cd11,cd12,cd13,cd14,cd15,cd16,cd17,cd18,cd19,cd20,cd21,cd22,cd23,cd24,cd25,cd26,cd27,cd28,cd29,cd30,cd31,cd32,cd33,cd34,cd35,cd36,cd37,cd38,cd39,cd40,cd41,cd42,cd43,cd44,cd45,cd46,cd47,cd48,cd49,cd50,cd51,cd52,cd53,cd54,cd55,cd56,cd57,cd58,cd59,cd60,cd61,cd62,cd63,cd64,cd65,cd66,cd67,f_e⟩
               have hL' : [true,true,true,true,true,true,true,true,true,true,true,true,true,true,true,true,true,true,true,true,true,true,true,true,true,true,true,true,true,true,true,true,true,true,true,true,true,true,true,true,true,true,true,true,true,true,true,true,true,true,true,true,true,true,true,true,true,true,true,true,true,true,true,true,true,true,true,true] = [b0,b1,b2,b3,b4,b5,b6,b7,b8,b9,b10,b11,b12,b13,b14,b15,b16,b17,b18,b19,b20,b21,b22,b23,b24,b25,b26,b27,b28,b29,b30,b31,b32,b33,b34,b35,b36,b37,b38,b39,b40,b41,b42,b43,b44,b45,b46,b47,b48,b49,b50,b51,b52,b53,b54,b55,b56,b57,b58,b59,b60,b61,b62,b63,b64,b65,b66,b67] := congrArg Array.toList hL
               simp only [List.cons.injEq, and_true] at hL'
               obtain ⟨rfl,rfl,rfl,rfl,rfl,rfl,rfl,rfl,rfl,rfl,rfl,rfl,rfl,rfl,rfl,rfl,rfl,rfl,rfl,rfl,rfl,rfl,rfl,rfl,rfl,rfl,rfl,rfl,rfl,rfl,rfl,rfl,rfl,rfl,rfl,rfl,rfl,rfl,rfl,rfl,rfl,rfl,rfl,rfl,rfl,rfl,rfl,rfl,rfl,rfl,rfl,rfl,rfl,rfl,rfl,rfl,rfl,rfl,rfl,rfl,rfl,rfl,rfl,rfl,rfl,rfl,rfl,rfl⟩ := hL'
               obtain rfl := cd0.out rfl
               obtain rfl := cd1.out rfl
               obtain rfl := cd2.out rfl
               obtain rfl := cd3.out rfl
               obtain rfl := cd4.out rfl
               obtain rfl := cd5.out rfl
               obtain rfl := cd6.out rfl
               obtain rfl := cd7.out rfl
               obtain rfl := cd8.out rfl
               obtain rfl := cd9.out rfl
               obtain rfl := cd10.out rfl
               obtain rfl := cd11.out rfl
               obtain rfl := cd12.out rfl
               obtain rfl := cd13.out rfl
               obtain rfl := cd14.out rfl
               obtain rfl := cd15.out rfl
               obtain rfl := cd16.out rfl
               obtain rfl := cd17.out rfl
               obtain rfl := cd18.out rfl
               obtain rfl := cd19.out rfl
               obtain rfl := cd20.out rfl
               obtain rfl := cd21.out rfl
               obtain rfl := cd22.out rfl
               obtain rfl := cd23.out rfl
               obtain rfl := cd24.out rfl
               obtain rfl := cd25.out rfl
               obtain rfl := cd26.out rfl
               obtain rfl := cd27.out rfl
               obtain rfl := cd28.out rfl
               obtain rfl := cd29.out rfl
               obtain rfl := cd30.out rfl
               obtain rfl := cd31.out rfl
               obtain rfl := cd32.out rfl
               obtain rfl := cd33.out rfl
               obtain rfl := cd34.out rfl
               obtain rfl := cd35.out rfl
               obtain rfl := cd36.out rfl
               obtain rfl := cd37.out rfl
               obtain rfl := cd38.out rfl
               obtain rfl := cd39.out rfl
               obtain rfl := cd40.out rfl
               obtain rfl := cd41.out rfl
               obtain rfl := cd42.out rfl
               obtain rfl := cd43.out rfl
               obtain rfl := cd44.out rfl
               obtain rfl := cd45.out rfl
               obtain rfl := cd46.out rfl
               obtain rfl := cd47.out rfl
               obtain rfl := cd48.out rfl
               obtain rfl := cd49.out rfl
               obtain rfl := cd50.out rfl
               obtain rfl := cd51.out rfl
               obtain rfl := cd52.out rfl
               obtain rfl := cd53.out rfl
               obtain rfl := cd54.out rfl
               obtain rfl := cd55.out rfl
               obtain rfl := cd56.out rfl
               obtain rfl := cd57.out rfl
               obtain rfl := cd58.out rfl
               obtain rfl := cd59.out rfl
               obtain rfl := cd60.out rfl
               obtain rfl := cd61.out rfl
               obtain rfl := cd62.out rfl
               obtain rfl := cd63.out rfl
               obtain rfl := cd64.out rfl
               obtain rfl := cd65.out rfl
               obtain rfl := cd66.out rfl
               obtain rfl := cd67.out rfl
               clear hL f_e cd0 cd1 cd2 cd3 cd4 cd5 cd6 cd7 cd8 cd9 cd10 cd11 cd12 cd13 cd14 cd15 cd16 cd17 cd18 cd19 cd20 cd21 cd22 cd23 cd24 cd25 cd26 cd27 cd28 cd29 cd30 cd31 cd32 cd33 cd34 cd35 cd36 cd37 cd38 cd39 cd40 cd41 cd42 cd43 cd44 cd45 cd46 cd47 cd48 cd49 cd50 cd51 cd52 cd53 cd54 cd55 cd56 cd57 cd58 cd59 cd60 cd61 cd62 cd63 cd64 cd65 cd66 cd67
               simp only [setIfInBounds_toArray, set_cons_zero, set_cons_succ]
               have BV : Below w8.heap.size w8 V := by rw [HR8.out]; exact (Below.refl _ _).drew.trans hb
               clear hb
               go_wp2_with fail
               go_roundw
               case rel => exact ⟨jn + 1, by omega, by go_num, B8.trans (BV.mono B8.size)⟩
               case measure => simp [intOf]; omega
          · have hlti : ¬ (jn : Int) < (bnb : Int) := by omega
            have X6 := X5.past hB
            have cx2 : wr.cell? ⟨px, 2, none⟩ = some (.slice (some ⟨gv, gvo, none⟩) bnb bbc) := X6.c rfl
            go_wp2_with fail
            go_ret
            exact ⟨rfl, BW5.trans (hB.mono BW5.size)⟩
end Go.Proofs.YtdmnjjknkcnkgaaGreatDoor
