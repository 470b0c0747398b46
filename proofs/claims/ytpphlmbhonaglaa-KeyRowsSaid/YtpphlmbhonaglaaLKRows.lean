/-
  KeyRows, walked (by gen_krows.py): UNDER WAY.
-/
import Derived.Test.YtpphlmbhonaglaaLaw6
import Derived.Test.YtpphlmbhonaglaaKRowP
import Derived.Test.YtpphlmbhonaglaaGood
import Derived.Test.YtpphlmbhonaglaaSame
import Derived.Test.YtpphlmbhonaglaaInv
import Derived.Deep.CutRange
import Derived.Deep.CutBlock
import Derived.LoopN
namespace Go.Proofs.Ytpphlmbhonaglaa
open Go.RowKit
set_option linter.unusedSimpArgs false
theorem isB_of_EB {w : World} {ao : Option Addr} {n cap : Nat} {l : List UInt8} (h : IsR EB w ao n cap l) : IsB w ao n cap l :=
  ⟨h.len, h.le, h.max, h.nil, fun a ha j u hu => h.cell a ha j (bc u) (by rw [EB_all, bcs_get, hu]; rfl)⟩
theorem Vok.val {k n : Int} {s : ByteArray} (h : Vok ⟨k, n, s⟩) : Val k n s := by
  cases h with
  | none => exact Val.none
  | bool n hn => exact Val.bool n (by omega) (by omega)
  | int n hn => exact Val.int n
  | text s hs => exact Val.text s hs
theorem encK_drop (L : List V) (j : Nat) (x : V) (h : L[j]? = some x) : encK (L.drop j) = keyB x ++ encK (L.drop (j + 1)) := by
  obtain ⟨h1, rfl⟩ := List.getElem?_eq_some_iff.1 h
  rw [List.drop_eq_getElem_cons h1, encK_cons]
theorem encK_take (L : List V) (j : Nat) (x : V) (h : L[j]? = some x) : encK (L.take (j + 1)) = encK (L.take j) ++ keyB x := by
  rw [List.take_add_one, h]
  exact encK_snoc _ _
/-- No block in common. -/
def Ap (A C : Option Addr) : Prop := ∀ z, blk A = some z → blk C ≠ some z
/-- The four rows that the loop makes. -/
structure Rows (w : World) (B : Nat) (aoA : Option Addr) (nA cA : Nat) (aoB : Option Addr) (nB cB : Nat) (aoX : Option Addr) (cX : Nat) (aoY : Option Addr) (cY : Nat) (j : Nat) (LA LB : List UInt8) (LX LY : List V) : Prop where
  a : TxtR EB w 5 B aoA nA cA LA
  b : TxtR EB w 5 B aoB nB cB LB
  x : TxtR EV w 39 B aoX j cX LX
  y : TxtR EV w 39 B aoY j cY LY
  ab : Ap aoA aoB
  ax : Ap aoA aoX
  ay : Ap aoA aoY
  bx : Ap aoB aoX
  bY : Ap aoB aoY
  xy : Ap aoX aoY
theorem Ap.nil (C : Option Addr) : Ap none C := fun z h => by cases h
theorem Rows.start (w : World) (B k : Nat) {y : V} {L : List V} : Rows w B none 0 0 none 0 0 none 0 none 0 0 (encK (L.take 0)) (encK ((L.take 0).set k y)) (L.take 0) ((L.take 0).set k y) :=
  ⟨by simpa [encK] using TxtR.nil w _ B, by simpa [encK] using TxtR.nil w _ B, by simpa using TxtR.nil w _ B, by simpa using TxtR.nil w _ B, Ap.nil _, Ap.nil _, Ap.nil _, Ap.nil _, Ap.nil _, Ap.nil _⟩
theorem Rows.past {w w' : World} {B : Nat} {aoA : Option Addr} {nA cA : Nat} {aoB : Option Addr} {nB cB : Nat} {aoX : Option Addr} {cX : Nat} {aoY : Option Addr} {cY : Nat} {j : Nat} {LA LB : List UInt8} {LX LY : List V} (h : Rows w B aoA nA cA aoB nB cB aoX cX aoY cY j LA LB LX LY) (b : Below w.heap.size w w') : Rows w' B aoA nA cA aoB nB cB aoX cX aoY cY j LA LB LX LY :=
  ⟨h.a.past b, h.b.past b, h.x.past b, h.y.past b, h.ab, h.ax, h.ay, h.bx, h.bY, h.xy⟩
/-- What stands while the region's operations come up. -/
inductive KRows16 (B : Nat) (gp : Nat) (gq : Nat) (KX : Int) (NX : Int) (SX : ByteArray) (KQ : Int) (NQ : Int) (SQ : ByteArray) (aoA : Option Addr) (nA : Nat) (cA : Nat) (aoB : Option Addr) (nB : Nat) (cB : Nat) (aoX : Option Addr) (cX : Nat) (aoY : Option Addr) (cY : Nat) (jj : Nat) (LA : List UInt8) (LB : List UInt8) (LX : List V) (LY : List V) (S : Nat → Prop) (a0 : Act) (w0 : World) (L : Array Bool) (a : Act) (w : World) : Prop
  | mk (b0 b1 b2 b3 b4 b5 b6 b7 b8 b9 : Bool) (x58 x59 x60 x61 x62 x63 x64 x65 x9 x10 : Value) (gP : Nat) (ga : Nat) (ca : Nat) (gR : Nat) (gb : Nat) (cb : Nat) (hL : L = #[b0, b1, b2, b3, b4, b5, b6, b7, b8, b9]) (ha : a = ⟨((((((((((a0.tmps.setIfInBounds 58 x58).setIfInBounds 59 x59).setIfInBounds 60 x60).setIfInBounds 61 x61).setIfInBounds 62 x62).setIfInBounds 63 x63).setIfInBounds 64 x64).setIfInBounds 65 x65).setIfInBounds 9 x9).setIfInBounds 10 x10), a0.defers⟩) (hb : Below B w0 w) (cd0 : Hid (b0 = true → x58 = .slice aoX jj cX)) (cd1 : Hid (b1 = true → x59 = vv KX NX SX)) (cd2 : Hid (b2 = true → x60 = .slice (some ⟨gP, 0, none⟩) 1 1)) (cd3 : Hid (b3 = true → x61 = .slice (some ⟨ga, 0, none⟩) (jj + 1) ca)) (cd4 : Hid (b4 = true → x62 = .slice aoY jj cY)) (cd5 : Hid (b5 = true → x63 = vv KQ NQ SQ)) (cd6 : Hid (b6 = true → x64 = .slice (some ⟨gR, 0, none⟩) 1 1)) (cd7 : Hid (b7 = true → x65 = .slice (some ⟨gb, 0, none⟩) (jj + 1) cb)) (cd8 : Hid (b8 = true → x9 = .slice (some ⟨ga, 0, none⟩) (jj + 1) ca)) (cd9 : Hid (b9 = true → x10 = .slice (some ⟨gb, 0, none⟩) (jj + 1) cb)) (f_vp : Hid (VAt w gp KX NX SX)) (f_vq : Hid (VAt w gq KQ NQ SQ)) (f_rx : Hid (TxtR EB w 5 B aoA nA cA LA)) (f_ry : Hid (TxtR EB w 5 B aoB nB cB LB)) (f_ra0 : Hid (b3 = false → TxtR EV w 39 B aoX jj cX LX)) (f_ra1 : Hid (b3 = true → TxtR EV w 39 B (some ⟨ga, 0, none⟩) (jj + 1) ca (LX ++ [⟨KX, NX, SX⟩]))) (f_rb0 : Hid (b7 = false → TxtR EV w 39 B aoY jj cY LY)) (f_rb1 : Hid (b7 = true → TxtR EV w 39 B (some ⟨gb, 0, none⟩) (jj + 1) cb (LY ++ [⟨KQ, NQ, SQ⟩]))) (f_ip : Hid (b2 = true → b3 = false → FrV w0.heap.size w gP ⟨KX, NX, SX⟩)) (f_iq : Hid (b6 = true → b7 = false → FrV w0.heap.size w gR ⟨KQ, NQ, SQ⟩)) (f_s8 : Hid (b8 = false → x9 = .slice aoX jj cX)) (f_s9 : Hid (b9 = false → x10 = .slice aoY jj cY)) (f_o8 : Hid (b8 = true → b0 = true)) (f_o9 : Hid (b9 = true → b4 = true)) (f_nab : Hid (Ap (bif b3 then some ⟨ga, 0, none⟩ else aoX) (bif b7 then some ⟨gb, 0, none⟩ else aoY))) (f_na : Hid (∀ z, S z → blk (bif b3 then some ⟨ga, 0, none⟩ else aoX) ≠ some z)) (f_nb : Hid (∀ z, S z → blk (bif b7 then some ⟨gb, 0, none⟩ else aoY) ≠ some z)) (w_8_3 : Hid (b8 = true → b3 = true)) (w_9_7 : Hid (b9 = true → b7 = true)) : KRows16 B gp gq KX NX SX KQ NQ SQ aoA nA cA aoB nB cB aoX cX aoY cY jj LA LB LX LY S a0 w0 L a w
/-- What stands while the region's operations come up. -/
inductive KRows17 (B : Nat) (gp : Nat) (gq : Nat) (KX : Int) (NX : Int) (SX : ByteArray) (KQ : Int) (NQ : Int) (SQ : ByteArray) (aoA : Option Addr) (nA : Nat) (cA : Nat) (aoB : Option Addr) (nB : Nat) (cB : Nat) (aoX : Option Addr) (cX : Nat) (aoY : Option Addr) (cY : Nat) (jj : Nat) (LA : List UInt8) (LB : List UInt8) (LX : List V) (LY : List V) (S : Nat → Prop) (KP : List UInt8) (KR : List UInt8) (a0 : Act) (w0 : World) (L : Array Bool) (a : Act) (w : World) : Prop
  | mk (b0 b1 b2 b3 b4 b5 b6 b7 b8 b9 : Bool) (x66 x67 x68 x69 x70 x71 x72 x73 x7 x8 : Value) (gP : Nat) (ga : Nat) (ca : Nat) (gR : Nat) (gb : Nat) (cb : Nat) (hL : L = #[b0, b1, b2, b3, b4, b5, b6, b7, b8, b9]) (ha : a = ⟨((((((((((a0.tmps.setIfInBounds 66 x66).setIfInBounds 67 x67).setIfInBounds 68 x68).setIfInBounds 69 x69).setIfInBounds 70 x70).setIfInBounds 71 x71).setIfInBounds 72 x72).setIfInBounds 73 x73).setIfInBounds 7 x7).setIfInBounds 8 x8), a0.defers⟩) (hb : Below B w0 w) (cd0 : Hid (b0 = true → x66 = .slice aoA nA cA)) (cd1 : Hid (b1 = true → x67 = vv KX NX SX)) (cd2 : Hid (b2 = true → x68 = .slice (some ⟨gP, 0, none⟩) KP.length KP.length)) (cd3 : Hid (b3 = true → x69 = .slice (some ⟨ga, 0, none⟩) (nA + KP.length) ca)) (cd4 : Hid (b4 = true → x70 = .slice aoB nB cB)) (cd5 : Hid (b5 = true → x71 = vv KQ NQ SQ)) (cd6 : Hid (b6 = true → x72 = .slice (some ⟨gR, 0, none⟩) KR.length KR.length)) (cd7 : Hid (b7 = true → x73 = .slice (some ⟨gb, 0, none⟩) (nB + KR.length) cb)) (cd8 : Hid (b8 = true → x7 = .slice (some ⟨ga, 0, none⟩) (nA + KP.length) ca)) (cd9 : Hid (b9 = true → x8 = .slice (some ⟨gb, 0, none⟩) (nB + KR.length) cb)) (f_vp : Hid (VAt w gp KX NX SX)) (f_vq : Hid (VAt w gq KQ NQ SQ)) (f_rx : Hid (TxtR EV w 39 B aoX jj cX LX)) (f_ry : Hid (TxtR EV w 39 B aoY jj cY LY)) (f_ra0 : Hid (b3 = false → TxtR EB w 5 B aoA nA cA LA)) (f_ra1 : Hid (b3 = true → TxtR EB w 5 B (some ⟨ga, 0, none⟩) (nA + KP.length) ca (LA ++ KP))) (f_rb0 : Hid (b7 = false → TxtR EB w 5 B aoB nB cB LB)) (f_rb1 : Hid (b7 = true → TxtR EB w 5 B (some ⟨gb, 0, none⟩) (nB + KR.length) cb (LB ++ KR))) (f_ip : Hid (b2 = true → b3 = false → Fr w0.heap.size w gP KP)) (f_iq : Hid (b6 = true → b7 = false → Fr w0.heap.size w gR KR)) (f_s8 : Hid (b8 = false → x7 = .slice aoA nA cA)) (f_s9 : Hid (b9 = false → x8 = .slice aoB nB cB)) (f_o8 : Hid (b8 = true → b0 = true)) (f_o9 : Hid (b9 = true → b4 = true)) (f_nab : Hid (Ap (bif b3 then some ⟨ga, 0, none⟩ else aoA) (bif b7 then some ⟨gb, 0, none⟩ else aoB))) (f_na : Hid (∀ z, S z → blk (bif b3 then some ⟨ga, 0, none⟩ else aoA) ≠ some z)) (f_nb : Hid (∀ z, S z → blk (bif b7 then some ⟨gb, 0, none⟩ else aoB) ≠ some z)) (w_8_3 : Hid (b8 = true → b3 = true)) (w_9_7 : Hid (b9 = true → b7 = true)) : KRows17 B gp gq KX NX SX KQ NQ SQ aoA nA cA aoB nB cB aoX cX aoY cY jj LA LB LX LY S KP KR a0 w0 L a w
/-- What stands while the region's operations come up: which have (b), what their slots hold (x), what the world holds. -/
inductive KRows22 (bX : Nat) (offX : Nat) (cX : Nat) (bY : Nat) (offY : Nat) (cY : Nat) (n : Nat) (j : Nat) (kx : Int) (nx : Int) (sx : ByteArray) (ky : Int) (ny : Int) (sy : ByteArray) (c' : Int) (a0 : Act) (w0 : World) (L : Array Bool) (a : Act) (w : World) : Prop
  | mk (b0 b1 b2 b3 b4 b5 b6 b7 b8 b9 : Bool) (x84 x85 x86 x87 x88 x89 x90 x91 x92 x14 : Value) (hL : L = #[b0, b1, b2, b3, b4, b5, b6, b7, b8, b9]) (ha : a = ⟨((((((((((a0.tmps.setIfInBounds 84 x84).setIfInBounds 85 x85).setIfInBounds 86 x86).setIfInBounds 87 x87).setIfInBounds 88 x88).setIfInBounds 89 x89).setIfInBounds 90 x90).setIfInBounds 91 x91).setIfInBounds 92 x92).setIfInBounds 14 x14), a0.defers⟩) (hb : Below w0.heap.size w0 w) (cd0 : Hid (b0 = true → x84 = .slice (some ⟨bX, offX, none⟩) n cX)) (cd1 : Hid (b1 = true → x85 = .int .i64 (j : Nat))) (cd2 : Hid (b2 = true → x86 = .pointer (some ⟨bX, offX + j * 3, none⟩))) (cd3 : Hid (b3 = true → x87 = vv kx nx sx)) (cd4 : Hid (b4 = true → x88 = .slice (some ⟨bY, offY, none⟩) n cY)) (cd5 : Hid (b5 = true → x89 = .int .i64 (j : Nat))) (cd6 : Hid (b6 = true → x90 = .pointer (some ⟨bY, offY + j * 3, none⟩))) (cd7 : Hid (b7 = true → x91 = vv ky ny sy)) (cd8 : Hid (b8 = true → x92 = .int .i64 c')) (cd9 : Hid (b9 = true → x14 = .int .i64 c')) : KRows22 bX offX cX bY offY cY n j kx nx sx ky ny sy c' a0 w0 L a w
/-- What stands while the region's operations come up: which have (b), what their slots hold (x), what the world holds. -/
inductive KRows27 (bX : Nat) (offX : Nat) (cX : Nat) (n : Nat) (j : Nat) (kx : Int) (nx : Int) (sx : ByteArray) (kl : Nat) (aoR : Option Addr) (na : Nat) (ca : Nat) (a0 : Act) (w0 : World) (L : Array Bool) (a : Act) (w : World) : Prop
  | mk (b0 b1 b2 b3 b4 b5 b6 b7 b8 b9 b10 b11 b12 b13 b14 b15 : Bool) (x105 x106 x107 x108 x109 x110 x111 x112 x113 x114 x115 x116 x117 x118 x119 x120 : Value) (hL : L = #[b0, b1, b2, b3, b4, b5, b6, b7, b8, b9, b10, b11, b12, b13, b14, b15]) (ha : a = ⟨((((((((((((((((a0.tmps.setIfInBounds 105 x105).setIfInBounds 106 x106).setIfInBounds 107 x107).setIfInBounds 108 x108).setIfInBounds 109 x109).setIfInBounds 110 x110).setIfInBounds 111 x111).setIfInBounds 112 x112).setIfInBounds 113 x113).setIfInBounds 114 x114).setIfInBounds 115 x115).setIfInBounds 116 x116).setIfInBounds 117 x117).setIfInBounds 118 x118).setIfInBounds 119 x119).setIfInBounds 120 x120), a0.defers⟩) (hb : Below w0.heap.size w0 w) (cd0 : Hid (b0 = true → x105 = .int .i64 0)) (cd1 : Hid (b1 = true → x106 = .bool false)) (cd2 : Hid (b2 = true → x107 = .bool false)) (cd3 : Hid (b3 = true → x108 = vv kx nx sx)) (cd4 : Hid (b4 = true → x109 = .slice (some ⟨bX, offX, none⟩) n cX)) (cd5 : Hid (b5 = true → x110 = .int .i64 (j : Nat))) (cd6 : Hid (b6 = true → x111 = .pointer (some ⟨bX, offX + j * 3, none⟩))) (cd7 : Hid (b7 = true → x112 = vv kx nx sx)) (cd8 : Hid (b8 = true → x113 = .bool false)) (cd9 : Hid (b9 = true → x114 = .bool false)) (cd10 : Hid (b10 = true → x115 = .bool false)) (cd11 : Hid (b11 = true → x116 = .int .i64 (kl : Nat))) (cd12 : Hid (b12 = true → x117 = .slice aoR na ca)) (cd13 : Hid (b13 = true → x118 = .int .i64 (na : Nat))) (cd14 : Hid (b14 = true → x119 = .bool false)) (cd15 : Hid (b15 = true → x120 = .bool false)) : KRows27 bX offX cX n j kx nx sx kl aoR na ca a0 w0 L a w

set_option maxRecDepth 100000 in
set_option maxHeartbeats 16000000 in
theorem keyRows_walk (ao : Option Addr) (n cap : Nat) (l : List V) (at' : Int) (kv nv : Int) (sv : ByteArray) (w : World) (h : IsR EV w ao n cap l) (hwf : ∀ v ∈ l, (Lit.int .i64 v.k).wf = true ∧ (Lit.int .i64 v.n).wf = true) (_h1 : (Lit.int .i64 at').wf = true) (_h2 : (Lit.int .i64 kv).wf = true) (hnv : (Lit.int .i64 nv).wf = true) (_h3 : sv.size ≤ maxLen) :
    Calls Try.prog 5 #[.slice ao n cap, .int .i64 at', vv kv nv sv] w (Told w true) := by
  clear _h1 _h2 _h3
  have hln := h.len
  have b0 : Below w.heap.size w (w.alloc (.cells #[.int .i64 kv, .int .i64 nv, .string sv] 39)) := (Below.refl _ _).alloc (Nat.le_refl _) _
  have t0 := VAt.new w kv nv sv
  have HFv := few_any kv nv sv
  by_cases hn : (n : Int) ≤ 8
  · cases qv : decide ((sv.size : Int) ≤ 80) <;> rw [qv] at HFv
    · go_enter Try.func5, Try.ntmps5
      go_wp2_with (first
        | (go_at_call 17; (with_reducible refine (known6_any _).mono ?_); rintro e w1 ⟨rfl, b1⟩; have B1 := b0.trans (b1.mono b0.size); obtain ⟨y0, y1, y2, -, -, -, -⟩ := t0.past b1)
        | (go_at_call 18; (with_reducible refine (HFv _).mono ?_); rintro e w2 ⟨rfl, b2⟩; have B2 := B1.trans (b2.mono B1.size)))
      go_ret
      exact ⟨rfl, B2⟩
    · have HGv0 := goodv_any kv nv sv
      have okY : Hid (Vok (gd ⟨kv, nv, sv⟩)) := gd_ok _ hnv
      generalize gd ⟨kv, nv, sv⟩ = y at HGv0 okY
      obtain ⟨KY, NY, SY⟩ := y
      have HGv : ∀ w, Calls Try.prog 19 #[vv kv nv sv] w fun e w' => e = .returned (vv KY NY SY) ∧ Below w.heap.size w w' := HGv0
      have okL : Hid (∀ v ∈ l.map gd, Vok v) := fun v hv => by
        obtain ⟨y, hy, rfl⟩ := List.mem_map.1 hv
        exact gd_ok y (hwf y hy).2
      have hLn : Hid ((l.map gd).length = n) := by unfold Hid; rw [List.length_map, hln]
      have hLg : Hid (∀ (j : Nat) (v : V), l[j]? = some v → (l.map gd)[j]? = some (gd v)) := fun j v hv => by rw [List.getElem?_map, hv]; rfl
      generalize l.map gd = L at okL hLn hLg
      obtain ⟨k, hk⟩ : ∃ k : Nat, 0 < n → wth at' (n : Int) = k ∧ k < n := ⟨(wth at' (n : Int)).toNat, fun h0 => by have := wth_lo at' (n : Int) (by omega); have := wth_hi at' (n : Int) (by omega); omega⟩
      have HW : Hid (0 < n → k < n ∧ ∀ w, Calls Try.prog 20 #[.int .i64 at', .int .i64 (n : Int)] w fun e w' => e = .returned (.int .i64 (k : Int)) ∧ w = w') := fun h0 => ⟨(hk h0).2, fun w => by
        have := within6_any at' (n : Int) w (by omega) (by omega)
        rw [(hk h0).1] at this
        exact this⟩
      clear HGv0 qv hnv hwf hk
      go_enter Try.func5, Try.ntmps5
      go_upto_block 0 with (first
        | (go_at_call 17; (with_reducible refine (known6_any _).mono ?_); rintro e w1 ⟨rfl, b1⟩; have B1 := b0.trans (b1.mono b0.size); have t1 := t0.past b1; obtain ⟨y0, y1, y2, -, -, -, -⟩ := id t1)
        | (go_at_call 18; (with_reducible refine (HFv _).mono ?_); rintro e w2 ⟨rfl, b2⟩; have B2 := B1.trans (b2.mono B1.size); have t2 := t1.past b2))
      have h2 := h.past B2
      clear t0 t1 y0 y1 y2 b0 b1 b2 B1 HFv
      generalize w.heap.size = gv at t2
      go_cut [7, 8, 9, 10] from 32 to 73 (fun va vb vx vy wx => ∃ (aoA : Option Addr) (nA cA : Nat) (aoB : Option Addr) (nB cB : Nat) (aoX : Option Addr) (cX : Nat) (aoY : Option Addr) (cY : Nat), va = .slice aoA nA cA ∧ vb = .slice aoB nB cB ∧ vx = .slice aoX n cX ∧ vy = .slice aoY n cY ∧ Rows wx w2.heap.size aoA nA cA aoB nB cB aoX cX aoY cY n (encK L) (encK (L.set k ⟨KY, NY, SY⟩)) L (L.set k ⟨KY, NY, SY⟩) ∧ Below w2.heap.size w2 wx)
      case first =>
        go_wp2_with fail
        go_loopw [7, 8, 9, 10, 11] (fun va vb vx vy i wr => ∃ (j : Nat) (aoA : Option Addr) (nA cA : Nat) (aoB : Option Addr) (nB cB : Nat) (aoX : Option Addr) (cX : Nat) (aoY : Option Addr) (cY : Nat), j ≤ n ∧ i = .int .i64 (j : Nat) ∧ va = .slice aoA nA cA ∧ vb = .slice aoB nB cB ∧ vx = .slice aoX j cX ∧ vy = .slice aoY j cY ∧ Rows wr w2.heap.size aoA nA cA aoB nB cB aoX cX aoY cY j (encK (L.take j)) (encK ((L.take j).set k ⟨KY, NY, SY⟩)) (L.take j) ((L.take j).set k ⟨KY, NY, SY⟩) ∧ Below w2.heap.size w2 wr) (fun _ _ _ _ i _ => n - (intOf i).toNat)
        case atStart => exact ⟨0, none, 0, 0, none, 0, 0, none, 0, none, 0, by omega, rfl, rfl, rfl, rfl, rfl, Rows.start _ _ _, Below.refl _ _⟩
        case round =>
          obtain ⟨j, aoA, nA, cA, aoB, nB, cB, aoX, cX, aoY, cY, hj, rfl, rfl, rfl, rfl, rfl, hR, hB⟩ := hrel
          by_cases hlt : j < n
          · have j1 : (j : Int) < n := by omega
            obtain ⟨hk1, HWk⟩ := HW.out (by omega)
            obtain ⟨v, hv⟩ : ∃ v, l[j]? = some v := ⟨l[j]'(by omega), List.getElem?_eq_getElem _⟩
            have hX := hLg.out j v hv
            obtain ⟨b, off, rfl, hb, hc⟩ := (h2.past hB).open (by omega) (by decide)
            obtain ⟨c0, c1, c2⟩ := cells_v hc j v hv
            have HFj := few_any v.k v.n v.s
            have HGj0 := goodv_any v.k v.n v.s
            obtain ⟨kj, nj, sj⟩ := v
            simp only at c0 c1 c2 HFj
            clear hc hv
            cases qj : decide ((sj.size : Int) ≤ 80) <;> rw [qj] at HFj
            · go_wp2_with (go_at_call 18; (with_reducible refine (HFj _).mono ?_); rintro e w3 ⟨rfl, b3⟩; have B3 := hB.trans (b3.mono hB.size))
              go_ret
              exact ⟨rfl, B2.trans (B3.mono B2.size)⟩
            · have okX : Hid (Vok (gd ⟨kj, nj, sj⟩)) := okL.out _ (List.mem_of_getElem? hX)
              generalize gd ⟨kj, nj, sj⟩ = X at HGj0 hX okX
              obtain ⟨KX, NX, SX⟩ := X
              have HGj : ∀ w, Calls Try.prog 19 #[vv kj nj sj] w fun e w' => e = .returned (vv KX NX SX) ∧ Below w.heap.size w w' := HGj0
              have tv := t2.past hB
              have HX := Lib.hid hX
              clear HGj0 hX qj
              go_upto_region 14 with (first
                | (go_at_call 18; (with_reducible refine (HFj _).mono ?_); rintro e w3 ⟨rfl, b3⟩; have C0 := cell_past c0 b3; have C1 := cell_past c1 b3; have C2 := cell_past c2 b3)
                | (go_at_call 19; (with_reducible refine (HGj _).mono ?_); rintro e w4 ⟨rfl, b4⟩; have B4 := b3.trans (b4.mono b3.size); have tp := VAt.new w4 KX NX SX))
              have C5 := (B4.alloc B4.size (.cells #[.int .i64 KX, .int .i64 NX, .string SX] 39)).alloc (by have := B4.size; simp; omega) (.cells #[.int .i64 KX, .int .i64 NX, .string SX] 39)
              have tq := VAt.new (w4.alloc (.cells #[.int .i64 KX, .int .i64 NX, .string SX] 39)) KX NX SX
              have tp2 := tp.alloc (.cells #[.int .i64 KX, .int .i64 NX, .string SX] 39)
              have gpq : w4.heap.size ≠ w4.heap.size + 1 := by omega
              have gp0 : wr.heap.size ≤ w4.heap.size := B4.size
              have gq0 : wr.heap.size ≤ w4.heap.size + 1 := by omega
              rw [World.size_alloc] at tq
              generalize (w4.alloc (.cells #[.int .i64 KX, .int .i64 NX, .string SX] 39)).alloc (.cells #[.int .i64 KX, .int .i64 NX, .string SX] 39) = w5 at C5 tq tp2 ⊢
              generalize w4.heap.size + 1 = gq at tq gpq gq0 ⊢
              generalize w4.heap.size = gp at tp2 gpq gp0 ⊢
              have tv5 := tv.past C5
              clear tp B4 b3 b4 C0 C1 C2 c0 c1 c2 HFj HGj tv
              obtain ⟨KQ, NQ, SQ, hQ⟩ : ∃ KQ NQ SQ, (⟨KQ, NQ, SQ⟩ : V) = if j = k then ⟨KY, NY, SY⟩ else ⟨KX, NX, SX⟩ := ⟨_, _, _, rfl⟩
              go_cut [55] from 50 to 55 (fun c wx => ∃ bb : Bool, c = .bool bb ∧ Hid (bb = decide (j = k)) ∧ wx = w5)
              case first =>
                by_cases hjk : j = k
                · have e1 : ((j : Int) == (k : Int)) = true := by simp [hjk]
                  have HJK := Lib.hid hjk
                  clear hjk
                  go_wp2_with (go_at_call 20; (with_reducible refine (HWk _).mono ?_); rintro e w' ⟨rfl, rfl⟩)
                  go_meet
                  exact ⟨true, rfl, by unfold Hid; rw [HJK.out]; simp, rfl⟩
                · have e1 : ((j : Int) == (k : Int)) = false := by simp; omega
                  go_wp2_with (go_at_call 20; (with_reducible refine (HWk _).mono ?_); rintro e w' ⟨rfl, rfl⟩)
                  go_meet
                  exact ⟨false, rfl, by unfold Hid; simp [hjk], rfl⟩
              case rest =>
                obtain ⟨bb, rfl, hbb, rfl⟩ := hcut
                go_upto_if 55 with fail
                go_cut [13] from 56 to 57 (fun v wx => v = .pointer (some ⟨gq, 0, none⟩) ∧ VAt wx gp KX NX SX ∧ VAt wx gq KQ NQ SQ ∧ Below wr.heap.size wr wx)
                case first =>
                  cases bb
                  · have hjk : ¬ (j = k) := of_decide_eq_false hbb.out.symm
                    rw [if_neg hjk] at hQ
                    cases hQ
                    clear hjk
                    go_wp2_with fail
                    go_meet
                    exact ⟨rfl, tp2, tq, C5⟩
                  · have hjk : j = k := of_decide_eq_true hbb.out.symm
                    rw [if_pos hjk] at hQ
                    cases hQ
                    clear hjk
                    obtain ⟨y0, y1, y2, -, -, -, -⟩ := id tv5
                    go_wp2_with (go_at_call 19; (with_reducible refine (HGv _).mono ?_); rintro e w6 ⟨rfl, b6⟩; have tq6 := tq.past b6; have tp6 := tp2.past b6; obtain ⟨z0, z1, z2, f0, f1, f2, -⟩ := id tq6)
                    go_meet
                    exact ⟨rfl, ((tp6.far (Ne.symm gpq) 0 _).far (Ne.symm gpq) 1 _).far (Ne.symm gpq) 2 _, tq6.set _ _ _, (((C5.trans (b6.mono C5.size)).setCell (p := ⟨gq, 0, none⟩) gq0 _).setCell (p := ⟨gq, 1, none⟩) gq0 _).setCell (p := ⟨gq, 2, none⟩) gq0 _⟩
                case rest =>
                  clear tq tp2 C5 tv5 HGv
                  obtain ⟨rfl, tp, tq, C6⟩ := hcut
                  have okQ : Hid (Vok ⟨KQ, NQ, SQ⟩) := by
                    rw [hQ]
                    split
                    · exact okY.out
                    · exact okX.out
                  have R6 := hR.past C6
                  have HXS := set_next L k j ⟨KX, NX, SX⟩ ⟨KY, NY, SY⟩ HX.out
                  rw [← hQ] at HXS
                  have HXT : L.take (j + 1) = L.take j ++ [⟨KX, NX, SX⟩] := by rw [List.take_add_one, HX.out]; rfl
                  have HE1 : encK (L.take (j + 1)) = encK (L.take j) ++ keyB ⟨KX, NX, SX⟩ := by rw [HXT, encK_snoc]
                  have HE2 : encK ((L.take (j + 1)).set k ⟨KY, NY, SY⟩) = encK ((L.take j).set k ⟨KY, NY, SY⟩) ++ keyB ⟨KQ, NQ, SQ⟩ := by rw [HXS, encK_snoc]
                  have LEA := encK_length (L.take j) (fun v hv => okL.out v (List.mem_of_mem_take hv))
                  have hBc : Below w2.heap.size w2 wc := hB.trans (C6.mono hB.size)
                  have hsW := hB.size
                  have hjm : j + 1 ≤ 1000000 := by omega
                  obtain ⟨LX, hLX⟩ : ∃ LX, LX = L.take j := ⟨_, rfl⟩
                  obtain ⟨LY, hLY⟩ : ∃ LY, LY = (L.take j).set k ⟨KY, NY, SY⟩ := ⟨_, rfl⟩
                  rw [← hLY, ← hLX] at R6
                  rw [← hLX] at HXT
                  rw [← hLY] at HXS
                  rw [← hLY] at HE2
                  rw [← hLX] at HE1 LEA
                  obtain ⟨LA, hLA⟩ : ∃ LA, LA = encK LX := ⟨_, rfl⟩
                  obtain ⟨LB, hLB⟩ : ∃ LB, LB = encK LY := ⟨_, rfl⟩
                  rw [← hLA, ← hLB] at R6
                  rw [← hLA] at HE1 LEA
                  rw [← hLB] at HE2
                  have hxl : LX.length ≤ 8 := by rw [hLX, List.length_take]; omega
                  have LEB : LB.length ≤ 200 * LY.length := by
                    rw [hLB]
                    refine encK_length LY (fun v hv => ?_)
                    rw [hLY] at hv
                    rcases List.mem_or_eq_of_mem_set hv with h1 | rfl
                    · exact okL.out v (List.mem_of_mem_take h1)
                    · exact okY.out
                  have hyl : LY.length = LX.length := by rw [hLY, hLX, List.length_set]
                  have LA2 : nA ≤ 1600 := by rw [← R6.a.len]; omega
                  have LB2 : nB ≤ 1600 := by rw [← R6.b.len]; omega
                  replace HE1 := Lib.hid HE1
                  replace HE2 := Lib.hid HE2
                  replace HXT := Lib.hid HXT
                  replace HXS := Lib.hid HXS
                  clear hLX hLY hLA hLB hxl hyl LEA LEB
                  go_upto_region 16 with fail
                  go_cut [9, 10] from 58 to 65 (fun vx vy wx => ∃ (gx cx gy cy : Nat), vx = .slice (some ⟨gx, 0, none⟩) (j + 1) cx ∧ vy = .slice (some ⟨gy, 0, none⟩) (j + 1) cy ∧ VAt wx gp KX NX SX ∧ VAt wx gq KQ NQ SQ ∧ Rows wx w2.heap.size aoA nA cA aoB nB cB (some ⟨gx, 0, none⟩) cx (some ⟨gy, 0, none⟩) cy (j + 1) LA LB (LX ++ [⟨KX, NX, SX⟩]) (LY ++ [⟨KQ, NQ, SQ⟩]) ∧ Below w2.heap.size w2 wx)
                  case first =>
                    obtain ⟨S, hS⟩ : ∃ S : Nat → Prop, S = fun z => z = gp ∨ z = gq ∨ blk aoA = some z ∨ blk aoB = some z := ⟨_, rfl⟩
                    have vp0 := tp.drew
                    have vq0 := tq.drew
                    have rx0 := R6.a.past (Below.refl _ wc).drew
                    have ry0 := R6.b.past (Below.refl _ wc).drew
                    have ra00 := R6.x.past (Below.refl _ wc).drew
                    have rb00 := R6.y.past (Below.refl _ wc).drew
                    have hB0 : w2.heap.size ≤ wc.drew.heap.size := hBc.size
                    have nab0 : Ap aoX aoY := R6.xy
                    have na0 : ∀ z, S z → blk aoX ≠ some z := fun z hz e => by
                      have := hR.x.lt z e
                      rw [hS] at hz
                      rcases hz with rfl | rfl | hz | hz
                      · omega
                      · omega
                      · exact R6.ax z hz e
                      · exact R6.bx z hz e
                    have nb0 : ∀ z, S z → blk aoY ≠ some z := fun z hz e => by
                      have := hR.y.lt z e
                      rw [hS] at hz
                      rcases hz with rfl | rfl | hz | hz
                      · omega
                      · omega
                      · exact R6.ay z hz e
                      · exact R6.bY z hz e
                    have hSlt : ∀ z, S z → z < wc.drew.heap.size := fun z hz => by
                      rw [hS] at hz
                      rcases hz with rfl | rfl | hz | hz
                      · exact tp.lt
                      · exact tq.lt
                      · exact R6.a.lt z hz
                      · exact R6.b.lt z hz
                    have sp : S gp := by rw [hS]; exact .inl rfl
                    have sq : S gq := by rw [hS]; exact .inr (.inl rfl)
                    have sx : ∀ z, blk aoA = some z → S z := fun z hz => by rw [hS]; exact .inr (.inr (.inl hz))
                    have sy : ∀ z, blk aoB = some z → S z := fun z hz => by rw [hS]; exact .inr (.inr (.inr hz))
                    have hAlt : ∀ z, blk aoX = some z → z < wc.drew.heap.size := R6.x.lt
                    have hBlt : ∀ z, blk aoY = some z → z < wc.drew.heap.size := R6.y.lt
                    have hm1 := hjm
                    have hm2 := hjm
                    have rab := R6.ab
                    have hbc := hBc.drew
                    clear hS R6 hR tp tq C6 hBc HE1 HE2 HXS HXT okQ okX hQ HX hbb LA2 LB2
                    refine region_inv (KRows16 w2.heap.size gp gq KX NX SX KQ NQ SQ aoA nA cA aoB nB cB aoX cX aoY cY j LA LB LX LY S) (by kernel_rfl) (by kernel_rfl) ?_ ?_ ?_
                    · exact ⟨false, false, false, false, false, false, false, false, false, false, u58, u59, u60, u61, u62, u63, u64, u65, .slice aoX j cX, .slice aoY j cY, 0, 0, 0, 0, 0, 0, rfl, (by simp only [Act.put, List.setIfInBounds_toArray, List.set_cons_zero, List.set_cons_succ]), Below.refl _ _, (fun h => by cases h), (fun h => by cases h), (fun h => by cases h), (fun h => by cases h), (fun h => by cases h), (fun h => by cases h), (fun h => by cases h), (fun h => by cases h), (fun h => by cases h), (fun h => by cases h), (vp0), (vq0), (rx0), (ry0), (fun h1 => ra00), (fun h => by cases h), (fun h1 => rb00), (fun h => by cases h), (fun h => by cases h), (fun h => by cases h), (fun h1 => rfl), (fun h1 => rfl), (fun h => by cases h), (fun h => by cases h), (nab0), (na0), (nb0), (fun h => by cases h), (fun h => by cases h)⟩
                    · refine ⟨?_, ?_, ?_, ?_, ?_, ?_, ?_, ?_, ?_, ?_, trivial⟩
                      · rintro L a w ⟨b0, b1, b2, b3, b4, b5, b6, b7, b8, b9, x58, x59, x60, x61, x62, x63, x64, x65, x9, x10, gP, ga, ca, gR, gb, cb, rfl, rfl, hb, cd0, cd1, cd2, cd3, cd4, cd5, cd6, cd7, cd8, cd9, f_vp, f_vq, f_rx, f_ry, f_ra0, f_ra1, f_rb0, f_rb1, f_ip, f_iq, f_s8, f_s9, f_o8, f_o9, f_nab, f_na, f_nb, w_8_3, w_9_7⟩ hf hd
                        have hf' : b0 = false := hf
                        subst hf'
                        clear hf hd
                        have e8 : b8 = false := by cases hq : b8 with | false => rfl | true => exact absurd (f_o8.out hq) (by simp)
                        subst e8
                        have q8 := f_s8.out rfl
                        subst q8
                        have W_vp := f_vp.out
                        have W_vq := f_vq.out
                        have W_rx := f_rx.out
                        have W_ry := f_ry.out
                        have W_nab := f_nab.out
                        have W_na := f_na.out
                        have W_nb := f_nb.out
                        try simp only [List.setIfInBounds_toArray, List.set_cons_zero, List.set_cons_succ]
                        intro K hK
                        rw [if_pos (by rfl)]
                        go_simp
                        exact hK.out _ _ ⟨true, b1, b2, b3, b4, b5, b6, b7, false, b9, (.slice aoX j cX), x59, x60, x61, x62, x63, x64, x65, .slice aoX j cX, x10, gP, ga, ca, gR, gb, cb, (by simp only [Act.put, List.setIfInBounds_toArray, List.set_cons_zero, List.set_cons_succ]), (by simp only [Act.put, List.setIfInBounds_toArray, List.set_cons_zero, List.set_cons_succ]), hb, (fun _ => rfl), cd1, cd2, cd3, cd4, cd5, cd6, cd7, cd8, cd9, f_vp, f_vq, f_rx, f_ry, f_ra0, f_ra1, f_rb0, f_rb1, f_ip, f_iq, f_s8, f_s9, (fun _ => rfl), f_o9, f_nab, f_na, f_nb, w_8_3, w_9_7⟩
                      · rintro L a w ⟨b0, b1, b2, b3, b4, b5, b6, b7, b8, b9, x58, x59, x60, x61, x62, x63, x64, x65, x9, x10, gP, ga, ca, gR, gb, cb, rfl, rfl, hb, cd0, cd1, cd2, cd3, cd4, cd5, cd6, cd7, cd8, cd9, f_vp, f_vq, f_rx, f_ry, f_ra0, f_ra1, f_rb0, f_rb1, f_ip, f_iq, f_s8, f_s9, f_o8, f_o9, f_nab, f_na, f_nb, w_8_3, w_9_7⟩ hf hd
                        have hf' : b1 = false := hf
                        subst hf'
                        clear hf hd
                        have W_vp := f_vp.out
                        have W_vq := f_vq.out
                        have W_rx := f_rx.out
                        have W_ry := f_ry.out
                        have W_nab := f_nab.out
                        have W_na := f_na.out
                        have W_nb := f_nb.out
                        try simp only [List.setIfInBounds_toArray, List.set_cons_zero, List.set_cons_succ]
                        obtain ⟨z0, z1, z2, -, -, -, -⟩ := W_vp
                        intro K hK
                        rw [if_pos (by rfl)]
                        go_simp
                        exact hK.out _ _ ⟨b0, true, b2, b3, b4, b5, b6, b7, b8, b9, x58, (vv KX NX SX), x60, x61, x62, x63, x64, x65, x9, x10, gP, ga, ca, gR, gb, cb, (by simp only [Act.put, List.setIfInBounds_toArray, List.set_cons_zero, List.set_cons_succ]), (by simp only [Act.put, List.setIfInBounds_toArray, List.set_cons_zero, List.set_cons_succ]), hb, cd0, (fun _ => rfl), cd2, cd3, cd4, cd5, cd6, cd7, cd8, cd9, f_vp, f_vq, f_rx, f_ry, f_ra0, f_ra1, f_rb0, f_rb1, f_ip, f_iq, f_s8, f_s9, f_o8, f_o9, f_nab, f_na, f_nb, w_8_3, w_9_7⟩
                      · rintro L a w ⟨b0, b1, b2, b3, b4, b5, b6, b7, b8, b9, x58, x59, x60, x61, x62, x63, x64, x65, x9, x10, gP, ga, ca, gR, gb, cb, rfl, rfl, hb, cd0, cd1, cd2, cd3, cd4, cd5, cd6, cd7, cd8, cd9, f_vp, f_vq, f_rx, f_ry, f_ra0, f_ra1, f_rb0, f_rb1, f_ip, f_iq, f_s8, f_s9, f_o8, f_o9, f_nab, f_na, f_nb, w_8_3, w_9_7⟩ hf hd
                        have hf' : b2 = false := hf
                        subst hf'
                        have d1 : b1 = true := hd ⟨1, .data⟩ (by simp) rfl
                        subst d1
                        obtain rfl := cd1.out rfl
                        clear hf hd
                        have W_vp := f_vp.out
                        have W_vq := f_vq.out
                        have W_rx := f_rx.out
                        have W_ry := f_ry.out
                        have W_nab := f_nab.out
                        have W_na := f_na.out
                        have W_nb := f_nb.out
                        try simp only [List.setIfInBounds_toArray, List.set_cons_zero, List.set_cons_succ]
                        intro K hK
                        rw [if_pos (by rfl)]
                        go_simp
                        have bx : Below w.heap.size w (w.alloc (.cells #[.int .i64 KX, .int .i64 NX, .string SX] 39)) := (Below.refl _ _).alloc (Nat.le_refl _) _
                        exact hK.out _ _ ⟨b0, true, true, b3, b4, b5, b6, b7, b8, b9, x58, vv KX NX SX, (.slice (some ⟨(w.heap.size), 0, none⟩) 1 1), x61, x62, x63, x64, x65, x9, x10, w.heap.size, ga, ca, gR, gb, cb, (by simp only [Act.put, List.setIfInBounds_toArray, List.set_cons_zero, List.set_cons_succ]), (by simp only [Act.put, List.setIfInBounds_toArray, List.set_cons_zero, List.set_cons_succ]), hb.trans (bx.mono (Nat.le_trans hB0 hb.size)), cd0, (fun _ => rfl), (fun _ => rfl), cd3, cd4, cd5, cd6, cd7, cd8, cd9, (f_vp.out.past bx), (f_vq.out.past bx), (f_rx.out.past bx), (f_ry.out.past bx), (fun h1 => (f_ra0.out h1).past bx), (fun h0 => (f_ra1.out h0).past bx), (fun h1 => (f_rb0.out h1).past bx), (fun h0 => (f_rb1.out h0).past bx), (fun _ _ => ⟨one_vv ⟨KX, NX, SX⟩ w, hb.size⟩), (fun h0 h1 => (f_iq.out h0 h1).past bx), f_s8, f_s9, f_o8, f_o9, f_nab, f_na, f_nb, w_8_3, w_9_7⟩
                      · rintro L a w ⟨b0, b1, b2, b3, b4, b5, b6, b7, b8, b9, x58, x59, x60, x61, x62, x63, x64, x65, x9, x10, gP, ga, ca, gR, gb, cb, rfl, rfl, hb, cd0, cd1, cd2, cd3, cd4, cd5, cd6, cd7, cd8, cd9, f_vp, f_vq, f_rx, f_ry, f_ra0, f_ra1, f_rb0, f_rb1, f_ip, f_iq, f_s8, f_s9, f_o8, f_o9, f_nab, f_na, f_nb, w_8_3, w_9_7⟩ hf hd
                        have hf' : b3 = false := hf
                        subst hf'
                        have d0 : b0 = true := hd ⟨0, .data⟩ (by simp) rfl
                        subst d0
                        have d2 : b2 = true := hd ⟨2, .data⟩ (by simp) rfl
                        subst d2
                        obtain rfl := cd0.out rfl
                        obtain rfl := cd2.out rfl
                        clear hf hd
                        have W_vp := f_vp.out
                        have W_vq := f_vq.out
                        have W_rx := f_rx.out
                        have W_ry := f_ry.out
                        have W_ra0 := f_ra0.out rfl
                        have W_ip := f_ip.out rfl rfl
                        have W_nab := f_nab.out
                        have W_na := f_na.out
                        have W_nb := f_nb.out
                        try simp only [List.setIfInBounds_toArray, List.set_cons_zero, List.set_cons_succ]
                        intro K hK
                        rw [if_pos (by rfl)]
                        have ltO : ∀ z, blk (bif b7 then some ⟨gb, 0, none⟩ else aoY) = some z → z < w.heap.size := by cases hq : b7 with | false => exact (f_rb0.out hq).lt | true => exact (f_rb1.out hq).lt
                        refine wp_append_r _ _ _ _ rfl rowTyV rfl W_ra0 (Nat.le_trans hB0 hb.size) _ rfl 1 [⟨KX, NX, SX⟩] (W_ip.isR.src rowTyV.ht) rfl (by omega) (j + 1) rfl (LX ++ [⟨KX, NX, SX⟩]) rfl hm1 fun g' c' wn o2 gr hg bw => ?_
                        have hb2 := hb.trans bw
                        have e_8 : b8 = false := by cases hq : b8 with | false => rfl | true => exact absurd (w_8_3.out hq) (by simp)
                        subst e_8
                        exact hK.out _ _ ⟨true, b1, true, true, b4, b5, b6, b7, false, b9, .slice aoX j cX, x59, .slice (some ⟨gP, 0, none⟩) 1 1, (.slice (some ⟨g', 0, none⟩) (j + 1) c'), x62, x63, x64, x65, x9, x10, gP, g', c', gR, gb, cb, (by simp only [Act.put, List.setIfInBounds_toArray, List.set_cons_zero, List.set_cons_succ]), (by simp only [Act.put, List.setIfInBounds_toArray, List.set_cons_zero, List.set_cons_succ]), hb2, (fun _ => rfl), cd1, (fun _ => rfl), (fun _ => rfl), cd4, cd5, cd6, cd7, (fun h => by cases h), cd9, (f_vp.out.grown gr (na0 gp sp).symm), (f_vq.out.grown gr (na0 gq sq).symm), (f_rx.out.grown gr (fun z hz => na0 z (sx z hz))), (f_ry.out.grown gr (fun z hz => na0 z (sy z hz))), (fun h => by cases h), (fun _ => o2), (fun h1 => (f_rb0.out h1).grown gr (fun z hz e => nab0 z e hz)), (fun h0 => (f_rb1.out h0).grown gr (fun z hz e => f_nab.out z e (by first | exact hz | (rw [h0]; exact hz)))), (fun _ h => by cases h), (fun h0 h1 => (f_iq.out h0 h1).grown gr (fun z hz => hAlt z hz)), f_s8, f_s9, f_o8, f_o9, (nab_next f_nab.out ltO hg), (na_next na0 (fun z hz => Nat.lt_of_lt_of_le (hSlt z hz) hb.size) hg), f_nb, (fun _ => rfl), w_9_7⟩
                      · rintro L a w ⟨b0, b1, b2, b3, b4, b5, b6, b7, b8, b9, x58, x59, x60, x61, x62, x63, x64, x65, x9, x10, gP, ga, ca, gR, gb, cb, rfl, rfl, hb, cd0, cd1, cd2, cd3, cd4, cd5, cd6, cd7, cd8, cd9, f_vp, f_vq, f_rx, f_ry, f_ra0, f_ra1, f_rb0, f_rb1, f_ip, f_iq, f_s8, f_s9, f_o8, f_o9, f_nab, f_na, f_nb, w_8_3, w_9_7⟩ hf hd
                        have hf' : b4 = false := hf
                        subst hf'
                        clear hf hd
                        have e9 : b9 = false := by cases hq : b9 with | false => rfl | true => exact absurd (f_o9.out hq) (by simp)
                        subst e9
                        have q9 := f_s9.out rfl
                        subst q9
                        have W_vp := f_vp.out
                        have W_vq := f_vq.out
                        have W_rx := f_rx.out
                        have W_ry := f_ry.out
                        have W_nab := f_nab.out
                        have W_na := f_na.out
                        have W_nb := f_nb.out
                        try simp only [List.setIfInBounds_toArray, List.set_cons_zero, List.set_cons_succ]
                        intro K hK
                        rw [if_pos (by rfl)]
                        go_simp
                        exact hK.out _ _ ⟨b0, b1, b2, b3, true, b5, b6, b7, b8, false, x58, x59, x60, x61, (.slice aoY j cY), x63, x64, x65, x9, .slice aoY j cY, gP, ga, ca, gR, gb, cb, (by simp only [Act.put, List.setIfInBounds_toArray, List.set_cons_zero, List.set_cons_succ]), (by simp only [Act.put, List.setIfInBounds_toArray, List.set_cons_zero, List.set_cons_succ]), hb, cd0, cd1, cd2, cd3, (fun _ => rfl), cd5, cd6, cd7, cd8, cd9, f_vp, f_vq, f_rx, f_ry, f_ra0, f_ra1, f_rb0, f_rb1, f_ip, f_iq, f_s8, f_s9, f_o8, (fun _ => rfl), f_nab, f_na, f_nb, w_8_3, w_9_7⟩
                      · rintro L a w ⟨b0, b1, b2, b3, b4, b5, b6, b7, b8, b9, x58, x59, x60, x61, x62, x63, x64, x65, x9, x10, gP, ga, ca, gR, gb, cb, rfl, rfl, hb, cd0, cd1, cd2, cd3, cd4, cd5, cd6, cd7, cd8, cd9, f_vp, f_vq, f_rx, f_ry, f_ra0, f_ra1, f_rb0, f_rb1, f_ip, f_iq, f_s8, f_s9, f_o8, f_o9, f_nab, f_na, f_nb, w_8_3, w_9_7⟩ hf hd
                        have hf' : b5 = false := hf
                        subst hf'
                        clear hf hd
                        have W_vp := f_vp.out
                        have W_vq := f_vq.out
                        have W_rx := f_rx.out
                        have W_ry := f_ry.out
                        have W_nab := f_nab.out
                        have W_na := f_na.out
                        have W_nb := f_nb.out
                        try simp only [List.setIfInBounds_toArray, List.set_cons_zero, List.set_cons_succ]
                        obtain ⟨z0, z1, z2, -, -, -, -⟩ := W_vq
                        intro K hK
                        rw [if_pos (by rfl)]
                        go_simp
                        exact hK.out _ _ ⟨b0, b1, b2, b3, b4, true, b6, b7, b8, b9, x58, x59, x60, x61, x62, (vv KQ NQ SQ), x64, x65, x9, x10, gP, ga, ca, gR, gb, cb, (by simp only [Act.put, List.setIfInBounds_toArray, List.set_cons_zero, List.set_cons_succ]), (by simp only [Act.put, List.setIfInBounds_toArray, List.set_cons_zero, List.set_cons_succ]), hb, cd0, cd1, cd2, cd3, cd4, (fun _ => rfl), cd6, cd7, cd8, cd9, f_vp, f_vq, f_rx, f_ry, f_ra0, f_ra1, f_rb0, f_rb1, f_ip, f_iq, f_s8, f_s9, f_o8, f_o9, f_nab, f_na, f_nb, w_8_3, w_9_7⟩
                      · rintro L a w ⟨b0, b1, b2, b3, b4, b5, b6, b7, b8, b9, x58, x59, x60, x61, x62, x63, x64, x65, x9, x10, gP, ga, ca, gR, gb, cb, rfl, rfl, hb, cd0, cd1, cd2, cd3, cd4, cd5, cd6, cd7, cd8, cd9, f_vp, f_vq, f_rx, f_ry, f_ra0, f_ra1, f_rb0, f_rb1, f_ip, f_iq, f_s8, f_s9, f_o8, f_o9, f_nab, f_na, f_nb, w_8_3, w_9_7⟩ hf hd
                        have hf' : b6 = false := hf
                        subst hf'
                        have d5 : b5 = true := hd ⟨5, .data⟩ (by simp) rfl
                        subst d5
                        obtain rfl := cd5.out rfl
                        clear hf hd
                        have W_vp := f_vp.out
                        have W_vq := f_vq.out
                        have W_rx := f_rx.out
                        have W_ry := f_ry.out
                        have W_nab := f_nab.out
                        have W_na := f_na.out
                        have W_nb := f_nb.out
                        try simp only [List.setIfInBounds_toArray, List.set_cons_zero, List.set_cons_succ]
                        intro K hK
                        rw [if_pos (by rfl)]
                        go_simp
                        have bx : Below w.heap.size w (w.alloc (.cells #[.int .i64 KQ, .int .i64 NQ, .string SQ] 39)) := (Below.refl _ _).alloc (Nat.le_refl _) _
                        exact hK.out _ _ ⟨b0, b1, b2, b3, b4, true, true, b7, b8, b9, x58, x59, x60, x61, x62, vv KQ NQ SQ, (.slice (some ⟨(w.heap.size), 0, none⟩) 1 1), x65, x9, x10, gP, ga, ca, w.heap.size, gb, cb, (by simp only [Act.put, List.setIfInBounds_toArray, List.set_cons_zero, List.set_cons_succ]), (by simp only [Act.put, List.setIfInBounds_toArray, List.set_cons_zero, List.set_cons_succ]), hb.trans (bx.mono (Nat.le_trans hB0 hb.size)), cd0, cd1, cd2, cd3, cd4, (fun _ => rfl), (fun _ => rfl), cd7, cd8, cd9, (f_vp.out.past bx), (f_vq.out.past bx), (f_rx.out.past bx), (f_ry.out.past bx), (fun h1 => (f_ra0.out h1).past bx), (fun h0 => (f_ra1.out h0).past bx), (fun h1 => (f_rb0.out h1).past bx), (fun h0 => (f_rb1.out h0).past bx), (fun h0 h1 => (f_ip.out h0 h1).past bx), (fun _ _ => ⟨one_vv ⟨KQ, NQ, SQ⟩ w, hb.size⟩), f_s8, f_s9, f_o8, f_o9, f_nab, f_na, f_nb, w_8_3, w_9_7⟩
                      · rintro L a w ⟨b0, b1, b2, b3, b4, b5, b6, b7, b8, b9, x58, x59, x60, x61, x62, x63, x64, x65, x9, x10, gP, ga, ca, gR, gb, cb, rfl, rfl, hb, cd0, cd1, cd2, cd3, cd4, cd5, cd6, cd7, cd8, cd9, f_vp, f_vq, f_rx, f_ry, f_ra0, f_ra1, f_rb0, f_rb1, f_ip, f_iq, f_s8, f_s9, f_o8, f_o9, f_nab, f_na, f_nb, w_8_3, w_9_7⟩ hf hd
                        have hf' : b7 = false := hf
                        subst hf'
                        have d4 : b4 = true := hd ⟨4, .data⟩ (by simp) rfl
                        subst d4
                        have d6 : b6 = true := hd ⟨6, .data⟩ (by simp) rfl
                        subst d6
                        have d3 : b3 = true := hd ⟨3, .chain⟩ (by simp) rfl
                        subst d3
                        obtain rfl := cd4.out rfl
                        obtain rfl := cd6.out rfl
                        obtain rfl := cd3.out rfl
                        clear hf hd
                        have W_vp := f_vp.out
                        have W_vq := f_vq.out
                        have W_rx := f_rx.out
                        have W_ry := f_ry.out
                        have W_ra1 := f_ra1.out rfl
                        have W_rb0 := f_rb0.out rfl
                        have W_iq := f_iq.out rfl rfl
                        have W_nab := f_nab.out
                        have W_na := f_na.out
                        have W_nb := f_nb.out
                        try simp only [List.setIfInBounds_toArray, List.set_cons_zero, List.set_cons_succ]
                        intro K hK
                        rw [if_pos (by rfl)]
                        have ltO := W_ra1.lt
                        refine wp_append_r _ _ _ _ rfl rowTyV rfl W_rb0 (Nat.le_trans hB0 hb.size) _ rfl 1 [⟨KQ, NQ, SQ⟩] (W_iq.isR.src rowTyV.ht) rfl (by omega) (j + 1) rfl (LY ++ [⟨KQ, NQ, SQ⟩]) rfl hm2 fun g' c' wn o2 gr hg bw => ?_
                        have hb2 := hb.trans bw
                        have e_9 : b9 = false := by cases hq : b9 with | false => rfl | true => exact absurd (w_9_7.out hq) (by simp)
                        subst e_9
                        exact hK.out _ _ ⟨b0, b1, b2, true, true, b5, true, true, b8, false, x58, x59, x60, .slice (some ⟨ga, 0, none⟩) (j + 1) ca, .slice aoY j cY, x63, .slice (some ⟨gR, 0, none⟩) 1 1, (.slice (some ⟨g', 0, none⟩) (j + 1) c'), x9, x10, gP, ga, ca, gR, g', c', (by simp only [Act.put, List.setIfInBounds_toArray, List.set_cons_zero, List.set_cons_succ]), (by simp only [Act.put, List.setIfInBounds_toArray, List.set_cons_zero, List.set_cons_succ]), hb2, cd0, cd1, cd2, (fun _ => rfl), (fun _ => rfl), cd5, (fun _ => rfl), (fun _ => rfl), cd8, (fun h => by cases h), (f_vp.out.grown gr (nb0 gp sp).symm), (f_vq.out.grown gr (nb0 gq sq).symm), (f_rx.out.grown gr (fun z hz => nb0 z (sx z hz))), (f_ry.out.grown gr (fun z hz => nb0 z (sy z hz))), (fun h => by cases h), (fun h0 => (f_ra1.out h0).grown gr (fun z hz => f_nab.out z (by first | exact hz | (rw [h0]; exact hz)))), (fun h => by cases h), (fun _ => o2), (fun _ h => by cases h), (fun _ h => by cases h), f_s8, f_s9, f_o8, f_o9, (nab_next' f_nab.out ltO hg), f_na, (na_next nb0 (fun z hz => Nat.lt_of_lt_of_le (hSlt z hz) hb.size) hg), (fun _ => rfl), (fun _ => rfl)⟩
                      · rintro L a w ⟨b0, b1, b2, b3, b4, b5, b6, b7, b8, b9, x58, x59, x60, x61, x62, x63, x64, x65, x9, x10, gP, ga, ca, gR, gb, cb, rfl, rfl, hb, cd0, cd1, cd2, cd3, cd4, cd5, cd6, cd7, cd8, cd9, f_vp, f_vq, f_rx, f_ry, f_ra0, f_ra1, f_rb0, f_rb1, f_ip, f_iq, f_s8, f_s9, f_o8, f_o9, f_nab, f_na, f_nb, w_8_3, w_9_7⟩ hf hd
                        have hf' : b8 = false := hf
                        subst hf'
                        have d3 : b3 = true := hd ⟨3, .data⟩ (by simp) rfl
                        subst d3
                        have d7 : b7 = true := hd ⟨7, .chain⟩ (by simp) rfl
                        subst d7
                        have d0 : b0 = true := hd ⟨0, .phase⟩ (by simp) rfl
                        subst d0
                        have d1 : b1 = true := hd ⟨1, .phase⟩ (by simp) rfl
                        subst d1
                        have d2 : b2 = true := hd ⟨2, .phase⟩ (by simp) rfl
                        subst d2
                        obtain rfl := cd3.out rfl
                        obtain rfl := cd7.out rfl
                        obtain rfl := cd0.out rfl
                        obtain rfl := cd1.out rfl
                        obtain rfl := cd2.out rfl
                        clear hf hd
                        have W_vp := f_vp.out
                        have W_vq := f_vq.out
                        have W_rx := f_rx.out
                        have W_ry := f_ry.out
                        have W_ra1 := f_ra1.out rfl
                        have W_rb1 := f_rb1.out rfl
                        have W_s8 := f_s8.out rfl
                        have W_nab := f_nab.out
                        have W_na := f_na.out
                        have W_nb := f_nb.out
                        try simp only [List.setIfInBounds_toArray, List.set_cons_zero, List.set_cons_succ]
                        intro K hK
                        rw [if_pos (by rfl)]
                        go_simp
                        exact hK.out _ _ ⟨true, true, true, true, b4, b5, b6, true, true, b9, .slice aoX j cX, vv KX NX SX, .slice (some ⟨gP, 0, none⟩) 1 1, .slice (some ⟨ga, 0, none⟩) (j + 1) ca, x62, x63, x64, .slice (some ⟨gb, 0, none⟩) (j + 1) cb, (.slice (some ⟨ga, 0, none⟩) (j + 1) ca), x10, gP, ga, ca, gR, gb, cb, (by simp only [Act.put, List.setIfInBounds_toArray, List.set_cons_zero, List.set_cons_succ]), (by simp only [Act.put, List.setIfInBounds_toArray, List.set_cons_zero, List.set_cons_succ]), hb, (fun _ => rfl), (fun _ => rfl), (fun _ => rfl), (fun _ => rfl), cd4, cd5, cd6, (fun _ => rfl), (fun _ => rfl), cd9, f_vp, f_vq, f_rx, f_ry, (fun h => by cases h), f_ra1, (fun h => by cases h), f_rb1, (fun _ h => by cases h), (fun _ h => by cases h), (fun h => by cases h), f_s9, (fun _ => rfl), f_o9, f_nab, f_na, f_nb, (fun _ => rfl), (fun _ => rfl)⟩
                      · rintro L a w ⟨b0, b1, b2, b3, b4, b5, b6, b7, b8, b9, x58, x59, x60, x61, x62, x63, x64, x65, x9, x10, gP, ga, ca, gR, gb, cb, rfl, rfl, hb, cd0, cd1, cd2, cd3, cd4, cd5, cd6, cd7, cd8, cd9, f_vp, f_vq, f_rx, f_ry, f_ra0, f_ra1, f_rb0, f_rb1, f_ip, f_iq, f_s8, f_s9, f_o8, f_o9, f_nab, f_na, f_nb, w_8_3, w_9_7⟩ hf hd
                        have hf' : b9 = false := hf
                        subst hf'
                        have d7 : b7 = true := hd ⟨7, .data⟩ (by simp) rfl
                        subst d7
                        have d8 : b8 = true := hd ⟨8, .chain⟩ (by simp) rfl
                        subst d8
                        have d0 : b0 = true := hd ⟨0, .phase⟩ (by simp) rfl
                        subst d0
                        have d1 : b1 = true := hd ⟨1, .phase⟩ (by simp) rfl
                        subst d1
                        have d2 : b2 = true := hd ⟨2, .phase⟩ (by simp) rfl
                        subst d2
                        have d3 : b3 = true := hd ⟨3, .phase⟩ (by simp) rfl
                        subst d3
                        have d4 : b4 = true := hd ⟨4, .phase⟩ (by simp) rfl
                        subst d4
                        have d5 : b5 = true := hd ⟨5, .phase⟩ (by simp) rfl
                        subst d5
                        have d6 : b6 = true := hd ⟨6, .phase⟩ (by simp) rfl
                        subst d6
                        obtain rfl := cd7.out rfl
                        obtain rfl := cd8.out rfl
                        obtain rfl := cd0.out rfl
                        obtain rfl := cd1.out rfl
                        obtain rfl := cd2.out rfl
                        obtain rfl := cd3.out rfl
                        obtain rfl := cd4.out rfl
                        obtain rfl := cd5.out rfl
                        obtain rfl := cd6.out rfl
                        clear hf hd
                        have W_vp := f_vp.out
                        have W_vq := f_vq.out
                        have W_rx := f_rx.out
                        have W_ry := f_ry.out
                        have W_ra1 := f_ra1.out rfl
                        have W_rb1 := f_rb1.out rfl
                        have W_s9 := f_s9.out rfl
                        have W_o8 := f_o8.out rfl
                        have W_nab := f_nab.out
                        have W_na := f_na.out
                        have W_nb := f_nb.out
                        try simp only [List.setIfInBounds_toArray, List.set_cons_zero, List.set_cons_succ]
                        intro K hK
                        rw [if_pos (by rfl)]
                        go_simp
                        exact hK.out _ _ ⟨true, true, true, true, true, true, true, true, true, true, .slice aoX j cX, vv KX NX SX, .slice (some ⟨gP, 0, none⟩) 1 1, .slice (some ⟨ga, 0, none⟩) (j + 1) ca, .slice aoY j cY, vv KQ NQ SQ, .slice (some ⟨gR, 0, none⟩) 1 1, .slice (some ⟨gb, 0, none⟩) (j + 1) cb, .slice (some ⟨ga, 0, none⟩) (j + 1) ca, (.slice (some ⟨gb, 0, none⟩) (j + 1) cb), gP, ga, ca, gR, gb, cb, (by simp only [Act.put, List.setIfInBounds_toArray, List.set_cons_zero, List.set_cons_succ]), (by simp only [Act.put, List.setIfInBounds_toArray, List.set_cons_zero, List.set_cons_succ]), hb, (fun _ => rfl), (fun _ => rfl), (fun _ => rfl), (fun _ => rfl), (fun _ => rfl), (fun _ => rfl), (fun _ => rfl), (fun _ => rfl), (fun _ => rfl), (fun _ => rfl), f_vp, f_vq, f_rx, f_ry, (fun h => by cases h), f_ra1, (fun h => by cases h), f_rb1, (fun _ h => by cases h), (fun _ h => by cases h), (fun h => by cases h), (fun h => by cases h), f_o8, (fun _ => rfl), f_nab, f_na, f_nb, (fun _ => rfl), (fun _ => rfl)⟩
                    · rintro a w ⟨b0, b1, b2, b3, b4, b5, b6, b7, b8, b9, x58, x59, x60, x61, x62, x63, x64, x65, x9, x10, gP, ga, ca, gR, gb, cb, hL, rfl, hb, cd0, cd1, cd2, cd3, cd4, cd5, cd6, cd7, cd8, cd9, f_vp, f_vq, f_rx, f_ry, f_ra0, f_ra1, f_rb0, f_rb1, f_ip, f_iq, f_s8, f_s9, f_o8, f_o9, f_nab, f_na, f_nb, w_8_3, w_9_7⟩
                      have hL' : [true, true, true, true, true, true, true, true, true, true] = [b0, b1, b2, b3, b4, b5, b6, b7, b8, b9] := congrArg Array.toList hL
                      simp only [List.cons.injEq, and_true] at hL'
                      obtain ⟨rfl, rfl, rfl, rfl, rfl, rfl, rfl, rfl, rfl, rfl⟩ := hL'
                      obtain rfl := cd0.out rfl
                      obtain rfl := cd1.out rfl
                      obtain rfl := cd2.out rfl
                      obtain rfl := cd3.out rfl
                      obtain rfl := cd4.out rfl
                      obtain rfl := cd5.out rfl
                      obtain rfl := cd6.out rfl
                      obtain rfl := cd7.out rfl
                      obtain rfl := cd8.out rfl
                      obtain rfl := cd9.out rfl
                      have W_vp := f_vp.out
                      have W_vq := f_vq.out
                      have W_rx := f_rx.out
                      have W_ry := f_ry.out
                      have W_ra1 := f_ra1.out rfl
                      have W_rb1 := f_rb1.out rfl
                      have W_o8 := f_o8.out rfl
                      have W_o9 := f_o9.out rfl
                      have W_nab := f_nab.out
                      have W_na := f_na.out
                      have W_nb := f_nb.out
                      clear hL f_vp f_vq f_rx f_ry f_ra0 f_ra1 f_rb0 f_rb1 f_ip f_iq f_s8 f_s9 f_o8 f_o9 f_nab f_na f_nb cd0 cd1 cd2 cd3 cd4 cd5 cd6 cd7 cd8 cd9 w_8_3 w_9_7
                      simp only [List.setIfInBounds_toArray, List.set_cons_zero, List.set_cons_succ]
                      go_wp2_with fail
                      go_meet
                      exact ⟨ga, ca, gb, cb, rfl, rfl, W_vp, W_vq, ⟨W_rx, W_ry, W_ra1, W_rb1, rab, fun z hz => W_na z (sx z hz), fun z hz => W_nb z (sx z hz), fun z hz => W_na z (sy z hz), fun z hz => W_nb z (sy z hz), W_nab⟩, hbc.trans hb⟩
                  case rest =>
                    clear R6 tp tq C6 hBc
                    obtain ⟨gx, cx, gy, cy, rfl, rfl, tp, tq, R7, hBc⟩ := hcut
                    have HP : ∀ w, Calls Try.prog 21 #[vv KX NX SX] w (FreshI w (keyB ⟨KX, NX, SX⟩)) := fun w => keyBytes_any _ okX.out w
                    have HR : ∀ w, Calls Try.prog 21 #[vv KQ NQ SQ] w (FreshI w (keyB ⟨KQ, NQ, SQ⟩)) := fun w => keyBytes_any _ okQ.out w
                    obtain ⟨hKP, hKP2⟩ := key_len _ okX.out
                    obtain ⟨hKR, hKR2⟩ := key_len _ okQ.out
                    have hm1 : nA + (keyB ⟨KX, NX, SX⟩).length ≤ 1000000 := by omega
                    have hm2 : nB + (keyB ⟨KQ, NQ, SQ⟩).length ≤ 1000000 := by omega
                    go_upto_region 17 with fail
                    obtain ⟨S, hS⟩ : ∃ S : Nat → Prop, S = fun z => z = gp ∨ z = gq ∨ blk (some ⟨gx, 0, none⟩) = some z ∨ blk (some ⟨gy, 0, none⟩) = some z := ⟨_, rfl⟩
                    have vp0 := tp.drew
                    have vq0 := tq.drew
                    have ra00 := R7.a.past (Below.refl _ wc).drew
                    have rb00 := R7.b.past (Below.refl _ wc).drew
                    have rx0 := R7.x.past (Below.refl _ wc).drew
                    have ry0 := R7.y.past (Below.refl _ wc).drew
                    have hB0 : w2.heap.size ≤ wc.drew.heap.size := hBc.size
                    have nab0 : Ap aoA aoB := R7.ab
                    have na0 : ∀ z, S z → blk aoA ≠ some z := fun z hz e => by
                      have := hR.a.lt z e
                      rw [hS] at hz
                      rcases hz with rfl | rfl | hz | hz
                      · omega
                      · omega
                      · exact R7.ax z e hz
                      · exact R7.ay z e hz
                    have nb0 : ∀ z, S z → blk aoB ≠ some z := fun z hz e => by
                      have := hR.b.lt z e
                      rw [hS] at hz
                      rcases hz with rfl | rfl | hz | hz
                      · omega
                      · omega
                      · exact R7.bx z e hz
                      · exact R7.bY z e hz
                    have hSlt : ∀ z, S z → z < wc.drew.heap.size := fun z hz => by
                      rw [hS] at hz
                      rcases hz with rfl | rfl | hz | hz
                      · exact tp.lt
                      · exact tq.lt
                      · exact R7.x.lt z hz
                      · exact R7.y.lt z hz
                    have sp : S gp := by rw [hS]; exact .inl rfl
                    have sq : S gq := by rw [hS]; exact .inr (.inl rfl)
                    have sx : ∀ z, blk (some ⟨gx, 0, none⟩) = some z → S z := fun z hz => by rw [hS]; exact .inr (.inr (.inl hz))
                    have sy : ∀ z, blk (some ⟨gy, 0, none⟩) = some z → S z := fun z hz => by rw [hS]; exact .inr (.inr (.inr hz))
                    have hAlt : ∀ z, blk aoA = some z → z < wc.drew.heap.size := R7.a.lt
                    have hBlt : ∀ z, blk aoB = some z → z < wc.drew.heap.size := R7.b.lt
                    have rxy := R7.xy
                    have hbc := hBc.drew
                    clear hS R7 hR tp tq hBc okQ okX hQ HX hbb LA2 LB2
                    refine region_inv (KRows17 w2.heap.size gp gq KX NX SX KQ NQ SQ aoA nA cA aoB nB cB (some ⟨gx, 0, none⟩) cx (some ⟨gy, 0, none⟩) cy (j + 1) LA LB (LX ++ [⟨KX, NX, SX⟩]) (LY ++ [⟨KQ, NQ, SQ⟩]) S (keyB ⟨KX, NX, SX⟩) (keyB ⟨KQ, NQ, SQ⟩)) (by kernel_rfl) (by kernel_rfl) ?_ ?_ ?_
                    · exact ⟨false, false, false, false, false, false, false, false, false, false, u66, u67, u68, u69, u70, u71, u72, u73, .slice aoA nA cA, .slice aoB nB cB, 0, 0, 0, 0, 0, 0, rfl, (by simp only [Act.put, List.setIfInBounds_toArray, List.set_cons_zero, List.set_cons_succ]), Below.refl _ _, (fun h => by cases h), (fun h => by cases h), (fun h => by cases h), (fun h => by cases h), (fun h => by cases h), (fun h => by cases h), (fun h => by cases h), (fun h => by cases h), (fun h => by cases h), (fun h => by cases h), (vp0), (vq0), (rx0), (ry0), (fun h1 => ra00), (fun h => by cases h), (fun h1 => rb00), (fun h => by cases h), (fun h => by cases h), (fun h => by cases h), (fun h1 => rfl), (fun h1 => rfl), (fun h => by cases h), (fun h => by cases h), (nab0), (na0), (nb0), (fun h => by cases h), (fun h => by cases h)⟩
                    · refine ⟨?_, ?_, ?_, ?_, ?_, ?_, ?_, ?_, ?_, ?_, trivial⟩
                      · rintro L a w ⟨b0, b1, b2, b3, b4, b5, b6, b7, b8, b9, x66, x67, x68, x69, x70, x71, x72, x73, x7, x8, gP, ga, ca, gR, gb, cb, rfl, rfl, hb, cd0, cd1, cd2, cd3, cd4, cd5, cd6, cd7, cd8, cd9, f_vp, f_vq, f_rx, f_ry, f_ra0, f_ra1, f_rb0, f_rb1, f_ip, f_iq, f_s8, f_s9, f_o8, f_o9, f_nab, f_na, f_nb, w_8_3, w_9_7⟩ hf hd
                        have hf' : b0 = false := hf
                        subst hf'
                        clear hf hd
                        have e8 : b8 = false := by cases hq : b8 with | false => rfl | true => exact absurd (f_o8.out hq) (by simp)
                        subst e8
                        have q8 := f_s8.out rfl
                        subst q8
                        have W_vp := f_vp.out
                        have W_vq := f_vq.out
                        have W_rx := f_rx.out
                        have W_ry := f_ry.out
                        have W_nab := f_nab.out
                        have W_na := f_na.out
                        have W_nb := f_nb.out
                        try simp only [List.setIfInBounds_toArray, List.set_cons_zero, List.set_cons_succ]
                        intro K hK
                        rw [if_pos (by rfl)]
                        go_simp
                        exact hK.out _ _ ⟨true, b1, b2, b3, b4, b5, b6, b7, false, b9, (.slice aoA nA cA), x67, x68, x69, x70, x71, x72, x73, .slice aoA nA cA, x8, gP, ga, ca, gR, gb, cb, (by simp only [Act.put, List.setIfInBounds_toArray, List.set_cons_zero, List.set_cons_succ]), (by simp only [Act.put, List.setIfInBounds_toArray, List.set_cons_zero, List.set_cons_succ]), hb, (fun _ => rfl), cd1, cd2, cd3, cd4, cd5, cd6, cd7, cd8, cd9, f_vp, f_vq, f_rx, f_ry, f_ra0, f_ra1, f_rb0, f_rb1, f_ip, f_iq, f_s8, f_s9, (fun _ => rfl), f_o9, f_nab, f_na, f_nb, w_8_3, w_9_7⟩
                      · rintro L a w ⟨b0, b1, b2, b3, b4, b5, b6, b7, b8, b9, x66, x67, x68, x69, x70, x71, x72, x73, x7, x8, gP, ga, ca, gR, gb, cb, rfl, rfl, hb, cd0, cd1, cd2, cd3, cd4, cd5, cd6, cd7, cd8, cd9, f_vp, f_vq, f_rx, f_ry, f_ra0, f_ra1, f_rb0, f_rb1, f_ip, f_iq, f_s8, f_s9, f_o8, f_o9, f_nab, f_na, f_nb, w_8_3, w_9_7⟩ hf hd
                        have hf' : b1 = false := hf
                        subst hf'
                        clear hf hd
                        have W_vp := f_vp.out
                        have W_vq := f_vq.out
                        have W_rx := f_rx.out
                        have W_ry := f_ry.out
                        have W_nab := f_nab.out
                        have W_na := f_na.out
                        have W_nb := f_nb.out
                        try simp only [List.setIfInBounds_toArray, List.set_cons_zero, List.set_cons_succ]
                        obtain ⟨z0, z1, z2, -, -, -, -⟩ := W_vp
                        intro K hK
                        rw [if_pos (by rfl)]
                        go_simp
                        exact hK.out _ _ ⟨b0, true, b2, b3, b4, b5, b6, b7, b8, b9, x66, (vv KX NX SX), x68, x69, x70, x71, x72, x73, x7, x8, gP, ga, ca, gR, gb, cb, (by simp only [Act.put, List.setIfInBounds_toArray, List.set_cons_zero, List.set_cons_succ]), (by simp only [Act.put, List.setIfInBounds_toArray, List.set_cons_zero, List.set_cons_succ]), hb, cd0, (fun _ => rfl), cd2, cd3, cd4, cd5, cd6, cd7, cd8, cd9, f_vp, f_vq, f_rx, f_ry, f_ra0, f_ra1, f_rb0, f_rb1, f_ip, f_iq, f_s8, f_s9, f_o8, f_o9, f_nab, f_na, f_nb, w_8_3, w_9_7⟩
                      · rintro L a w ⟨b0, b1, b2, b3, b4, b5, b6, b7, b8, b9, x66, x67, x68, x69, x70, x71, x72, x73, x7, x8, gP, ga, ca, gR, gb, cb, rfl, rfl, hb, cd0, cd1, cd2, cd3, cd4, cd5, cd6, cd7, cd8, cd9, f_vp, f_vq, f_rx, f_ry, f_ra0, f_ra1, f_rb0, f_rb1, f_ip, f_iq, f_s8, f_s9, f_o8, f_o9, f_nab, f_na, f_nb, w_8_3, w_9_7⟩ hf hd
                        have hf' : b2 = false := hf
                        subst hf'
                        have d1 : b1 = true := hd ⟨1, .data⟩ (by simp) rfl
                        subst d1
                        obtain rfl := cd1.out rfl
                        clear hf hd
                        have W_vp := f_vp.out
                        have W_vq := f_vq.out
                        have W_rx := f_rx.out
                        have W_ry := f_ry.out
                        have W_nab := f_nab.out
                        have W_na := f_na.out
                        have W_nb := f_nb.out
                        try simp only [List.setIfInBounds_toArray, List.set_cons_zero, List.set_cons_succ]
                        intro K hK
                        rw [if_pos (by rfl)]
                        go_simp
                        go_at_call 21
                        refine (HP _).mono ?_
                        rintro e wn ⟨g', rfl, i2, bx, q2⟩
                        exact hK.out _ _ ⟨b0, true, true, b3, b4, b5, b6, b7, b8, b9, x66, vv KX NX SX, (.slice (some ⟨g', 0, none⟩) (keyB ⟨KX, NX, SX⟩).length (keyB ⟨KX, NX, SX⟩).length), x69, x70, x71, x72, x73, x7, x8, g', ga, ca, gR, gb, cb, (by simp only [Act.put, List.setIfInBounds_toArray, List.set_cons_zero, List.set_cons_succ]), (by simp only [Act.put, List.setIfInBounds_toArray, List.set_cons_zero, List.set_cons_succ]), hb.trans (bx.mono (Nat.le_trans hB0 hb.size)), cd0, (fun _ => rfl), (fun _ => rfl), cd3, cd4, cd5, cd6, cd7, cd8, cd9, (f_vp.out.past bx), (f_vq.out.past bx), (f_rx.out.past bx), (f_ry.out.past bx), (fun h1 => (f_ra0.out h1).past bx), (fun h0 => (f_ra1.out h0).past bx), (fun h1 => (f_rb0.out h1).past bx), (fun h0 => (f_rb1.out h0).past bx), (fun _ _ => ⟨i2, Nat.le_trans hb.size q2⟩), (fun h0 h1 => (f_iq.out h0 h1).past bx), f_s8, f_s9, f_o8, f_o9, f_nab, f_na, f_nb, w_8_3, w_9_7⟩
                      · rintro L a w ⟨b0, b1, b2, b3, b4, b5, b6, b7, b8, b9, x66, x67, x68, x69, x70, x71, x72, x73, x7, x8, gP, ga, ca, gR, gb, cb, rfl, rfl, hb, cd0, cd1, cd2, cd3, cd4, cd5, cd6, cd7, cd8, cd9, f_vp, f_vq, f_rx, f_ry, f_ra0, f_ra1, f_rb0, f_rb1, f_ip, f_iq, f_s8, f_s9, f_o8, f_o9, f_nab, f_na, f_nb, w_8_3, w_9_7⟩ hf hd
                        have hf' : b3 = false := hf
                        subst hf'
                        have d0 : b0 = true := hd ⟨0, .data⟩ (by simp) rfl
                        subst d0
                        have d2 : b2 = true := hd ⟨2, .data⟩ (by simp) rfl
                        subst d2
                        obtain rfl := cd0.out rfl
                        obtain rfl := cd2.out rfl
                        clear hf hd
                        have W_vp := f_vp.out
                        have W_vq := f_vq.out
                        have W_rx := f_rx.out
                        have W_ry := f_ry.out
                        have W_ra0 := f_ra0.out rfl
                        have W_ip := f_ip.out rfl rfl
                        have W_nab := f_nab.out
                        have W_na := f_na.out
                        have W_nb := f_nb.out
                        try simp only [List.setIfInBounds_toArray, List.set_cons_zero, List.set_cons_succ]
                        intro K hK
                        rw [if_pos (by rfl)]
                        have ltO : ∀ z, blk (bif b7 then some ⟨gb, 0, none⟩ else aoB) = some z → z < w.heap.size := by cases hq : b7 with | false => exact (f_rb0.out hq).lt | true => exact (f_rb1.out hq).lt
                        refine wp_append_r _ _ _ _ rfl rowTyB rfl W_ra0 (Nat.le_trans hB0 hb.size) _ rfl (keyB ⟨KX, NX, SX⟩).length (keyB ⟨KX, NX, SX⟩) (by rw [EB_all]; exact W_ip.isB.src byteTy.ht) rfl hKP (nA + (keyB ⟨KX, NX, SX⟩).length) rfl (LA ++ (keyB ⟨KX, NX, SX⟩)) rfl hm1 fun g' c' wn o2 gr hg bw => ?_
                        have hb2 := hb.trans bw
                        have e_8 : b8 = false := by cases hq : b8 with | false => rfl | true => exact absurd (w_8_3.out hq) (by simp)
                        subst e_8
                        exact hK.out _ _ ⟨true, b1, true, true, b4, b5, b6, b7, false, b9, .slice aoA nA cA, x67, .slice (some ⟨gP, 0, none⟩) (keyB ⟨KX, NX, SX⟩).length (keyB ⟨KX, NX, SX⟩).length, (.slice (some ⟨g', 0, none⟩) (nA + (keyB ⟨KX, NX, SX⟩).length) c'), x70, x71, x72, x73, x7, x8, gP, g', c', gR, gb, cb, (by simp only [Act.put, List.setIfInBounds_toArray, List.set_cons_zero, List.set_cons_succ]), (by simp only [Act.put, List.setIfInBounds_toArray, List.set_cons_zero, List.set_cons_succ]), hb2, (fun _ => rfl), cd1, (fun _ => rfl), (fun _ => rfl), cd4, cd5, cd6, cd7, (fun h => by cases h), cd9, (f_vp.out.grown gr (na0 gp sp).symm), (f_vq.out.grown gr (na0 gq sq).symm), (f_rx.out.grown gr (fun z hz => na0 z (sx z hz))), (f_ry.out.grown gr (fun z hz => na0 z (sy z hz))), (fun h => by cases h), (fun _ => o2), (fun h1 => (f_rb0.out h1).grown gr (fun z hz e => nab0 z e hz)), (fun h0 => (f_rb1.out h0).grown gr (fun z hz e => f_nab.out z e (by first | exact hz | (rw [h0]; exact hz)))), (fun _ h => by cases h), (fun h0 h1 => (f_iq.out h0 h1).grown gr (fun z hz => hAlt z hz)), f_s8, f_s9, f_o8, f_o9, (nab_next f_nab.out ltO hg), (na_next na0 (fun z hz => Nat.lt_of_lt_of_le (hSlt z hz) hb.size) hg), f_nb, (fun _ => rfl), w_9_7⟩
                      · rintro L a w ⟨b0, b1, b2, b3, b4, b5, b6, b7, b8, b9, x66, x67, x68, x69, x70, x71, x72, x73, x7, x8, gP, ga, ca, gR, gb, cb, rfl, rfl, hb, cd0, cd1, cd2, cd3, cd4, cd5, cd6, cd7, cd8, cd9, f_vp, f_vq, f_rx, f_ry, f_ra0, f_ra1, f_rb0, f_rb1, f_ip, f_iq, f_s8, f_s9, f_o8, f_o9, f_nab, f_na, f_nb, w_8_3, w_9_7⟩ hf hd
                        have hf' : b4 = false := hf
                        subst hf'
                        clear hf hd
                        have e9 : b9 = false := by cases hq : b9 with | false => rfl | true => exact absurd (f_o9.out hq) (by simp)
                        subst e9
                        have q9 := f_s9.out rfl
                        subst q9
                        have W_vp := f_vp.out
                        have W_vq := f_vq.out
                        have W_rx := f_rx.out
                        have W_ry := f_ry.out
                        have W_nab := f_nab.out
                        have W_na := f_na.out
                        have W_nb := f_nb.out
                        try simp only [List.setIfInBounds_toArray, List.set_cons_zero, List.set_cons_succ]
                        intro K hK
                        rw [if_pos (by rfl)]
                        go_simp
                        exact hK.out _ _ ⟨b0, b1, b2, b3, true, b5, b6, b7, b8, false, x66, x67, x68, x69, (.slice aoB nB cB), x71, x72, x73, x7, .slice aoB nB cB, gP, ga, ca, gR, gb, cb, (by simp only [Act.put, List.setIfInBounds_toArray, List.set_cons_zero, List.set_cons_succ]), (by simp only [Act.put, List.setIfInBounds_toArray, List.set_cons_zero, List.set_cons_succ]), hb, cd0, cd1, cd2, cd3, (fun _ => rfl), cd5, cd6, cd7, cd8, cd9, f_vp, f_vq, f_rx, f_ry, f_ra0, f_ra1, f_rb0, f_rb1, f_ip, f_iq, f_s8, f_s9, f_o8, (fun _ => rfl), f_nab, f_na, f_nb, w_8_3, w_9_7⟩
                      · rintro L a w ⟨b0, b1, b2, b3, b4, b5, b6, b7, b8, b9, x66, x67, x68, x69, x70, x71, x72, x73, x7, x8, gP, ga, ca, gR, gb, cb, rfl, rfl, hb, cd0, cd1, cd2, cd3, cd4, cd5, cd6, cd7, cd8, cd9, f_vp, f_vq, f_rx, f_ry, f_ra0, f_ra1, f_rb0, f_rb1, f_ip, f_iq, f_s8, f_s9, f_o8, f_o9, f_nab, f_na, f_nb, w_8_3, w_9_7⟩ hf hd
                        have hf' : b5 = false := hf
                        subst hf'
                        clear hf hd
                        have W_vp := f_vp.out
                        have W_vq := f_vq.out
                        have W_rx := f_rx.out
                        have W_ry := f_ry.out
                        have W_nab := f_nab.out
                        have W_na := f_na.out
                        have W_nb := f_nb.out
                        try simp only [List.setIfInBounds_toArray, List.set_cons_zero, List.set_cons_succ]
                        obtain ⟨z0, z1, z2, -, -, -, -⟩ := W_vq
                        intro K hK
                        rw [if_pos (by rfl)]
                        go_simp
                        exact hK.out _ _ ⟨b0, b1, b2, b3, b4, true, b6, b7, b8, b9, x66, x67, x68, x69, x70, (vv KQ NQ SQ), x72, x73, x7, x8, gP, ga, ca, gR, gb, cb, (by simp only [Act.put, List.setIfInBounds_toArray, List.set_cons_zero, List.set_cons_succ]), (by simp only [Act.put, List.setIfInBounds_toArray, List.set_cons_zero, List.set_cons_succ]), hb, cd0, cd1, cd2, cd3, cd4, (fun _ => rfl), cd6, cd7, cd8, cd9, f_vp, f_vq, f_rx, f_ry, f_ra0, f_ra1, f_rb0, f_rb1, f_ip, f_iq, f_s8, f_s9, f_o8, f_o9, f_nab, f_na, f_nb, w_8_3, w_9_7⟩
                      · rintro L a w ⟨b0, b1, b2, b3, b4, b5, b6, b7, b8, b9, x66, x67, x68, x69, x70, x71, x72, x73, x7, x8, gP, ga, ca, gR, gb, cb, rfl, rfl, hb, cd0, cd1, cd2, cd3, cd4, cd5, cd6, cd7, cd8, cd9, f_vp, f_vq, f_rx, f_ry, f_ra0, f_ra1, f_rb0, f_rb1, f_ip, f_iq, f_s8, f_s9, f_o8, f_o9, f_nab, f_na, f_nb, w_8_3, w_9_7⟩ hf hd
                        have hf' : b6 = false := hf
                        subst hf'
                        have d5 : b5 = true := hd ⟨5, .data⟩ (by simp) rfl
                        subst d5
                        have d3 : b3 = true := hd ⟨3, .chain⟩ (by simp) rfl
                        subst d3
                        obtain rfl := cd5.out rfl
                        obtain rfl := cd3.out rfl
                        clear hf hd
                        have W_vp := f_vp.out
                        have W_vq := f_vq.out
                        have W_rx := f_rx.out
                        have W_ry := f_ry.out
                        have W_ra1 := f_ra1.out rfl
                        have W_nab := f_nab.out
                        have W_na := f_na.out
                        have W_nb := f_nb.out
                        try simp only [List.setIfInBounds_toArray, List.set_cons_zero, List.set_cons_succ]
                        intro K hK
                        rw [if_pos (by rfl)]
                        go_simp
                        go_at_call 21
                        refine (HR _).mono ?_
                        rintro e wn ⟨g', rfl, i2, bx, q2⟩
                        exact hK.out _ _ ⟨b0, b1, b2, true, b4, true, true, b7, b8, b9, x66, x67, x68, .slice (some ⟨ga, 0, none⟩) (nA + (keyB ⟨KX, NX, SX⟩).length) ca, x70, vv KQ NQ SQ, (.slice (some ⟨g', 0, none⟩) (keyB ⟨KQ, NQ, SQ⟩).length (keyB ⟨KQ, NQ, SQ⟩).length), x73, x7, x8, gP, ga, ca, g', gb, cb, (by simp only [Act.put, List.setIfInBounds_toArray, List.set_cons_zero, List.set_cons_succ]), (by simp only [Act.put, List.setIfInBounds_toArray, List.set_cons_zero, List.set_cons_succ]), hb.trans (bx.mono (Nat.le_trans hB0 hb.size)), cd0, cd1, cd2, (fun _ => rfl), cd4, (fun _ => rfl), (fun _ => rfl), cd7, cd8, cd9, (f_vp.out.past bx), (f_vq.out.past bx), (f_rx.out.past bx), (f_ry.out.past bx), (fun h => by cases h), (fun h0 => (f_ra1.out h0).past bx), (fun h1 => (f_rb0.out h1).past bx), (fun h0 => (f_rb1.out h0).past bx), (fun _ h => by cases h), (fun _ _ => ⟨i2, Nat.le_trans hb.size q2⟩), f_s8, f_s9, f_o8, f_o9, f_nab, f_na, f_nb, (fun _ => rfl), w_9_7⟩
                      · rintro L a w ⟨b0, b1, b2, b3, b4, b5, b6, b7, b8, b9, x66, x67, x68, x69, x70, x71, x72, x73, x7, x8, gP, ga, ca, gR, gb, cb, rfl, rfl, hb, cd0, cd1, cd2, cd3, cd4, cd5, cd6, cd7, cd8, cd9, f_vp, f_vq, f_rx, f_ry, f_ra0, f_ra1, f_rb0, f_rb1, f_ip, f_iq, f_s8, f_s9, f_o8, f_o9, f_nab, f_na, f_nb, w_8_3, w_9_7⟩ hf hd
                        have hf' : b7 = false := hf
                        subst hf'
                        have d4 : b4 = true := hd ⟨4, .data⟩ (by simp) rfl
                        subst d4
                        have d6 : b6 = true := hd ⟨6, .data⟩ (by simp) rfl
                        subst d6
                        obtain rfl := cd4.out rfl
                        obtain rfl := cd6.out rfl
                        clear hf hd
                        have W_vp := f_vp.out
                        have W_vq := f_vq.out
                        have W_rx := f_rx.out
                        have W_ry := f_ry.out
                        have W_rb0 := f_rb0.out rfl
                        have W_iq := f_iq.out rfl rfl
                        have W_nab := f_nab.out
                        have W_na := f_na.out
                        have W_nb := f_nb.out
                        try simp only [List.setIfInBounds_toArray, List.set_cons_zero, List.set_cons_succ]
                        intro K hK
                        rw [if_pos (by rfl)]
                        have ltO : ∀ z, blk (bif b3 then some ⟨ga, 0, none⟩ else aoA) = some z → z < w.heap.size := by cases hq : b3 with | false => exact (f_ra0.out hq).lt | true => exact (f_ra1.out hq).lt
                        refine wp_append_r _ _ _ _ rfl rowTyB rfl W_rb0 (Nat.le_trans hB0 hb.size) _ rfl (keyB ⟨KQ, NQ, SQ⟩).length (keyB ⟨KQ, NQ, SQ⟩) (by rw [EB_all]; exact W_iq.isB.src byteTy.ht) rfl hKR (nB + (keyB ⟨KQ, NQ, SQ⟩).length) rfl (LB ++ (keyB ⟨KQ, NQ, SQ⟩)) rfl hm2 fun g' c' wn o2 gr hg bw => ?_
                        have hb2 := hb.trans bw
                        have e_9 : b9 = false := by cases hq : b9 with | false => rfl | true => exact absurd (w_9_7.out hq) (by simp)
                        subst e_9
                        exact hK.out _ _ ⟨b0, b1, b2, b3, true, b5, true, true, b8, false, x66, x67, x68, x69, .slice aoB nB cB, x71, .slice (some ⟨gR, 0, none⟩) (keyB ⟨KQ, NQ, SQ⟩).length (keyB ⟨KQ, NQ, SQ⟩).length, (.slice (some ⟨g', 0, none⟩) (nB + (keyB ⟨KQ, NQ, SQ⟩).length) c'), x7, x8, gP, ga, ca, gR, g', c', (by simp only [Act.put, List.setIfInBounds_toArray, List.set_cons_zero, List.set_cons_succ]), (by simp only [Act.put, List.setIfInBounds_toArray, List.set_cons_zero, List.set_cons_succ]), hb2, cd0, cd1, cd2, cd3, (fun _ => rfl), cd5, (fun _ => rfl), (fun _ => rfl), cd8, (fun h => by cases h), (f_vp.out.grown gr (nb0 gp sp).symm), (f_vq.out.grown gr (nb0 gq sq).symm), (f_rx.out.grown gr (fun z hz => nb0 z (sx z hz))), (f_ry.out.grown gr (fun z hz => nb0 z (sy z hz))), (fun h1 => (f_ra0.out h1).grown gr (fun z hz => nab0 z hz)), (fun h0 => (f_ra1.out h0).grown gr (fun z hz => f_nab.out z (by first | exact hz | (rw [h0]; exact hz)))), (fun h => by cases h), (fun _ => o2), (fun h0 h1 => (f_ip.out h0 h1).grown gr (fun z hz => hBlt z hz)), (fun _ h => by cases h), f_s8, f_s9, f_o8, f_o9, (nab_next' f_nab.out ltO hg), f_na, (na_next nb0 (fun z hz => Nat.lt_of_lt_of_le (hSlt z hz) hb.size) hg), w_8_3, (fun _ => rfl)⟩
                      · rintro L a w ⟨b0, b1, b2, b3, b4, b5, b6, b7, b8, b9, x66, x67, x68, x69, x70, x71, x72, x73, x7, x8, gP, ga, ca, gR, gb, cb, rfl, rfl, hb, cd0, cd1, cd2, cd3, cd4, cd5, cd6, cd7, cd8, cd9, f_vp, f_vq, f_rx, f_ry, f_ra0, f_ra1, f_rb0, f_rb1, f_ip, f_iq, f_s8, f_s9, f_o8, f_o9, f_nab, f_na, f_nb, w_8_3, w_9_7⟩ hf hd
                        have hf' : b8 = false := hf
                        subst hf'
                        have d3 : b3 = true := hd ⟨3, .data⟩ (by simp) rfl
                        subst d3
                        have d7 : b7 = true := hd ⟨7, .chain⟩ (by simp) rfl
                        subst d7
                        have d0 : b0 = true := hd ⟨0, .phase⟩ (by simp) rfl
                        subst d0
                        have d1 : b1 = true := hd ⟨1, .phase⟩ (by simp) rfl
                        subst d1
                        have d2 : b2 = true := hd ⟨2, .phase⟩ (by simp) rfl
                        subst d2
                        obtain rfl := cd3.out rfl
                        obtain rfl := cd7.out rfl
                        obtain rfl := cd0.out rfl
                        obtain rfl := cd1.out rfl
                        obtain rfl := cd2.out rfl
                        clear hf hd
                        have W_vp := f_vp.out
                        have W_vq := f_vq.out
                        have W_rx := f_rx.out
                        have W_ry := f_ry.out
                        have W_ra1 := f_ra1.out rfl
                        have W_rb1 := f_rb1.out rfl
                        have W_s8 := f_s8.out rfl
                        have W_nab := f_nab.out
                        have W_na := f_na.out
                        have W_nb := f_nb.out
                        try simp only [List.setIfInBounds_toArray, List.set_cons_zero, List.set_cons_succ]
                        intro K hK
                        rw [if_pos (by rfl)]
                        go_simp
                        exact hK.out _ _ ⟨true, true, true, true, b4, b5, b6, true, true, b9, .slice aoA nA cA, vv KX NX SX, .slice (some ⟨gP, 0, none⟩) (keyB ⟨KX, NX, SX⟩).length (keyB ⟨KX, NX, SX⟩).length, .slice (some ⟨ga, 0, none⟩) (nA + (keyB ⟨KX, NX, SX⟩).length) ca, x70, x71, x72, .slice (some ⟨gb, 0, none⟩) (nB + (keyB ⟨KQ, NQ, SQ⟩).length) cb, (.slice (some ⟨ga, 0, none⟩) (nA + (keyB ⟨KX, NX, SX⟩).length) ca), x8, gP, ga, ca, gR, gb, cb, (by simp only [Act.put, List.setIfInBounds_toArray, List.set_cons_zero, List.set_cons_succ]), (by simp only [Act.put, List.setIfInBounds_toArray, List.set_cons_zero, List.set_cons_succ]), hb, (fun _ => rfl), (fun _ => rfl), (fun _ => rfl), (fun _ => rfl), cd4, cd5, cd6, (fun _ => rfl), (fun _ => rfl), cd9, f_vp, f_vq, f_rx, f_ry, (fun h => by cases h), f_ra1, (fun h => by cases h), f_rb1, (fun _ h => by cases h), (fun _ h => by cases h), (fun h => by cases h), f_s9, (fun _ => rfl), f_o9, f_nab, f_na, f_nb, (fun _ => rfl), (fun _ => rfl)⟩
                      · rintro L a w ⟨b0, b1, b2, b3, b4, b5, b6, b7, b8, b9, x66, x67, x68, x69, x70, x71, x72, x73, x7, x8, gP, ga, ca, gR, gb, cb, rfl, rfl, hb, cd0, cd1, cd2, cd3, cd4, cd5, cd6, cd7, cd8, cd9, f_vp, f_vq, f_rx, f_ry, f_ra0, f_ra1, f_rb0, f_rb1, f_ip, f_iq, f_s8, f_s9, f_o8, f_o9, f_nab, f_na, f_nb, w_8_3, w_9_7⟩ hf hd
                        have hf' : b9 = false := hf
                        subst hf'
                        have d7 : b7 = true := hd ⟨7, .data⟩ (by simp) rfl
                        subst d7
                        have d8 : b8 = true := hd ⟨8, .chain⟩ (by simp) rfl
                        subst d8
                        have d0 : b0 = true := hd ⟨0, .phase⟩ (by simp) rfl
                        subst d0
                        have d1 : b1 = true := hd ⟨1, .phase⟩ (by simp) rfl
                        subst d1
                        have d2 : b2 = true := hd ⟨2, .phase⟩ (by simp) rfl
                        subst d2
                        have d3 : b3 = true := hd ⟨3, .phase⟩ (by simp) rfl
                        subst d3
                        have d4 : b4 = true := hd ⟨4, .phase⟩ (by simp) rfl
                        subst d4
                        have d5 : b5 = true := hd ⟨5, .phase⟩ (by simp) rfl
                        subst d5
                        have d6 : b6 = true := hd ⟨6, .phase⟩ (by simp) rfl
                        subst d6
                        obtain rfl := cd7.out rfl
                        obtain rfl := cd8.out rfl
                        obtain rfl := cd0.out rfl
                        obtain rfl := cd1.out rfl
                        obtain rfl := cd2.out rfl
                        obtain rfl := cd3.out rfl
                        obtain rfl := cd4.out rfl
                        obtain rfl := cd5.out rfl
                        obtain rfl := cd6.out rfl
                        clear hf hd
                        have W_vp := f_vp.out
                        have W_vq := f_vq.out
                        have W_rx := f_rx.out
                        have W_ry := f_ry.out
                        have W_ra1 := f_ra1.out rfl
                        have W_rb1 := f_rb1.out rfl
                        have W_s9 := f_s9.out rfl
                        have W_o8 := f_o8.out rfl
                        have W_nab := f_nab.out
                        have W_na := f_na.out
                        have W_nb := f_nb.out
                        try simp only [List.setIfInBounds_toArray, List.set_cons_zero, List.set_cons_succ]
                        intro K hK
                        rw [if_pos (by rfl)]
                        go_simp
                        exact hK.out _ _ ⟨true, true, true, true, true, true, true, true, true, true, .slice aoA nA cA, vv KX NX SX, .slice (some ⟨gP, 0, none⟩) (keyB ⟨KX, NX, SX⟩).length (keyB ⟨KX, NX, SX⟩).length, .slice (some ⟨ga, 0, none⟩) (nA + (keyB ⟨KX, NX, SX⟩).length) ca, .slice aoB nB cB, vv KQ NQ SQ, .slice (some ⟨gR, 0, none⟩) (keyB ⟨KQ, NQ, SQ⟩).length (keyB ⟨KQ, NQ, SQ⟩).length, .slice (some ⟨gb, 0, none⟩) (nB + (keyB ⟨KQ, NQ, SQ⟩).length) cb, .slice (some ⟨ga, 0, none⟩) (nA + (keyB ⟨KX, NX, SX⟩).length) ca, (.slice (some ⟨gb, 0, none⟩) (nB + (keyB ⟨KQ, NQ, SQ⟩).length) cb), gP, ga, ca, gR, gb, cb, (by simp only [Act.put, List.setIfInBounds_toArray, List.set_cons_zero, List.set_cons_succ]), (by simp only [Act.put, List.setIfInBounds_toArray, List.set_cons_zero, List.set_cons_succ]), hb, (fun _ => rfl), (fun _ => rfl), (fun _ => rfl), (fun _ => rfl), (fun _ => rfl), (fun _ => rfl), (fun _ => rfl), (fun _ => rfl), (fun _ => rfl), (fun _ => rfl), f_vp, f_vq, f_rx, f_ry, (fun h => by cases h), f_ra1, (fun h => by cases h), f_rb1, (fun _ h => by cases h), (fun _ h => by cases h), (fun h => by cases h), (fun h => by cases h), f_o8, (fun _ => rfl), f_nab, f_na, f_nb, (fun _ => rfl), (fun _ => rfl)⟩
                    · rintro a w ⟨b0, b1, b2, b3, b4, b5, b6, b7, b8, b9, x66, x67, x68, x69, x70, x71, x72, x73, x7, x8, gP, ga, ca, gR, gb, cb, hL, rfl, hb, cd0, cd1, cd2, cd3, cd4, cd5, cd6, cd7, cd8, cd9, f_vp, f_vq, f_rx, f_ry, f_ra0, f_ra1, f_rb0, f_rb1, f_ip, f_iq, f_s8, f_s9, f_o8, f_o9, f_nab, f_na, f_nb, w_8_3, w_9_7⟩
                      have hL' : [true, true, true, true, true, true, true, true, true, true] = [b0, b1, b2, b3, b4, b5, b6, b7, b8, b9] := congrArg Array.toList hL
                      simp only [List.cons.injEq, and_true] at hL'
                      obtain ⟨rfl, rfl, rfl, rfl, rfl, rfl, rfl, rfl, rfl, rfl⟩ := hL'
                      obtain rfl := cd0.out rfl
                      obtain rfl := cd1.out rfl
                      obtain rfl := cd2.out rfl
                      obtain rfl := cd3.out rfl
                      obtain rfl := cd4.out rfl
                      obtain rfl := cd5.out rfl
                      obtain rfl := cd6.out rfl
                      obtain rfl := cd7.out rfl
                      obtain rfl := cd8.out rfl
                      obtain rfl := cd9.out rfl
                      have W_vp := f_vp.out
                      have W_vq := f_vq.out
                      have W_rx := f_rx.out
                      have W_ry := f_ry.out
                      have W_ra1 := f_ra1.out rfl
                      have W_rb1 := f_rb1.out rfl
                      have W_o8 := f_o8.out rfl
                      have W_o9 := f_o9.out rfl
                      have W_nab := f_nab.out
                      have W_na := f_na.out
                      have W_nb := f_nb.out
                      clear hL f_vp f_vq f_rx f_ry f_ra0 f_ra1 f_rb0 f_rb1 f_ip f_iq f_s8 f_s9 f_o8 f_o9 f_nab f_na f_nb cd0 cd1 cd2 cd3 cd4 cd5 cd6 cd7 cd8 cd9 w_8_3 w_9_7
                      simp only [List.setIfInBounds_toArray, List.set_cons_zero, List.set_cons_succ]
                      go_wp2_with fail
                      go_roundw
                      case rel => exact ⟨j + 1, some ⟨ga, 0, none⟩, _, ca, some ⟨gb, 0, none⟩, _, cb, some ⟨gx, 0, none⟩, cx, some ⟨gy, 0, none⟩, cy, by omega, by go_num, rfl, rfl, rfl, rfl, by rw [HE1.out, HE2.out, HXS.out, HXT.out]; exact ⟨W_ra1, W_rb1, W_rx, W_ry, W_nab, fun z hz e => W_na z (sx z e) hz, fun z hz e => W_na z (sy z e) hz, fun z hz e => W_nb z (sx z e) hz, fun z hz e => W_nb z (sy z e) hz, rxy⟩, hbc.trans hb⟩
                      case measure => simp [intOf]; omega
          · obtain rfl : j = n := by omega
            have j1 : ¬ ((j : Int) < j) := by omega
            go_wp2_with fail
            go_meet
            rw [List.take_of_length_le (by rw [hLn.out]; exact Nat.le_refl _)] at hR
            exact ⟨aoA, nA, cA, aoB, nB, cB, aoX, cX, aoY, cY, rfl, rfl, rfl, rfl, hR, hB⟩
      case rest =>
        obtain ⟨aoA, nA, cA, aoB, nB, cB, aoX, cX, aoY, cY, rfl, rfl, rfl, rfl, hR, hB⟩ := hcut
        have IA := isB_of_EB hR.a.isR
        have IB := isB_of_EB hR.b.isR
        have IX := hR.x.isR
        have IY := hR.y.isR
        have okLY : Hid (∀ v ∈ L.set k ⟨KY, NY, SY⟩, Vok v) := fun v hv => by
          rcases List.mem_or_eq_of_mem_set hv with h1 | rfl
          · exact okL.out v h1
          · exact okY.out
        have hLYn : Hid ((L.set k ⟨KY, NY, SY⟩).length = n) := by unfold Hid; rw [List.length_set]; exact hLn.out
        generalize L.set k ⟨KY, NY, SY⟩ = LY at IB IY okLY hLYn
        have FIN := Lib.hid (encK_cmp L LY (hLn.out.trans hLYn.out.symm) okL.out okLY.out)
        have LEA := encK_length L okL.out
        have LEB := encK_length LY okLY.out
        rw [hLn.out, IA.len] at LEA
        rw [hLYn.out, IB.len] at LEB
        replace B2 := B2.trans (hB.mono B2.size)
        clear hR hB t2 h2 HW HGv okY hLg
        obtain ⟨W, hW⟩ : ∃ W, W = cmpRow L LY := ⟨_, rfl⟩
        have HW := Lib.hid hW
        clear hW
        rw [← HW.out] at FIN
        go_upto_block 2 with fail
        go_cut [14] from 74 to 92 (fun v wx => v = .int .i64 W ∧ Below wc.heap.size wc wx)
        case first =>
          go_wp2_with fail
          go_loopw [14, 15] (fun v i wr => ∃ (j : Nat) (c : Int), j ≤ n ∧ i = .int .i64 (j : Nat) ∧ v = .int .i64 c ∧ (c = 0 ∨ c = W) ∧ Hid (c = 0 → W = cmpRow (L.drop j) (LY.drop j)) ∧ Below wc.heap.size wc wr) (fun _ i _ => n - (intOf i).toNat)
          case atStart => exact ⟨0, 0, by omega, rfl, rfl, .inl rfl, fun _ => HW.out, Below.refl _ _⟩
          case round =>
            obtain ⟨j, c, hj, rfl, rfl, hc0, hc, hB⟩ := hrel
            by_cases hlt : j < n
            · have j1 : (j : Int) < n := by omega
              by_cases hz : c = 0
              · subst hz
                obtain ⟨x, hx⟩ : ∃ x, L[j]? = some x := ⟨L[j]'(by rw [hLn.out]; exact hlt), List.getElem?_eq_getElem _⟩
                obtain ⟨y, hy⟩ : ∃ y, LY[j]? = some y := ⟨LY[j]'(by rw [hLYn.out]; exact hlt), List.getElem?_eq_getElem _⟩
                have hd := cmpRow_drop L LY j x y hx hy
                have okx := okL.out x (List.mem_of_getElem? hx)
                have oky := okLY.out y (List.mem_of_getElem? hy)
                obtain ⟨bX, offX, rfl, hbX, hcX⟩ := (IX.past hB).open (by omega) (by decide)
                obtain ⟨bY, offY, rfl, hbY, hcY⟩ := (IY.past hB).open (by omega) (by decide)
                obtain ⟨x0, x1, x2⟩ := cells_v hcX j x hx
                obtain ⟨y0, y1, y2⟩ := cells_v hcY j y hy
                obtain ⟨kx, nx, sx⟩ := x
                obtain ⟨ky, ny, sy⟩ := y
                have HC : ∀ w, Calls Try.prog 23 #[vv kx nx sx, vv ky ny sy] w fun e w' => e = .returned (.int .i64 (V.cmp ⟨kx, nx, sx⟩ ⟨ky, ny, sy⟩)) ∧ Below w.heap.size w w' := fun w => rcmp4_any _ _ _ _ _ _ w okx.val oky.val
                obtain ⟨c', hc'⟩ : ∃ c', c' = V.cmp ⟨kx, nx, sx⟩ ⟨ky, ny, sy⟩ := ⟨_, rfl⟩
                rw [← hc'] at HC hd
                have hn1 := Lib.hid (hc.out rfl)
                have hd' := Lib.hid hd
                simp only at x0 x1 x2 y0 y1 y2
                clear hc hd hc' hcX hcY hx hy okx oky
                go_wp2_with fail
                refine region_inv (KRows22 bX offX cX bY offY cY n j kx nx sx ky ny sy c') (by kernel_rfl) (by kernel_rfl) ?_ ?_ ?_
                · exact ⟨false, false, false, false, false, false, false, false, false, false, u84, u85, u86, u87, u88, u89, u90, u91, u92, .int .i64 0, rfl, (by simp only [Act.put, List.setIfInBounds_toArray, List.set_cons_zero, List.set_cons_succ]), Below.refl _ _, (fun h => by cases h), (fun h => by cases h), (fun h => by cases h), (fun h => by cases h), (fun h => by cases h), (fun h => by cases h), (fun h => by cases h), (fun h => by cases h), (fun h => by cases h), (fun h => by cases h)⟩
                · refine ⟨?_, ?_, ?_, ?_, ?_, ?_, ?_, ?_, ?_, ?_, trivial⟩
                  · rintro L a w ⟨b0, b1, b2, b3, b4, b5, b6, b7, b8, b9, x84, x85, x86, x87, x88, x89, x90, x91, x92, x14, rfl, rfl, hb, cd0, cd1, cd2, cd3, cd4, cd5, cd6, cd7, cd8, cd9⟩ hf hd
                    have hf' : b0 = false := hf
                    subst hf'
                    clear hf hd
                    try simp only [List.setIfInBounds_toArray, List.set_cons_zero, List.set_cons_succ]
                    intro K hK
                    rw [if_pos (by rfl)]
                    go_simp
                    exact hK.out _ _ ⟨true, b1, b2, b3, b4, b5, b6, b7, b8, b9, (.slice (some ⟨bX, offX, none⟩) n cX), x85, x86, x87, x88, x89, x90, x91, x92, x14, (by simp only [Act.put, List.setIfInBounds_toArray, List.set_cons_zero, List.set_cons_succ]), (by simp only [Act.put, List.setIfInBounds_toArray, List.set_cons_zero, List.set_cons_succ]), hb, (fun _ => rfl), cd1, cd2, cd3, cd4, cd5, cd6, cd7, cd8, cd9⟩
                  · rintro L a w ⟨b0, b1, b2, b3, b4, b5, b6, b7, b8, b9, x84, x85, x86, x87, x88, x89, x90, x91, x92, x14, rfl, rfl, hb, cd0, cd1, cd2, cd3, cd4, cd5, cd6, cd7, cd8, cd9⟩ hf hd
                    have hf' : b1 = false := hf
                    subst hf'
                    clear hf hd
                    try simp only [List.setIfInBounds_toArray, List.set_cons_zero, List.set_cons_succ]
                    intro K hK
                    rw [if_pos (by rfl)]
                    go_simp
                    exact hK.out _ _ ⟨b0, true, b2, b3, b4, b5, b6, b7, b8, b9, x84, (.int .i64 (j : Nat)), x86, x87, x88, x89, x90, x91, x92, x14, (by simp only [Act.put, List.setIfInBounds_toArray, List.set_cons_zero, List.set_cons_succ]), (by simp only [Act.put, List.setIfInBounds_toArray, List.set_cons_zero, List.set_cons_succ]), hb, cd0, (fun _ => rfl), cd2, cd3, cd4, cd5, cd6, cd7, cd8, cd9⟩
                  · rintro L a w ⟨b0, b1, b2, b3, b4, b5, b6, b7, b8, b9, x84, x85, x86, x87, x88, x89, x90, x91, x92, x14, rfl, rfl, hb, cd0, cd1, cd2, cd3, cd4, cd5, cd6, cd7, cd8, cd9⟩ hf hd
                    have hf' : b2 = false := hf
                    subst hf'
                    have d0 : b0 = true := hd ⟨0, .data⟩ (by simp) rfl
                    subst d0
                    have d1 : b1 = true := hd ⟨1, .data⟩ (by simp) rfl
                    subst d1
                    obtain rfl := cd0.out rfl
                    obtain rfl := cd1.out rfl
                    clear hf hd
                    try simp only [List.setIfInBounds_toArray, List.set_cons_zero, List.set_cons_succ]
                    intro K hK
                    rw [if_pos (by rfl)]
                    go_simp
                    exact hK.out _ _ ⟨true, true, true, b3, b4, b5, b6, b7, b8, b9, .slice (some ⟨bX, offX, none⟩) n cX, .int .i64 (j : Nat), (.pointer (some ⟨bX, offX + j * 3, none⟩)), x87, x88, x89, x90, x91, x92, x14, (by simp only [Act.put, List.setIfInBounds_toArray, List.set_cons_zero, List.set_cons_succ]), (by simp only [Act.put, List.setIfInBounds_toArray, List.set_cons_zero, List.set_cons_succ]), hb, (fun _ => rfl), (fun _ => rfl), (fun _ => rfl), cd3, cd4, cd5, cd6, cd7, cd8, cd9⟩
                  · rintro L a w ⟨b0, b1, b2, b3, b4, b5, b6, b7, b8, b9, x84, x85, x86, x87, x88, x89, x90, x91, x92, x14, rfl, rfl, hb, cd0, cd1, cd2, cd3, cd4, cd5, cd6, cd7, cd8, cd9⟩ hf hd
                    have hf' : b3 = false := hf
                    subst hf'
                    have d2 : b2 = true := hd ⟨2, .data⟩ (by simp) rfl
                    subst d2
                    obtain rfl := cd2.out rfl
                    clear hf hd
                    try simp only [List.setIfInBounds_toArray, List.set_cons_zero, List.set_cons_succ]
                    have z0 := cell_past (cell_past x0 (Below.refl _ wr).drew) hb
                    have z1 := cell_past (cell_past x1 (Below.refl _ wr).drew) hb
                    have z2 := cell_past (cell_past x2 (Below.refl _ wr).drew) hb
                    intro K hK
                    rw [if_pos (by rfl)]
                    go_simp
                    exact hK.out _ _ ⟨b0, b1, true, true, b4, b5, b6, b7, b8, b9, x84, x85, .pointer (some ⟨bX, offX + j * 3, none⟩), (vv kx nx sx), x88, x89, x90, x91, x92, x14, (by simp only [Act.put, List.setIfInBounds_toArray, List.set_cons_zero, List.set_cons_succ]), (by simp only [Act.put, List.setIfInBounds_toArray, List.set_cons_zero, List.set_cons_succ]), hb, cd0, cd1, (fun _ => rfl), (fun _ => rfl), cd4, cd5, cd6, cd7, cd8, cd9⟩
                  · rintro L a w ⟨b0, b1, b2, b3, b4, b5, b6, b7, b8, b9, x84, x85, x86, x87, x88, x89, x90, x91, x92, x14, rfl, rfl, hb, cd0, cd1, cd2, cd3, cd4, cd5, cd6, cd7, cd8, cd9⟩ hf hd
                    have hf' : b4 = false := hf
                    subst hf'
                    clear hf hd
                    try simp only [List.setIfInBounds_toArray, List.set_cons_zero, List.set_cons_succ]
                    intro K hK
                    rw [if_pos (by rfl)]
                    go_simp
                    exact hK.out _ _ ⟨b0, b1, b2, b3, true, b5, b6, b7, b8, b9, x84, x85, x86, x87, (.slice (some ⟨bY, offY, none⟩) n cY), x89, x90, x91, x92, x14, (by simp only [Act.put, List.setIfInBounds_toArray, List.set_cons_zero, List.set_cons_succ]), (by simp only [Act.put, List.setIfInBounds_toArray, List.set_cons_zero, List.set_cons_succ]), hb, cd0, cd1, cd2, cd3, (fun _ => rfl), cd5, cd6, cd7, cd8, cd9⟩
                  · rintro L a w ⟨b0, b1, b2, b3, b4, b5, b6, b7, b8, b9, x84, x85, x86, x87, x88, x89, x90, x91, x92, x14, rfl, rfl, hb, cd0, cd1, cd2, cd3, cd4, cd5, cd6, cd7, cd8, cd9⟩ hf hd
                    have hf' : b5 = false := hf
                    subst hf'
                    clear hf hd
                    try simp only [List.setIfInBounds_toArray, List.set_cons_zero, List.set_cons_succ]
                    intro K hK
                    rw [if_pos (by rfl)]
                    go_simp
                    exact hK.out _ _ ⟨b0, b1, b2, b3, b4, true, b6, b7, b8, b9, x84, x85, x86, x87, x88, (.int .i64 (j : Nat)), x90, x91, x92, x14, (by simp only [Act.put, List.setIfInBounds_toArray, List.set_cons_zero, List.set_cons_succ]), (by simp only [Act.put, List.setIfInBounds_toArray, List.set_cons_zero, List.set_cons_succ]), hb, cd0, cd1, cd2, cd3, cd4, (fun _ => rfl), cd6, cd7, cd8, cd9⟩
                  · rintro L a w ⟨b0, b1, b2, b3, b4, b5, b6, b7, b8, b9, x84, x85, x86, x87, x88, x89, x90, x91, x92, x14, rfl, rfl, hb, cd0, cd1, cd2, cd3, cd4, cd5, cd6, cd7, cd8, cd9⟩ hf hd
                    have hf' : b6 = false := hf
                    subst hf'
                    have d4 : b4 = true := hd ⟨4, .data⟩ (by simp) rfl
                    subst d4
                    have d5 : b5 = true := hd ⟨5, .data⟩ (by simp) rfl
                    subst d5
                    obtain rfl := cd4.out rfl
                    obtain rfl := cd5.out rfl
                    clear hf hd
                    try simp only [List.setIfInBounds_toArray, List.set_cons_zero, List.set_cons_succ]
                    intro K hK
                    rw [if_pos (by rfl)]
                    go_simp
                    exact hK.out _ _ ⟨b0, b1, b2, b3, true, true, true, b7, b8, b9, x84, x85, x86, x87, .slice (some ⟨bY, offY, none⟩) n cY, .int .i64 (j : Nat), (.pointer (some ⟨bY, offY + j * 3, none⟩)), x91, x92, x14, (by simp only [Act.put, List.setIfInBounds_toArray, List.set_cons_zero, List.set_cons_succ]), (by simp only [Act.put, List.setIfInBounds_toArray, List.set_cons_zero, List.set_cons_succ]), hb, cd0, cd1, cd2, cd3, (fun _ => rfl), (fun _ => rfl), (fun _ => rfl), cd7, cd8, cd9⟩
                  · rintro L a w ⟨b0, b1, b2, b3, b4, b5, b6, b7, b8, b9, x84, x85, x86, x87, x88, x89, x90, x91, x92, x14, rfl, rfl, hb, cd0, cd1, cd2, cd3, cd4, cd5, cd6, cd7, cd8, cd9⟩ hf hd
                    have hf' : b7 = false := hf
                    subst hf'
                    have d6 : b6 = true := hd ⟨6, .data⟩ (by simp) rfl
                    subst d6
                    obtain rfl := cd6.out rfl
                    clear hf hd
                    try simp only [List.setIfInBounds_toArray, List.set_cons_zero, List.set_cons_succ]
                    have z0 := cell_past (cell_past y0 (Below.refl _ wr).drew) hb
                    have z1 := cell_past (cell_past y1 (Below.refl _ wr).drew) hb
                    have z2 := cell_past (cell_past y2 (Below.refl _ wr).drew) hb
                    intro K hK
                    rw [if_pos (by rfl)]
                    go_simp
                    exact hK.out _ _ ⟨b0, b1, b2, b3, b4, b5, true, true, b8, b9, x84, x85, x86, x87, x88, x89, .pointer (some ⟨bY, offY + j * 3, none⟩), (vv ky ny sy), x92, x14, (by simp only [Act.put, List.setIfInBounds_toArray, List.set_cons_zero, List.set_cons_succ]), (by simp only [Act.put, List.setIfInBounds_toArray, List.set_cons_zero, List.set_cons_succ]), hb, cd0, cd1, cd2, cd3, cd4, cd5, (fun _ => rfl), (fun _ => rfl), cd8, cd9⟩
                  · rintro L a w ⟨b0, b1, b2, b3, b4, b5, b6, b7, b8, b9, x84, x85, x86, x87, x88, x89, x90, x91, x92, x14, rfl, rfl, hb, cd0, cd1, cd2, cd3, cd4, cd5, cd6, cd7, cd8, cd9⟩ hf hd
                    have hf' : b8 = false := hf
                    subst hf'
                    have d3 : b3 = true := hd ⟨3, .data⟩ (by simp) rfl
                    subst d3
                    have d7 : b7 = true := hd ⟨7, .data⟩ (by simp) rfl
                    subst d7
                    obtain rfl := cd3.out rfl
                    obtain rfl := cd7.out rfl
                    clear hf hd
                    try simp only [List.setIfInBounds_toArray, List.set_cons_zero, List.set_cons_succ]
                    intro K hK
                    rw [if_pos (by rfl)]
                    go_simp
                    go_at_call 23
                    refine (HC _).mono ?_
                    rintro e wn ⟨rfl, bx⟩
                    exact hK.out _ _ ⟨b0, b1, b2, true, b4, b5, b6, true, true, b9, x84, x85, x86, vv kx nx sx, x88, x89, x90, vv ky ny sy, (.int .i64 c'), x14, (by simp only [Act.put, List.setIfInBounds_toArray, List.set_cons_zero, List.set_cons_succ]), (by simp only [Act.put, List.setIfInBounds_toArray, List.set_cons_zero, List.set_cons_succ]), hb.trans (bx.mono hb.size), cd0, cd1, cd2, (fun _ => rfl), cd4, cd5, cd6, (fun _ => rfl), (fun _ => rfl), cd9⟩
                  · rintro L a w ⟨b0, b1, b2, b3, b4, b5, b6, b7, b8, b9, x84, x85, x86, x87, x88, x89, x90, x91, x92, x14, rfl, rfl, hb, cd0, cd1, cd2, cd3, cd4, cd5, cd6, cd7, cd8, cd9⟩ hf hd
                    have hf' : b9 = false := hf
                    subst hf'
                    have d8 : b8 = true := hd ⟨8, .data⟩ (by simp) rfl
                    subst d8
                    have d0 : b0 = true := hd ⟨0, .phase⟩ (by simp) rfl
                    subst d0
                    have d1 : b1 = true := hd ⟨1, .phase⟩ (by simp) rfl
                    subst d1
                    have d2 : b2 = true := hd ⟨2, .phase⟩ (by simp) rfl
                    subst d2
                    have d3 : b3 = true := hd ⟨3, .phase⟩ (by simp) rfl
                    subst d3
                    have d4 : b4 = true := hd ⟨4, .phase⟩ (by simp) rfl
                    subst d4
                    have d5 : b5 = true := hd ⟨5, .phase⟩ (by simp) rfl
                    subst d5
                    have d6 : b6 = true := hd ⟨6, .phase⟩ (by simp) rfl
                    subst d6
                    have d7 : b7 = true := hd ⟨7, .phase⟩ (by simp) rfl
                    subst d7
                    obtain rfl := cd8.out rfl
                    obtain rfl := cd0.out rfl
                    obtain rfl := cd1.out rfl
                    obtain rfl := cd2.out rfl
                    obtain rfl := cd3.out rfl
                    obtain rfl := cd4.out rfl
                    obtain rfl := cd5.out rfl
                    obtain rfl := cd6.out rfl
                    obtain rfl := cd7.out rfl
                    clear hf hd
                    try simp only [List.setIfInBounds_toArray, List.set_cons_zero, List.set_cons_succ]
                    intro K hK
                    rw [if_pos (by rfl)]
                    go_simp
                    exact hK.out _ _ ⟨true, true, true, true, true, true, true, true, true, true, .slice (some ⟨bX, offX, none⟩) n cX, .int .i64 (j : Nat), .pointer (some ⟨bX, offX + j * 3, none⟩), vv kx nx sx, .slice (some ⟨bY, offY, none⟩) n cY, .int .i64 (j : Nat), .pointer (some ⟨bY, offY + j * 3, none⟩), vv ky ny sy, .int .i64 c', (.int .i64 c'), (by simp only [Act.put, List.setIfInBounds_toArray, List.set_cons_zero, List.set_cons_succ]), (by simp only [Act.put, List.setIfInBounds_toArray, List.set_cons_zero, List.set_cons_succ]), hb, (fun _ => rfl), (fun _ => rfl), (fun _ => rfl), (fun _ => rfl), (fun _ => rfl), (fun _ => rfl), (fun _ => rfl), (fun _ => rfl), (fun _ => rfl), (fun _ => rfl)⟩
                · rintro a w ⟨b0, b1, b2, b3, b4, b5, b6, b7, b8, b9, x84, x85, x86, x87, x88, x89, x90, x91, x92, x14, hL, rfl, hb, cd0, cd1, cd2, cd3, cd4, cd5, cd6, cd7, cd8, cd9⟩
                  have hL' : [true, true, true, true, true, true, true, true, true, true] = [b0, b1, b2, b3, b4, b5, b6, b7, b8, b9] := congrArg Array.toList hL
                  simp only [List.cons.injEq, and_true] at hL'
                  obtain ⟨rfl, rfl, rfl, rfl, rfl, rfl, rfl, rfl, rfl, rfl⟩ := hL'
                  obtain rfl := cd0.out rfl
                  obtain rfl := cd1.out rfl
                  obtain rfl := cd2.out rfl
                  obtain rfl := cd3.out rfl
                  obtain rfl := cd4.out rfl
                  obtain rfl := cd5.out rfl
                  obtain rfl := cd6.out rfl
                  obtain rfl := cd7.out rfl
                  obtain rfl := cd8.out rfl
                  obtain rfl := cd9.out rfl
                  clear hL
                  simp only [List.setIfInBounds_toArray, List.set_cons_zero, List.set_cons_succ]
                  have BE := hB.trans (((Below.refl wr.heap.size wr).drew.trans (hb.mono (Nat.le_refl _))).mono hB.size)
                  go_wp2_with fail
                  go_roundw
                  case rel =>
                    refine ⟨j + 1, c', by omega, by go_num, rfl, ?_, ?_, BE⟩
                    · by_cases hz : c' = 0
                      · exact .inl hz
                      · right
                        rw [hn1.out, hd'.out]
                        unfold or2
                        rw [if_neg hz]
                    · intro hz
                      rw [hn1.out, hd'.out]
                      unfold or2
                      rw [if_pos hz]
                  case measure => simp [intOf]; omega
              · have hz1 : (c == 0) = false := by simpa using hz
                have hz2 : decide (c = 0) = false := decide_eq_false hz
                go_wp2_with fail
                go_meet
                exact ⟨by rw [hc0.resolve_left hz], hB⟩
            · have j1 : ¬ ((j : Int) < n) := by omega
              obtain rfl : j = n := by omega
              have e : c = W := by
                rcases hc0 with rfl | e
                · have := hc.out rfl
                  rw [List.drop_eq_nil_of_le (by rw [hLn.out]; exact Nat.le_refl _)] at this
                  rw [this]
                  rfl
                · exact e
              have hE := Lib.hid e
              clear hc0 hc e
              go_wp2_with fail
              go_meet
              exact ⟨by rw [hE.out], hB⟩
        case rest =>
          obtain ⟨rfl, b3⟩ := hcut
          replace IA := IA.past b3
          replace IB := IB.past b3
          replace IX := IX.past b3
          replace B2 := B2.trans (b3.mono B2.size)
          clear IY b3 HW
          go_upto_block 4 with fail
          go_cut [7] from 93 to 123 (fun v wx => ∃ (ao : Option Addr) (c : Nat), v = .slice ao 0 c ∧ Below wc.heap.size wc wx)
          case first =>
            go_wp2_with fail
            go_loopw [7, 16] (fun v i wr => ∃ (j : Nat) (ao : Option Addr) (na ca : Nat), j ≤ n ∧ i = .int .i64 (j : Nat) ∧ v = .slice ao na ca ∧ IsB wr ao na ca (encK (L.drop j)) ∧ Below wc.heap.size wc wr) (fun _ i _ => n - (intOf i).toNat)
            case atStart => exact ⟨0, aoA, nA, cA, by omega, rfl, rfl, IA, Below.refl _ _⟩
            case round =>
              obtain ⟨j, aoR, na, ca, hj, rfl, rfl, hI, hB⟩ := hrel
              by_cases hlt : j < n
              · have j1 : (j : Int) < n := by omega
                obtain ⟨x, hx⟩ : ∃ x, L[j]? = some x := ⟨L[j]'(by rw [hLn.out]; exact hlt), List.getElem?_eq_getElem _⟩
                have okx := okL.out x (List.mem_of_getElem? hx)
                have hE := encK_drop L j x hx
                rw [hE] at hI
                have hlen := hI.len
                have hna : na ≤ 1600 := by
                  rw [← hlen, ← hE]
                  have := encK_length (L.drop j) (fun v hv => okL.out v (List.mem_of_mem_drop hv))
                  rw [List.length_drop, hLn.out] at this
                  omega
                rw [List.length_append] at hlen
                obtain ⟨bX, offX, rfl, hbX, hcX⟩ := (IX.past hB).open (by omega) (by decide)
                obtain ⟨x0, x1, x2⟩ := cells_v hcX j x hx
                have hkl := key_len x okx
                have HP := keyParse_any x okx aoR na ca (encK (L.drop (j + 1))) wr hI (by omega)
                obtain ⟨kx, nx, sx⟩ := x
                simp only [V.val] at x0 x1 x2 HP
                obtain ⟨ao2, hrun, hI2, -⟩ := IsB_cut (P := Try.prog) hI (by kernel_rfl) elemB (keyB ⟨kx, nx, sx⟩).length (by omega)
                rw [List.drop_left] at hI2
                have EV0 := fun w => run_neq_val kx nx sx kx nx sx w
                rw [show eqV kx nx sx kx nx sx = true by simp [eqV]] at EV0
                generalize (keyB ⟨kx, nx, sx⟩).length = kl at *
                have hkn : (kl : Int) ≤ na := by omega
                have hkn2 : ¬ ((na : Int) < kl) := by omega
                have hkn3 : decide ((na : Int) < kl) = false := decide_eq_false hkn2
                have hkn4 : kl ≤ na := by omega
                have hkn5 : ¬ (na < kl) := by omega
                have hkn6 : decide (na < kl) = false := decide_eq_false hkn5
                clear hcX hx hE okx hlen
                go_wp2_with (go_at_call 24; (with_reducible refine HP.mono ?_); rintro e w5 ⟨rfl, b5⟩; have t6 := VAt.new w5 kx nx sx; have C6 := b5.trans (((Below.refl w5.heap.size w5).alloc (Nat.le_refl _) (.cells #[.int .i64 kx, .int .i64 nx, .string sx] 39)).mono b5.size); have X0 := cell_past x0 C6; have X1 := cell_past x1 C6; have X2 := cell_past x2 C6; have I6 := hI2.past C6)
                generalize w5.alloc (.cells #[.int .i64 kx, .int .i64 nx, .string sx] 39) = w6 at t6 C6 X0 X1 X2 I6 ⊢
                generalize w5.heap.size = g6 at t6 ⊢
                have va := t6.drew
                have Z0 := cell_past X0 (Below.refl _ w6).drew
                have Z1 := cell_past X1 (Below.refl _ w6).drew
                have Z2 := cell_past X2 (Below.refl _ w6).drew
                clear X0 X1 X2 x0 x1 x2 t6 HP b5 hI
                refine region_inv (KRows27 bX offX cX n j kx nx sx kl aoR na ca) (by kernel_rfl) (by kernel_rfl) ?_ ?_ ?_
                · exact ⟨false, false, false, false, false, false, false, false, false, false, false, false, false, false, false, false, u105, u106, u107, u108, u109, u110, u111, u112, u113, u114, u115, u116, u117, u118, u119, u120, rfl, (by simp only [Act.put, List.setIfInBounds_toArray, List.set_cons_zero, List.set_cons_succ]), Below.refl _ _, (fun h => by cases h), (fun h => by cases h), (fun h => by cases h), (fun h => by cases h), (fun h => by cases h), (fun h => by cases h), (fun h => by cases h), (fun h => by cases h), (fun h => by cases h), (fun h => by cases h), (fun h => by cases h), (fun h => by cases h), (fun h => by cases h), (fun h => by cases h), (fun h => by cases h), (fun h => by cases h)⟩
                · refine ⟨?_, ?_, ?_, ?_, ?_, ?_, ?_, ?_, ?_, ?_, ?_, ?_, ?_, ?_, ?_, ?_, trivial⟩
                  · rintro L a w ⟨b0, b1, b2, b3, b4, b5, b6, b7, b8, b9, b10, b11, b12, b13, b14, b15, x105, x106, x107, x108, x109, x110, x111, x112, x113, x114, x115, x116, x117, x118, x119, x120, rfl, rfl, hb, cd0, cd1, cd2, cd3, cd4, cd5, cd6, cd7, cd8, cd9, cd10, cd11, cd12, cd13, cd14, cd15⟩ hf hd
                    have hf' : b0 = false := hf
                    subst hf'
                    clear hf hd
                    try simp only [List.setIfInBounds_toArray, List.set_cons_zero, List.set_cons_succ]
                    intro K hK
                    rw [if_pos (by rfl)]
                    go_simp
                    exact hK.out _ _ ⟨true, b1, b2, b3, b4, b5, b6, b7, b8, b9, b10, b11, b12, b13, b14, b15, (.int .i64 0), x106, x107, x108, x109, x110, x111, x112, x113, x114, x115, x116, x117, x118, x119, x120, (by simp only [Act.put, List.setIfInBounds_toArray, List.set_cons_zero, List.set_cons_succ]), (by simp only [Act.put, List.setIfInBounds_toArray, List.set_cons_zero, List.set_cons_succ]), hb, (fun _ => rfl), cd1, cd2, cd3, cd4, cd5, cd6, cd7, cd8, cd9, cd10, cd11, cd12, cd13, cd14, cd15⟩
                  · rintro L a w ⟨b0, b1, b2, b3, b4, b5, b6, b7, b8, b9, b10, b11, b12, b13, b14, b15, x105, x106, x107, x108, x109, x110, x111, x112, x113, x114, x115, x116, x117, x118, x119, x120, rfl, rfl, hb, cd0, cd1, cd2, cd3, cd4, cd5, cd6, cd7, cd8, cd9, cd10, cd11, cd12, cd13, cd14, cd15⟩ hf hd
                    have hf' : b1 = false := hf
                    subst hf'
                    have d0 : b0 = true := hd ⟨0, .data⟩ (by simp) rfl
                    subst d0
                    obtain rfl := cd0.out rfl
                    clear hf hd
                    try simp only [List.setIfInBounds_toArray, List.set_cons_zero, List.set_cons_succ]
                    intro K hK
                    rw [if_pos (by rfl)]
                    go_simp
                    exact hK.out _ _ ⟨true, true, b2, b3, b4, b5, b6, b7, b8, b9, b10, b11, b12, b13, b14, b15, .int .i64 0, (.bool false), x107, x108, x109, x110, x111, x112, x113, x114, x115, x116, x117, x118, x119, x120, (by simp only [Act.put, List.setIfInBounds_toArray, List.set_cons_zero, List.set_cons_succ]), (by simp only [Act.put, List.setIfInBounds_toArray, List.set_cons_zero, List.set_cons_succ]), hb, (fun _ => rfl), (fun _ => rfl), cd2, cd3, cd4, cd5, cd6, cd7, cd8, cd9, cd10, cd11, cd12, cd13, cd14, cd15⟩
                  · rintro L a w ⟨b0, b1, b2, b3, b4, b5, b6, b7, b8, b9, b10, b11, b12, b13, b14, b15, x105, x106, x107, x108, x109, x110, x111, x112, x113, x114, x115, x116, x117, x118, x119, x120, rfl, rfl, hb, cd0, cd1, cd2, cd3, cd4, cd5, cd6, cd7, cd8, cd9, cd10, cd11, cd12, cd13, cd14, cd15⟩ hf hd
                    have hf' : b2 = false := hf
                    subst hf'
                    have d1 : b1 = true := hd ⟨1, .data⟩ (by simp) rfl
                    subst d1
                    obtain rfl := cd1.out rfl
                    clear hf hd
                    try simp only [List.setIfInBounds_toArray, List.set_cons_zero, List.set_cons_succ]
                    intro K hK
                    rw [if_pos (by rfl)]
                    go_simp
                    exact hK.out _ _ ⟨b0, true, true, b3, b4, b5, b6, b7, b8, b9, b10, b11, b12, b13, b14, b15, x105, .bool false, (.bool false), x108, x109, x110, x111, x112, x113, x114, x115, x116, x117, x118, x119, x120, (by simp only [Act.put, List.setIfInBounds_toArray, List.set_cons_zero, List.set_cons_succ]), (by simp only [Act.put, List.setIfInBounds_toArray, List.set_cons_zero, List.set_cons_succ]), hb, cd0, (fun _ => rfl), (fun _ => rfl), cd3, cd4, cd5, cd6, cd7, cd8, cd9, cd10, cd11, cd12, cd13, cd14, cd15⟩
                  · rintro L a w ⟨b0, b1, b2, b3, b4, b5, b6, b7, b8, b9, b10, b11, b12, b13, b14, b15, x105, x106, x107, x108, x109, x110, x111, x112, x113, x114, x115, x116, x117, x118, x119, x120, rfl, rfl, hb, cd0, cd1, cd2, cd3, cd4, cd5, cd6, cd7, cd8, cd9, cd10, cd11, cd12, cd13, cd14, cd15⟩ hf hd
                    have hf' : b3 = false := hf
                    subst hf'
                    have d2 : b2 = true := hd ⟨2, .guard⟩ (by simp) rfl
                    subst d2
                    obtain rfl := cd2.out rfl
                    clear hf hd
                    try simp only [List.setIfInBounds_toArray, List.set_cons_zero, List.set_cons_succ]
                    have z := va.past hb
                    obtain ⟨z0, z1, z2, -, -, -, -⟩ := z
                    intro K hK
                    rw [if_pos (by rfl)]
                    go_simp
                    exact hK.out _ _ ⟨b0, b1, true, true, b4, b5, b6, b7, b8, b9, b10, b11, b12, b13, b14, b15, x105, x106, .bool false, (vv kx nx sx), x109, x110, x111, x112, x113, x114, x115, x116, x117, x118, x119, x120, (by simp only [Act.put, List.setIfInBounds_toArray, List.set_cons_zero, List.set_cons_succ]), (by simp only [Act.put, List.setIfInBounds_toArray, List.set_cons_zero, List.set_cons_succ]), hb, cd0, cd1, (fun _ => rfl), (fun _ => rfl), cd4, cd5, cd6, cd7, cd8, cd9, cd10, cd11, cd12, cd13, cd14, cd15⟩
                  · rintro L a w ⟨b0, b1, b2, b3, b4, b5, b6, b7, b8, b9, b10, b11, b12, b13, b14, b15, x105, x106, x107, x108, x109, x110, x111, x112, x113, x114, x115, x116, x117, x118, x119, x120, rfl, rfl, hb, cd0, cd1, cd2, cd3, cd4, cd5, cd6, cd7, cd8, cd9, cd10, cd11, cd12, cd13, cd14, cd15⟩ hf hd
                    have hf' : b4 = false := hf
                    subst hf'
                    have d2 : b2 = true := hd ⟨2, .guard⟩ (by simp) rfl
                    subst d2
                    obtain rfl := cd2.out rfl
                    clear hf hd
                    try simp only [List.setIfInBounds_toArray, List.set_cons_zero, List.set_cons_succ]
                    intro K hK
                    rw [if_pos (by rfl)]
                    go_simp
                    exact hK.out _ _ ⟨b0, b1, true, b3, true, b5, b6, b7, b8, b9, b10, b11, b12, b13, b14, b15, x105, x106, .bool false, x108, (.slice (some ⟨bX, offX, none⟩) n cX), x110, x111, x112, x113, x114, x115, x116, x117, x118, x119, x120, (by simp only [Act.put, List.setIfInBounds_toArray, List.set_cons_zero, List.set_cons_succ]), (by simp only [Act.put, List.setIfInBounds_toArray, List.set_cons_zero, List.set_cons_succ]), hb, cd0, cd1, (fun _ => rfl), cd3, (fun _ => rfl), cd5, cd6, cd7, cd8, cd9, cd10, cd11, cd12, cd13, cd14, cd15⟩
                  · rintro L a w ⟨b0, b1, b2, b3, b4, b5, b6, b7, b8, b9, b10, b11, b12, b13, b14, b15, x105, x106, x107, x108, x109, x110, x111, x112, x113, x114, x115, x116, x117, x118, x119, x120, rfl, rfl, hb, cd0, cd1, cd2, cd3, cd4, cd5, cd6, cd7, cd8, cd9, cd10, cd11, cd12, cd13, cd14, cd15⟩ hf hd
                    have hf' : b5 = false := hf
                    subst hf'
                    have d2 : b2 = true := hd ⟨2, .guard⟩ (by simp) rfl
                    subst d2
                    obtain rfl := cd2.out rfl
                    clear hf hd
                    try simp only [List.setIfInBounds_toArray, List.set_cons_zero, List.set_cons_succ]
                    intro K hK
                    rw [if_pos (by rfl)]
                    go_simp
                    exact hK.out _ _ ⟨b0, b1, true, b3, b4, true, b6, b7, b8, b9, b10, b11, b12, b13, b14, b15, x105, x106, .bool false, x108, x109, (.int .i64 (j : Nat)), x111, x112, x113, x114, x115, x116, x117, x118, x119, x120, (by simp only [Act.put, List.setIfInBounds_toArray, List.set_cons_zero, List.set_cons_succ]), (by simp only [Act.put, List.setIfInBounds_toArray, List.set_cons_zero, List.set_cons_succ]), hb, cd0, cd1, (fun _ => rfl), cd3, cd4, (fun _ => rfl), cd6, cd7, cd8, cd9, cd10, cd11, cd12, cd13, cd14, cd15⟩
                  · rintro L a w ⟨b0, b1, b2, b3, b4, b5, b6, b7, b8, b9, b10, b11, b12, b13, b14, b15, x105, x106, x107, x108, x109, x110, x111, x112, x113, x114, x115, x116, x117, x118, x119, x120, rfl, rfl, hb, cd0, cd1, cd2, cd3, cd4, cd5, cd6, cd7, cd8, cd9, cd10, cd11, cd12, cd13, cd14, cd15⟩ hf hd
                    have hf' : b6 = false := hf
                    subst hf'
                    have d4 : b4 = true := hd ⟨4, .data⟩ (by simp) rfl
                    subst d4
                    have d5 : b5 = true := hd ⟨5, .data⟩ (by simp) rfl
                    subst d5
                    have d2 : b2 = true := hd ⟨2, .guard⟩ (by simp) rfl
                    subst d2
                    obtain rfl := cd4.out rfl
                    obtain rfl := cd5.out rfl
                    obtain rfl := cd2.out rfl
                    clear hf hd
                    try simp only [List.setIfInBounds_toArray, List.set_cons_zero, List.set_cons_succ]
                    intro K hK
                    rw [if_pos (by rfl)]
                    go_simp
                    exact hK.out _ _ ⟨b0, b1, true, b3, true, true, true, b7, b8, b9, b10, b11, b12, b13, b14, b15, x105, x106, .bool false, x108, .slice (some ⟨bX, offX, none⟩) n cX, .int .i64 (j : Nat), (.pointer (some ⟨bX, offX + j * 3, none⟩)), x112, x113, x114, x115, x116, x117, x118, x119, x120, (by simp only [Act.put, List.setIfInBounds_toArray, List.set_cons_zero, List.set_cons_succ]), (by simp only [Act.put, List.setIfInBounds_toArray, List.set_cons_zero, List.set_cons_succ]), hb, cd0, cd1, (fun _ => rfl), cd3, (fun _ => rfl), (fun _ => rfl), (fun _ => rfl), cd7, cd8, cd9, cd10, cd11, cd12, cd13, cd14, cd15⟩
                  · rintro L a w ⟨b0, b1, b2, b3, b4, b5, b6, b7, b8, b9, b10, b11, b12, b13, b14, b15, x105, x106, x107, x108, x109, x110, x111, x112, x113, x114, x115, x116, x117, x118, x119, x120, rfl, rfl, hb, cd0, cd1, cd2, cd3, cd4, cd5, cd6, cd7, cd8, cd9, cd10, cd11, cd12, cd13, cd14, cd15⟩ hf hd
                    have hf' : b7 = false := hf
                    subst hf'
                    have d6 : b6 = true := hd ⟨6, .data⟩ (by simp) rfl
                    subst d6
                    have d2 : b2 = true := hd ⟨2, .guard⟩ (by simp) rfl
                    subst d2
                    obtain rfl := cd6.out rfl
                    obtain rfl := cd2.out rfl
                    clear hf hd
                    try simp only [List.setIfInBounds_toArray, List.set_cons_zero, List.set_cons_succ]
                    have z0 := cell_past Z0 hb
                    have z1 := cell_past Z1 hb
                    have z2 := cell_past Z2 hb
                    intro K hK
                    rw [if_pos (by rfl)]
                    go_simp
                    exact hK.out _ _ ⟨b0, b1, true, b3, b4, b5, true, true, b8, b9, b10, b11, b12, b13, b14, b15, x105, x106, .bool false, x108, x109, x110, .pointer (some ⟨bX, offX + j * 3, none⟩), (vv kx nx sx), x113, x114, x115, x116, x117, x118, x119, x120, (by simp only [Act.put, List.setIfInBounds_toArray, List.set_cons_zero, List.set_cons_succ]), (by simp only [Act.put, List.setIfInBounds_toArray, List.set_cons_zero, List.set_cons_succ]), hb, cd0, cd1, (fun _ => rfl), cd3, cd4, cd5, (fun _ => rfl), (fun _ => rfl), cd8, cd9, cd10, cd11, cd12, cd13, cd14, cd15⟩
                  · rintro L a w ⟨b0, b1, b2, b3, b4, b5, b6, b7, b8, b9, b10, b11, b12, b13, b14, b15, x105, x106, x107, x108, x109, x110, x111, x112, x113, x114, x115, x116, x117, x118, x119, x120, rfl, rfl, hb, cd0, cd1, cd2, cd3, cd4, cd5, cd6, cd7, cd8, cd9, cd10, cd11, cd12, cd13, cd14, cd15⟩ hf hd
                    have hf' : b8 = false := hf
                    subst hf'
                    have d3 : b3 = true := hd ⟨3, .data⟩ (by simp) rfl
                    subst d3
                    have d7 : b7 = true := hd ⟨7, .data⟩ (by simp) rfl
                    subst d7
                    have d2 : b2 = true := hd ⟨2, .guard⟩ (by simp) rfl
                    subst d2
                    obtain rfl := cd3.out rfl
                    obtain rfl := cd7.out rfl
                    obtain rfl := cd2.out rfl
                    clear hf hd
                    try simp only [List.setIfInBounds_toArray, List.set_cons_zero, List.set_cons_succ]
                    intro K hK
                    rw [if_pos (by rfl)]
                    go_simp
                    exact hK.out _ _ ⟨b0, b1, true, true, b4, b5, b6, true, true, b9, b10, b11, b12, b13, b14, b15, x105, x106, .bool false, vv kx nx sx, x109, x110, x111, vv kx nx sx, (.bool false), x114, x115, x116, x117, x118, x119, x120, (by simp only [Act.put, List.setIfInBounds_toArray, List.set_cons_zero, List.set_cons_succ]), (by simp only [Act.put, List.setIfInBounds_toArray, List.set_cons_zero, List.set_cons_succ]), hb, cd0, cd1, (fun _ => rfl), (fun _ => rfl), cd4, cd5, cd6, (fun _ => rfl), (fun _ => rfl), cd9, cd10, cd11, cd12, cd13, cd14, cd15⟩
                  · rintro L a w ⟨b0, b1, b2, b3, b4, b5, b6, b7, b8, b9, b10, b11, b12, b13, b14, b15, x105, x106, x107, x108, x109, x110, x111, x112, x113, x114, x115, x116, x117, x118, x119, x120, rfl, rfl, hb, cd0, cd1, cd2, cd3, cd4, cd5, cd6, cd7, cd8, cd9, cd10, cd11, cd12, cd13, cd14, cd15⟩ hf hd
                    have hf' : b9 = false := hf
                    subst hf'
                    have d2 : b2 = true := hd ⟨2, .data⟩ (by simp) rfl
                    subst d2
                    have d8 : b8 = true := hd ⟨8, .data⟩ (by simp) rfl
                    subst d8
                    obtain rfl := cd2.out rfl
                    obtain rfl := cd8.out rfl
                    clear hf hd
                    try simp only [List.setIfInBounds_toArray, List.set_cons_zero, List.set_cons_succ]
                    intro K hK
                    rw [if_pos (by rfl)]
                    go_simp
                    exact hK.out _ _ ⟨b0, b1, true, b3, b4, b5, b6, b7, true, true, b10, b11, b12, b13, b14, b15, x105, x106, .bool false, x108, x109, x110, x111, x112, .bool false, (.bool false), x115, x116, x117, x118, x119, x120, (by simp only [Act.put, List.setIfInBounds_toArray, List.set_cons_zero, List.set_cons_succ]), (by simp only [Act.put, List.setIfInBounds_toArray, List.set_cons_zero, List.set_cons_succ]), hb, cd0, cd1, (fun _ => rfl), cd3, cd4, cd5, cd6, cd7, (fun _ => rfl), (fun _ => rfl), cd10, cd11, cd12, cd13, cd14, cd15⟩
                  · rintro L a w ⟨b0, b1, b2, b3, b4, b5, b6, b7, b8, b9, b10, b11, b12, b13, b14, b15, x105, x106, x107, x108, x109, x110, x111, x112, x113, x114, x115, x116, x117, x118, x119, x120, rfl, rfl, hb, cd0, cd1, cd2, cd3, cd4, cd5, cd6, cd7, cd8, cd9, cd10, cd11, cd12, cd13, cd14, cd15⟩ hf hd
                    have hf' : b10 = false := hf
                    subst hf'
                    have d9 : b9 = true := hd ⟨9, .data⟩ (by simp) rfl
                    subst d9
                    have d2 : b2 = true := hd ⟨2, .chain⟩ (by simp) rfl
                    subst d2
                    obtain rfl := cd9.out rfl
                    obtain rfl := cd2.out rfl
                    clear hf hd
                    try simp only [List.setIfInBounds_toArray, List.set_cons_zero, List.set_cons_succ]
                    intro K hK
                    rw [if_pos (by rfl)]
                    go_simp
                    exact hK.out _ _ ⟨b0, b1, true, b3, b4, b5, b6, b7, b8, true, true, b11, b12, b13, b14, b15, x105, x106, .bool false, x108, x109, x110, x111, x112, x113, .bool false, (.bool false), x116, x117, x118, x119, x120, (by simp only [Act.put, List.setIfInBounds_toArray, List.set_cons_zero, List.set_cons_succ]), (by simp only [Act.put, List.setIfInBounds_toArray, List.set_cons_zero, List.set_cons_succ]), hb, cd0, cd1, (fun _ => rfl), cd3, cd4, cd5, cd6, cd7, cd8, (fun _ => rfl), (fun _ => rfl), cd11, cd12, cd13, cd14, cd15⟩
                  · rintro L a w ⟨b0, b1, b2, b3, b4, b5, b6, b7, b8, b9, b10, b11, b12, b13, b14, b15, x105, x106, x107, x108, x109, x110, x111, x112, x113, x114, x115, x116, x117, x118, x119, x120, rfl, rfl, hb, cd0, cd1, cd2, cd3, cd4, cd5, cd6, cd7, cd8, cd9, cd10, cd11, cd12, cd13, cd14, cd15⟩ hf hd
                    have hf' : b11 = false := hf
                    subst hf'
                    have d10 : b10 = true := hd ⟨10, .guard⟩ (by simp) rfl
                    subst d10
                    obtain rfl := cd10.out rfl
                    clear hf hd
                    try simp only [List.setIfInBounds_toArray, List.set_cons_zero, List.set_cons_succ]
                    intro K hK
                    rw [if_pos (by rfl)]
                    go_simp
                    exact hK.out _ _ ⟨b0, b1, b2, b3, b4, b5, b6, b7, b8, b9, true, true, b12, b13, b14, b15, x105, x106, x107, x108, x109, x110, x111, x112, x113, x114, .bool false, (.int .i64 (kl : Nat)), x117, x118, x119, x120, (by simp only [Act.put, List.setIfInBounds_toArray, List.set_cons_zero, List.set_cons_succ]), (by simp only [Act.put, List.setIfInBounds_toArray, List.set_cons_zero, List.set_cons_succ]), hb, cd0, cd1, cd2, cd3, cd4, cd5, cd6, cd7, cd8, cd9, (fun _ => rfl), (fun _ => rfl), cd12, cd13, cd14, cd15⟩
                  · rintro L a w ⟨b0, b1, b2, b3, b4, b5, b6, b7, b8, b9, b10, b11, b12, b13, b14, b15, x105, x106, x107, x108, x109, x110, x111, x112, x113, x114, x115, x116, x117, x118, x119, x120, rfl, rfl, hb, cd0, cd1, cd2, cd3, cd4, cd5, cd6, cd7, cd8, cd9, cd10, cd11, cd12, cd13, cd14, cd15⟩ hf hd
                    have hf' : b12 = false := hf
                    subst hf'
                    have d10 : b10 = true := hd ⟨10, .guard⟩ (by simp) rfl
                    subst d10
                    obtain rfl := cd10.out rfl
                    clear hf hd
                    try simp only [List.setIfInBounds_toArray, List.set_cons_zero, List.set_cons_succ]
                    intro K hK
                    rw [if_pos (by rfl)]
                    go_simp
                    exact hK.out _ _ ⟨b0, b1, b2, b3, b4, b5, b6, b7, b8, b9, true, b11, true, b13, b14, b15, x105, x106, x107, x108, x109, x110, x111, x112, x113, x114, .bool false, x116, (.slice aoR na ca), x118, x119, x120, (by simp only [Act.put, List.setIfInBounds_toArray, List.set_cons_zero, List.set_cons_succ]), (by simp only [Act.put, List.setIfInBounds_toArray, List.set_cons_zero, List.set_cons_succ]), hb, cd0, cd1, cd2, cd3, cd4, cd5, cd6, cd7, cd8, cd9, (fun _ => rfl), cd11, (fun _ => rfl), cd13, cd14, cd15⟩
                  · rintro L a w ⟨b0, b1, b2, b3, b4, b5, b6, b7, b8, b9, b10, b11, b12, b13, b14, b15, x105, x106, x107, x108, x109, x110, x111, x112, x113, x114, x115, x116, x117, x118, x119, x120, rfl, rfl, hb, cd0, cd1, cd2, cd3, cd4, cd5, cd6, cd7, cd8, cd9, cd10, cd11, cd12, cd13, cd14, cd15⟩ hf hd
                    have hf' : b13 = false := hf
                    subst hf'
                    have d12 : b12 = true := hd ⟨12, .data⟩ (by simp) rfl
                    subst d12
                    have d10 : b10 = true := hd ⟨10, .guard⟩ (by simp) rfl
                    subst d10
                    obtain rfl := cd12.out rfl
                    obtain rfl := cd10.out rfl
                    clear hf hd
                    try simp only [List.setIfInBounds_toArray, List.set_cons_zero, List.set_cons_succ]
                    intro K hK
                    rw [if_pos (by rfl)]
                    go_simp
                    exact hK.out _ _ ⟨b0, b1, b2, b3, b4, b5, b6, b7, b8, b9, true, b11, true, true, b14, b15, x105, x106, x107, x108, x109, x110, x111, x112, x113, x114, .bool false, x116, .slice aoR na ca, (.int .i64 (na : Nat)), x119, x120, (by simp only [Act.put, List.setIfInBounds_toArray, List.set_cons_zero, List.set_cons_succ]), (by simp only [Act.put, List.setIfInBounds_toArray, List.set_cons_zero, List.set_cons_succ]), hb, cd0, cd1, cd2, cd3, cd4, cd5, cd6, cd7, cd8, cd9, (fun _ => rfl), cd11, (fun _ => rfl), (fun _ => rfl), cd14, cd15⟩
                  · rintro L a w ⟨b0, b1, b2, b3, b4, b5, b6, b7, b8, b9, b10, b11, b12, b13, b14, b15, x105, x106, x107, x108, x109, x110, x111, x112, x113, x114, x115, x116, x117, x118, x119, x120, rfl, rfl, hb, cd0, cd1, cd2, cd3, cd4, cd5, cd6, cd7, cd8, cd9, cd10, cd11, cd12, cd13, cd14, cd15⟩ hf hd
                    have hf' : b14 = false := hf
                    subst hf'
                    have d11 : b11 = true := hd ⟨11, .data⟩ (by simp) rfl
                    subst d11
                    have d13 : b13 = true := hd ⟨13, .data⟩ (by simp) rfl
                    subst d13
                    have d10 : b10 = true := hd ⟨10, .guard⟩ (by simp) rfl
                    subst d10
                    obtain rfl := cd11.out rfl
                    obtain rfl := cd13.out rfl
                    obtain rfl := cd10.out rfl
                    clear hf hd
                    try simp only [List.setIfInBounds_toArray, List.set_cons_zero, List.set_cons_succ]
                    intro K hK
                    rw [if_pos (by rfl)]
                    go_simp
                    exact hK.out _ _ ⟨b0, b1, b2, b3, b4, b5, b6, b7, b8, b9, true, true, b12, true, true, b15, x105, x106, x107, x108, x109, x110, x111, x112, x113, x114, .bool false, .int .i64 (kl : Nat), x117, .int .i64 (na : Nat), (.bool false), x120, (by simp only [Act.put, List.setIfInBounds_toArray, List.set_cons_zero, List.set_cons_succ]), (by simp only [Act.put, List.setIfInBounds_toArray, List.set_cons_zero, List.set_cons_succ]), hb, cd0, cd1, cd2, cd3, cd4, cd5, cd6, cd7, cd8, cd9, (fun _ => rfl), (fun _ => rfl), cd12, (fun _ => rfl), (fun _ => rfl), cd15⟩
                  · rintro L a w ⟨b0, b1, b2, b3, b4, b5, b6, b7, b8, b9, b10, b11, b12, b13, b14, b15, x105, x106, x107, x108, x109, x110, x111, x112, x113, x114, x115, x116, x117, x118, x119, x120, rfl, rfl, hb, cd0, cd1, cd2, cd3, cd4, cd5, cd6, cd7, cd8, cd9, cd10, cd11, cd12, cd13, cd14, cd15⟩ hf hd
                    have hf' : b15 = false := hf
                    subst hf'
                    have d10 : b10 = true := hd ⟨10, .data⟩ (by simp) rfl
                    subst d10
                    have d14 : b14 = true := hd ⟨14, .data⟩ (by simp) rfl
                    subst d14
                    obtain rfl := cd10.out rfl
                    obtain rfl := cd14.out rfl
                    clear hf hd
                    try simp only [List.setIfInBounds_toArray, List.set_cons_zero, List.set_cons_succ]
                    intro K hK
                    rw [if_pos (by rfl)]
                    go_simp
                    exact hK.out _ _ ⟨b0, b1, b2, b3, b4, b5, b6, b7, b8, b9, true, b11, b12, b13, true, true, x105, x106, x107, x108, x109, x110, x111, x112, x113, x114, .bool false, x116, x117, x118, .bool false, (.bool false), (by simp only [Act.put, List.setIfInBounds_toArray, List.set_cons_zero, List.set_cons_succ]), (by simp only [Act.put, List.setIfInBounds_toArray, List.set_cons_zero, List.set_cons_succ]), hb, cd0, cd1, cd2, cd3, cd4, cd5, cd6, cd7, cd8, cd9, (fun _ => rfl), cd11, cd12, cd13, (fun _ => rfl), (fun _ => rfl)⟩
                · rintro a w ⟨b0, b1, b2, b3, b4, b5, b6, b7, b8, b9, b10, b11, b12, b13, b14, b15, x105, x106, x107, x108, x109, x110, x111, x112, x113, x114, x115, x116, x117, x118, x119, x120, hL, rfl, hb, cd0, cd1, cd2, cd3, cd4, cd5, cd6, cd7, cd8, cd9, cd10, cd11, cd12, cd13, cd14, cd15⟩
                  have hL' : [true, true, true, true, true, true, true, true, true, true, true, true, true, true, true, true] = [b0, b1, b2, b3, b4, b5, b6, b7, b8, b9, b10, b11, b12, b13, b14, b15] := congrArg Array.toList hL
                  simp only [List.cons.injEq, and_true] at hL'
                  obtain ⟨rfl, rfl, rfl, rfl, rfl, rfl, rfl, rfl, rfl, rfl, rfl, rfl, rfl, rfl, rfl, rfl⟩ := hL'
                  obtain rfl := cd0.out rfl
                  obtain rfl := cd1.out rfl
                  obtain rfl := cd2.out rfl
                  obtain rfl := cd3.out rfl
                  obtain rfl := cd4.out rfl
                  obtain rfl := cd5.out rfl
                  obtain rfl := cd6.out rfl
                  obtain rfl := cd7.out rfl
                  obtain rfl := cd8.out rfl
                  obtain rfl := cd9.out rfl
                  obtain rfl := cd10.out rfl
                  obtain rfl := cd11.out rfl
                  obtain rfl := cd12.out rfl
                  obtain rfl := cd13.out rfl
                  obtain rfl := cd14.out rfl
                  obtain rfl := cd15.out rfl
                  clear hL
                  simp only [List.setIfInBounds_toArray, List.set_cons_zero, List.set_cons_succ]
                  have D6 := (Below.refl w6.heap.size w6).drew.trans (hb.mono (Nat.le_refl _))
                  have I7 := I6.past D6
                  have B7 := hB.trans ((C6.trans (D6.mono C6.size)).mono hB.size)
                  go_wp2_with fail
                  go_roundw
                  case rel => exact ⟨j + 1, ao2, _, _, by omega, by go_num, rfl, I7, B7⟩
                  case measure => simp [intOf]; omega
              · have j1 : ¬ ((j : Int) < n) := by omega
                obtain rfl : j = n := by omega
                rw [List.drop_eq_nil_of_le (by rw [hLn.out]; exact Nat.le_refl _)] at hI
                obtain rfl : na = 0 := hI.len.symm
                go_wp2_with fail
                go_meet
                exact ⟨aoR, ca, rfl, hB⟩
          case rest =>
            obtain ⟨aoR, cR, rfl, b3⟩ := hcut
            replace IB := IB.past b3
            replace IX := IX.past b3
            replace B2 := B2.trans (b3.mono B2.size)
            clear IA b3
            go_upto_block 6 with fail
            go_cut [20] from 124 to 136 (fun v wx => ∃ (ao : Option Addr) (c : Nat) (m : Nat), v = .slice ao m c ∧ IsB wx ao m c (encK L) ∧ Below wc.heap.size wc wx)
            case first =>
              go_wp2_with fail
              go_loopw [20, 21] (fun v i wr => ∃ (j : Nat) (ao : Option Addr) (m c : Nat), j ≤ n ∧ i = .int .i64 (j : Nat) ∧ v = .slice ao m c ∧ Txt wr wc.heap.size ao m c (encK (L.take j)) ∧ Below wc.heap.size wc wr) (fun _ i _ => n - (intOf i).toNat)
              case atStart => exact ⟨0, none, 0, 0, by omega, rfl, rfl, by simpa [encK] using Txt.nil wc _, Below.refl _ _⟩
              case round =>
                obtain ⟨j, aoC, m, c, hj, rfl, rfl, hT, hB⟩ := hrel
                by_cases hlt : j < n
                · have j1 : (j : Int) < n := by omega
                  obtain ⟨x, hx⟩ : ∃ x, L[j]? = some x := ⟨L[j]'(by rw [hLn.out]; exact hlt), List.getElem?_eq_getElem _⟩
                  have okx := okL.out x (List.mem_of_getElem? hx)
                  have hE := Lib.hid (encK_take L j x hx)
                  have hm : m ≤ 1600 := by
                    rw [← hT.isB.len]
                    have := encK_length (L.take j) (fun v hv => okL.out v (List.mem_of_mem_take hv))
                    rw [List.length_take, hLn.out] at this
                    omega
                  obtain ⟨bX, offX, rfl, hbX, hcX⟩ := (IX.past hB).open (by omega) (by decide)
                  obtain ⟨x0, x1, x2⟩ := cells_v hcX j x hx
                  have hkl := key_len x okx
                  have HPB := keyBytes_any x okx
                  obtain ⟨kx, nx, sx⟩ := x
                  simp only at x0 x1 x2
                  have HP : ∀ w, Calls Try.prog 21 #[vv kx nx sx] w (FreshI w (keyB ⟨kx, nx, sx⟩)) := HPB
                  have hsW := hB.size
                  clear hcX hx okx HPB
                  go_wp2_with (first
                    | (go_at_call 21; (with_reducible refine (HP _).mono ?_); rintro e w5 ⟨g5, rfl, i5, b5, q5⟩; have T5 := hT.past b5; have B5 := hB.trans (b5.mono hB.size); have s5 := B5.size)
                    | (at_builtin; refine wpList_append_txt rfl _ _ 24 24 rfl rfl wc.heap.size aoC m c (encK (L.take j)) rfl T5 s5 _ rfl _ (keyB ⟨kx, nx, sx⟩) (i5.src byteTy.ht) rfl (by omega) (m + (keyB ⟨kx, nx, sx⟩).length) rfl (encK (L.take (j + 1))) hE.out.symm (by omega) ?_; intro g6 c6 w6 o6 b6 q6))
                  go_roundw
                  case rel => exact ⟨j + 1, some ⟨g6, 0, none⟩, _, c6, by omega, by go_num, rfl, ⟨.inr ⟨g6, rfl, o6, q6⟩⟩, B5.trans b6⟩
                  case measure => simp [intOf]; omega
                · have j1 : ¬ ((j : Int) < n) := by omega
                  obtain rfl : j = n := by omega
                  rw [List.take_of_length_le (by rw [hLn.out]; exact Nat.le_refl _)] at hT
                  go_wp2_with fail
                  go_meet
                  exact ⟨aoC, c, m, rfl, hT.isB, hB⟩
            case rest =>
              obtain ⟨aoC, cC, mC, rfl, IC, b3⟩ := hcut
              replace IB := IB.past b3
              replace B2 := B2.trans (b3.mono B2.size)
              have hmC : mC ≤ 1600 := by
                rw [← IC.len]
                have := encK_length L okL.out
                rw [hLn.out] at this
                omega
              have hnB : nB ≤ 1600 := by omega
              have HBL := below_any aoC mC cC (encK L) aoB nB cB (encK LY) wc IC IB (by omega) (by omega)
              rw [FIN.out] at HBL
              go_wp2_with (go_at_call 22; (with_reducible refine HBL.mono ?_); rintro e w7 ⟨rfl, b7⟩; have B8 := B2.trans (b7.mono B2.size))
              go_ret
              exact ⟨rfl, B8⟩
  · have hn2 : (8 : Int) < n := by omega
    go_enter Try.func5, Try.ntmps5
    go_wp2_with (go_at_call 17; (with_reducible refine (known6_any _).mono ?_); rintro e w1 ⟨rfl, b1⟩; have B1 := b0.trans (b1.mono b0.size))
    go_ret
    exact ⟨rfl, B1⟩
end Go.Proofs.Ytpphlmbhonaglaa
