/-
  LockPlays, walked (by gen_lplays.py).
-/
import Derived.Test.YtllijeciodmckaaRlK
import Derived.Test.YtllijeciodmckaaRlW
import Derived.Test.YtllijeciodmckaaRlX
import Derived.Test.YtllijeciodmckaaKLq
namespace Go.Proofs.Ytllijeciodmckaa
open Go.RowKit
set_option linter.unusedSimpArgs false
theorem wf_sm2 {x : Int} (h : 0 ≤ x ∧ x < 8) : (Lit.int .i64 x).wf = true := WalkArith.wf_i64 (by omega)
/-- The code's locks in block p, the document's in block q: the same; neither one's rows lie there. -/
structure Duo (w : World) (p q : Nat) (ho : Option Addr) (hn hc : Nat) (wq : Option Addr) (wn wc : Nat) (ko : Option Addr) (kn kc : Nat) (lo : Option Addr) (ln lc : Nat) (H W : List Hd) : Prop where
  X : LkB w p ho hn hc wq wn wc 96
  RD : RdB w 0 ho hn hc wq wn wc H W
  ap : ApR p ho hn wq wn
  aq : ApR q ho hn wq wn
  Y : LkB w q ko kn kc lo ln lc 99
  RE : RdB w 0 ko kn kc lo ln lc H W
  bp : ApR p ko kn lo ln
  bq : ApR q ko kn lo ln
  ne : p ≠ q
def DuoAt (w : World) (p q : Nat) (H W : List Hd) : Prop := ∃ ho hn hc wq wn wc ko kn kc lo ln lc, Duo w p q ho hn hc wq wn wc ko kn kc lo ln lc H W
/-- What stood: the document's copy in block wb, the code's in block pb. -/
structure Was (w : World) (p q wb pb : Nat) (ho : Option Addr) (hn hc : Nat) (wq : Option Addr) (wn wc : Nat) (tw : Option Addr) (tn tc : Nat) (vo : Option Addr) (vn vc : Nat) (H W : List Hd) : Prop where
  T : LkB w wb tw tn tc vo vn vc 99
  RT : RdB w 0 tw tn tc vo vn vc H W
  tp : ApR p tw tn vo vn
  tq : ApR q tw tn vo vn
  P : LkB w pb ho hn hc wq wn wc 96
  RP : RdB w 0 ho hn hc wq wn wc H W
  pp : ApR p ho hn wq wn
  pq : ApR q ho hn wq wn
  n1 : wb ≠ p
  n2 : wb ≠ q
  n3 : pb ≠ p
  n4 : pb ≠ q
section
variable {w w' : World} {p q wb pb : Nat} {ho : Option Addr} {hn hc : Nat} {wq : Option Addr} {wn wc : Nat} {ko : Option Addr} {kn kc : Nat} {lo : Option Addr} {ln lc : Nat} {tw : Option Addr} {tn tc : Nat} {vo : Option Addr} {vn vc : Nat} {H W : List Hd}
theorem Duo.past (h : Duo w p q ho hn hc wq wn wc ko kn kc lo ln lc H W) (b : Below w.heap.size w w') : Duo w' p q ho hn hc wq wn wc ko kn kc lo ln lc H W := ⟨h.X.past b, h.RD.past b, h.ap, h.aq, h.Y.past b, h.RE.past b, h.bp, h.bq, h.ne⟩
theorem Was.past (h : Was w p q wb pb ho hn hc wq wn wc tw tn tc vo vn vc H W) (b : Below w.heap.size w w') : Was w' p q wb pb ho hn hc wq wn wc tw tn tc vo vn vc H W := ⟨h.T.past b, h.RT.past b, h.tp, h.tq, h.P.past b, h.RP.past b, h.pp, h.pq, h.n1, h.n2, h.n3, h.n4⟩
theorem Was.farP (h : Was w p q wb pb ho hn hc wq wn wc tw tn tc vo vn vc H W) (g : w.grownBy w' (some p)) : Was w' p q wb pb ho hn hc wq wn wc tw tn tc vo vn vc H W := ⟨h.T.far g h.n1, h.RT.far g h.tp, h.tp, h.tq, h.P.far g h.n3, h.RP.far g h.pp, h.pp, h.pq, h.n1, h.n2, h.n3, h.n4⟩
theorem Was.farQ (h : Was w p q wb pb ho hn hc wq wn wc tw tn tc vo vn vc H W) (g : w.grownBy w' (some q)) : Was w' p q wb pb ho hn hc wq wn wc tw tn tc vo vn vc H W := ⟨h.T.far g h.n2, h.RT.far g h.tq, h.tp, h.tq, h.P.far g h.n4, h.RP.far g h.pq, h.pp, h.pq, h.n1, h.n2, h.n3, h.n4⟩
end
theorem RkF.ap {w0 : World} {ho ao bo : Option Addr} {hn n m g : Nat} (hg : g < w0.heap.size) (h : 0 < hn → ∀ a, ho = some a → a.block ≠ g) (h1 : ∀ g, g < w0.heap.size → (0 < hn → ∀ a, ho = some a → a.block ≠ g) → 0 < n → ∀ a, ao = some a → a.block ≠ g) (h2 : 0 < m → ∀ a, bo = some a → w0.heap.size ≤ a.block) : ApR g ao n bo m :=
  ⟨h1 g hg h, fun hm a ha e => by have := h2 hm a ha; omega⟩
theorem Duo.start (w : World) : DuoAt ((w.alloc (.cells #[.slice none 0 0, .slice none 0 0] 96)).alloc (.cells #[.slice none 0 0, .slice none 0 0] 99)) w.heap.size (w.heap.size + 1) [] [] := by
  have Y := LkB.new (w.alloc (.cells #[.slice none 0 0, .slice none 0 0] 96)) none 0 0 none 0 0 99
  rw [World.size_alloc] at Y
  have X := (LkB.new w none 0 0 none 0 0 96).past ((Below.refl _ _).alloc (Nat.le_refl _) (.cells #[.slice none 0 0, .slice none 0 0] 99))
  have R : ∀ w' : World, RdB w' 0 none 0 0 none 0 0 [] [] := fun w' => ⟨IsR.nilR _, IsR.nilR _, fun h => absurd h (by omega), fun h => absurd h (by omega)⟩
  have P : ∀ g, ApR g none 0 none 0 := fun g => ⟨fun h => absurd h (by omega), fun h => absurd h (by omega)⟩
  exact ⟨none, 0, 0, none, 0, 0, none, 0, 0, none, 0, 0, X, R _, P _, P _, Y, R _, P _, P _, by omega⟩
/-- What stands while the region's operations come up. -/
inductive Plays17 (B : Nat) (p : Nat) (q : Nat) (wb : Nat) (pb : Nat) (qo : Option Addr) (qn : Nat) (qc : Nat) (ro : Option Addr) (rn : Nat) (rc : Nat) (eo : Option Addr) (en : Nat) (ec : Nat) (fo : Option Addr) (fn : Nat) (fc : Nat) (ho : Option Addr) (hn : Nat) (hc : Nat) (wq : Option Addr) (wn : Nat) (wc : Nat) (tw : Option Addr) (tn : Nat) (tc : Nat) (vo : Option Addr) (vn : Nat) (vc : Nat) (H0 : List Hd) (W0 : List Hd) (H1 : List Hd) (W1 : List Hd) (a0 : Act) (w0 : World) (L : Array Bool) (a : Act) (w : World) : Prop
  | mk (b0 b1 b2 b3 b4 b5 b6 b7 b8 b9 b10 b11 : Bool) (x78 x79 x80 x81 x82 x83 x84 x85 x86 x87 x88 x89 : Value) (ao : Option Addr) (an : Nat) (ac : Nat) (bo : Option Addr) (bn : Nat) (bc : Nat) (co : Option Addr) (cn : Nat) (cc : Nat) (mo : Option Addr) (mn : Nat) (mc : Nat) (hL : L = #[b0, b1, b2, b3, b4, b5, b6, b7, b8, b9, b10, b11]) (ha : a = ⟨((((((((((((a0.tmps.setIfInBounds 78 x78).setIfInBounds 79 x79).setIfInBounds 80 x80).setIfInBounds 81 x81).setIfInBounds 82 x82).setIfInBounds 83 x83).setIfInBounds 84 x84).setIfInBounds 85 x85).setIfInBounds 86 x86).setIfInBounds 87 x87).setIfInBounds 88 x88).setIfInBounds 89 x89), a0.defers⟩) (hb : Below B w0 w) (cd0 : Hid (b0 = true → x78 = .agg #[.slice qo qn qc, .slice ro rn rc])) (cd1 : Hid (b1 = true → x79 = .agg #[.slice ao an ac, .slice bo bn bc])) (cd2 : Hid (b2 = true → x80 = .agg #[.slice eo en ec, .slice fo fn fc])) (cd3 : Hid (b3 = true → x81 = .bool true)) (cd4 : Hid (b4 = true → x82 = .bool false)) (cd5 : Hid (b5 = true → x83 = .bool false)) (cd6 : Hid (b6 = true → x84 = .agg #[.slice ho hn hc, .slice wq wn wc])) (cd7 : Hid (b7 = true → x85 = .agg #[.slice co cn cc, .slice mo mn mc])) (cd8 : Hid (b8 = true → x86 = .agg #[.slice tw tn tc, .slice vo vn vc])) (cd9 : Hid (b9 = true → x87 = .bool true)) (cd10 : Hid (b10 = true → x88 = .bool false)) (cd11 : Hid (b11 = true → x89 = .bool false)) (f_r1 : Hid (b1 = true → RdB w 0 ao an ac bo bn bc H1 W1)) (f_r7 : Hid (b7 = true → RdB w 0 co cn cc mo mn mc H0 W0)) : Plays17 B p q wb pb qo qn qc ro rn rc eo en ec fo fn fc ho hn hc wq wn wc tw tn tc vo vn vc H0 W0 H1 W1 a0 w0 L a w

/-- What stands while the region's operations come up. -/
inductive Plays11 (B : Nat) (S : Nat) (p : Nat) (q : Nat) (wb : Nat) (pb : Nat) (ho : Option Addr) (hn : Nat) (hc : Nat) (wq : Option Addr) (wn : Nat) (wc : Nat) (ko : Option Addr) (kn : Nat) (kc : Nat) (lo : Option Addr) (ln : Nat) (lc : Nat) (tw : Option Addr) (tn : Nat) (tc : Nat) (vo : Option Addr) (vn : Nat) (vc : Nat) (H0 : List Hd) (W0 : List Hd) (H1 : List Hd) (W1 : List Hd) (r : Nat) (s : Int) (t : List UInt8) (x : Bool) (a0 : Act) (w0 : World) (L : Array Bool) (a : Act) (w : World) : Prop
  | mk (b0 b1 b2 b3 b4 b5 b6 b7 b8 b9 : Bool) (x47 x48 x49 x50 x51 x52 x53 x54 : Value) (qo : Option Addr) (qn : Nat) (qc : Nat) (ro : Option Addr) (rn : Nat) (rc : Nat) (eo : Option Addr) (en : Nat) (ec : Nat) (fo : Option Addr) (fn : Nat) (fc : Nat) (hL : L = #[b0, b1, b2, b3, b4, b5, b6, b7, b8, b9]) (ha : a = ⟨((((((((a0.tmps.setIfInBounds 47 x47).setIfInBounds 48 x48).setIfInBounds 49 x49).setIfInBounds 50 x50).setIfInBounds 51 x51).setIfInBounds 52 x52).setIfInBounds 53 x53).setIfInBounds 54 x54), a0.defers⟩) (hb : Below B w0 w) (cd0 : Hid (b0 = true → x47 = .agg #[.slice ho hn hc, .slice wq wn wc])) (cd1 : Hid (b1 = true → x48 = .pointer (some ⟨r, 0, none⟩))) (cd2 : Hid (b2 = true → x49 = .int .i64 s)) (cd3 : Hid (b3 = true → x50 = .agg #[.slice qo qn qc, .slice ro rn rc])) (cd4 : Hid (b4 = true → x51 = .agg #[.slice ko kn kc, .slice lo ln lc])) (cd5 : Hid (b5 = true → x52 = .pointer (some ⟨r, 0, none⟩))) (cd6 : Hid (b6 = true → x53 = .int .i64 s)) (cd7 : Hid (b7 = true → x54 = .agg #[.slice eo en ec, .slice fo fn fc])) (f_v : Hid (b8 = false → LkB w p ho hn hc wq wn wc 96)) (f_u : Hid (b9 = false → LkB w q ko kn kc lo ln lc 99)) (f_wz : Hid (Was w p q wb pb ho hn hc wq wn wc tw tn tc vo vn vc H0 W0)) (f_re : Hid (RdB w 0 ko kn kc lo ln lc H0 W0)) (f_zr : Hid (HdB w r ⟨s, t, x⟩ 101)) (f_a : Hid (b3 = true → RdB w S qo qn qc ro rn rc H1 W1)) (f_b : Hid (b7 = true → RdB w S eo en ec fo fn fc H1 W1)) (f_oa : Hid (b8 = true → LkB w p qo qn qc ro rn rc 96)) (f_ob : Hid (b9 = true → LkB w q eo en ec fo fn fc 99)) (f_qa : Hid (b8 = true → b3 = true)) (f_qb : Hid (b9 = true → b7 = true)) (f_za : Hid (b8 = true → b0 = true)) (f_zb : Hid (b9 = true → b4 = true)) : Plays11 B S p q wb pb ho hn hc wq wn wc ko kn kc lo ln lc tw tn tc vo vn vc H0 W0 H1 W1 r s t x a0 w0 L a w

/-- What stands while the region's operations come up. -/
inductive Plays16 (B : Nat) (S : Nat) (p : Nat) (q : Nat) (wb : Nat) (pb : Nat) (ho : Option Addr) (hn : Nat) (hc : Nat) (wq : Option Addr) (wn : Nat) (wc : Nat) (ko : Option Addr) (kn : Nat) (kc : Nat) (lo : Option Addr) (ln : Nat) (lc : Nat) (tw : Option Addr) (tn : Nat) (tc : Nat) (vo : Option Addr) (vn : Nat) (vc : Nat) (H0 : List Hd) (W0 : List Hd) (H1 : List Hd) (W1 : List Hd) (gb : Nat) (gy : Nat) (qo : Option Addr) (qn : Nat) (qc : Nat) (ro : Option Addr) (rn : Nat) (rc : Nat) (eo : Option Addr) (en : Nat) (ec : Nat) (fo : Option Addr) (fn : Nat) (fc : Nat) (a0 : Act) (w0 : World) (L : Array Bool) (a : Act) (w : World) : Prop
  | mk (b0 b1 b2 b3 : Bool) (x76 x77 : Value) (hL : L = #[b0, b1, b2, b3]) (ha : a = ⟨((a0.tmps.setIfInBounds 76 x76).setIfInBounds 77 x77), a0.defers⟩) (hb : Below B w0 w) (cd0 : Hid (b0 = true → x76 = .agg #[.slice qo qn qc, .slice ro rn rc])) (cd1 : Hid (b1 = true → x77 = .agg #[.slice eo en ec, .slice fo fn fc])) (f_v : Hid (b2 = false → LkB w p ho hn hc wq wn wc 96)) (f_u : Hid (b3 = false → LkB w q ko kn kc lo ln lc 99)) (f_wz : Hid (Was w p q wb pb ho hn hc wq wn wc tw tn tc vo vn vc H0 W0)) (f_a : Hid (RdB w 0 qo qn qc ro rn rc H1 W1)) (f_b : Hid (RdB w 0 eo en ec fo fn fc H1 W1)) (f_xb : Hid (LkB w gb qo qn qc ro rn rc 96)) (f_yb : Hid (LkB w gy eo en ec fo fn fc 99)) (f_oa : Hid (b2 = true → LkB w p qo qn qc ro rn rc 96)) (f_ob : Hid (b3 = true → LkB w q eo en ec fo fn fc 99)) : Plays16 B S p q wb pb ho hn hc wq wn wc ko kn kc lo ln lc tw tn tc vo vn vc H0 W0 H1 W1 gb gy qo qn qc ro rn rc eo en ec fo fn fc a0 w0 L a w
set_option maxRecDepth 100000 in
set_option maxHeartbeats 8000000 in
theorem lockPlays_walk (ao : Option Addr) (n c : Nat) (la : List Ac) (w : World) (hla : IsR EAc w ao n c la) :
    Calls Try.prog 7 #[.slice ao n c] w fun e w' => e = .returned (.bool true) ∧ Below w.heap.size w w' := by
  go_enter Try.func7, Try.ntmps7
  go_upto_region 3 with (go_at_call 49; refine (known12 _).mono ?_; rintro e w1 ⟨rfl, b1⟩)
  obtain ⟨p0, hp⟩ : ∃ p0, w.heap.size = p0 := ⟨_, rfl⟩
  have HP := Lib.hid hp
  have hp0 : p0 ≤ w.heap.size := by omega
  go_upto_region 4 with fail
  have D0 := Duo.start w1
  have B : Below p0 w ((w1.alloc (.cells #[.slice none 0 0, .slice none 0 0] 96)).alloc (.cells #[.slice none 0 0, .slice none 0 0] 99)) := by rw [← hp]; exact (b1.alloc b1.size _).alloc (b1.alloc b1.size _).size _
  have hpp : p0 ≤ w1.heap.size := by rw [← hp]; exact b1.size
  generalize (w1.alloc (.cells #[.slice none 0 0, .slice none 0 0] 96)).alloc (.cells #[.slice none 0 0, .slice none 0 0] 99) = u0 at D0 B ⊢
  obtain ⟨p, hpv⟩ : ∃ p, w1.heap.size = p := ⟨_, rfl⟩
  obtain ⟨q, hqv⟩ : ∃ q, p + 1 = q := ⟨_, rfl⟩
  rw [hpv] at D0 hpp
  rw [hqv] at D0
  simp only [hpv, hqv]
  have hpq0 : p0 ≤ q := by omega
  clear hp hpv hqv b1
  have hln := hla.len
  have hmx := hla.max
  have hle := hla.le
  unfold maxLen at hmx
  go_wp2_with fail
  go_loopw [5] (fun zs wr => ∃ (i : Nat) (H W : List Hd), i ≤ n ∧ i ≤ 60 ∧ zs = .int .i64 (i : Nat) ∧ DuoAt wr p q H W ∧ Hid (Good i H W) ∧ Below p0 w wr) (fun zs _ => 60 - (intOf zs).toNat)
  case atStart => exact ⟨0, [], [], by omega, by omega, rfl, D0, Lib.hid Good.start, B⟩
  case round =>
    clear D0 B
    obtain ⟨i, H, W, hin, hi40, rfl, D0, hG, B⟩ := hrel
    by_cases hlt' : i < n ∧ i < 60
    · obtain ⟨hlt, hlt3⟩ := hlt'
      have hlti : (i : Int) < (n : Int) := by omega
      have hlt3i : (i : Int) < 60 := by omega
      obtain ⟨a, hai⟩ : ∃ a, la[i]? = some a := ⟨la[i]'(by have := hla.len; omega), List.getElem?_eq_getElem _⟩
      obtain ⟨ag, aoff, rfl, hag, hac⟩ := hla.open (by omega) (by decide)
      obtain ⟨a0_, a1_, a2_, a3_⟩ := cells_ac hac i a hai
      have hagp : ag < p0 := by rw [← HP.out]; exact hag
      rw [← B.cell (show (⟨ag, aoff + i * 4, none⟩ : Addr).block < p0 from hagp)] at a0_
      rw [← B.cell (show (⟨ag, aoff + i * 4 + 1, none⟩ : Addr).block < p0 from hagp)] at a1_
      rw [← B.cell (show (⟨ag, aoff + i * 4 + 2, none⟩ : Addr).block < p0 from hagp)] at a2_
      rw [← B.cell (show (⟨ag, aoff + i * 4 + 3, none⟩ : Addr).block < p0 from hagp)] at a3_
      have HD := fun w => hold_any w a
      have hsm := a.small
      obtain ⟨hd, hhd⟩ : ∃ hd, a.hd = hd := ⟨_, rfl⟩
      rw [hhd] at hsm
      simp only [hhd] at HD
      obtain ⟨k, ks, kt, kx⟩ := a
      obtain ⟨s, t, x⟩ := hd
      unfold Hd.val at HD
      simp only at HD a0_ a1_ a2_ a3_ hsm
      clear hac hai hhd
      have hGh := hG.out.lenH
      have hGw := hG.out.lenW
      obtain ⟨ho, hn, hc, wq, wn, wc, ko, kn, kc, lo, ln, lc, DD⟩ := D0
      have HWk := fun w => within12_any k 6 w (by decide) (by decide)
      obtain ⟨KK, hKK⟩ : ∃ KK, wth k 6 = KK := ⟨_, rfl⟩
      simp only [hKK] at HWk
      clear hKK
      have hBw := Nat.le_trans hp0 B.size
      go_upto_region 8 with (go_at_call 50; refine (HD _).mono ?_; rintro e w2 ⟨rfl, b2⟩)
      have bR : Below w2.heap.size w2 (w2.alloc (.cells #[.int .i64 s, .string (bsOf t), .bool x] 101)) := (Below.refl _ _).alloc (Nat.le_refl _) _
      have ZR := HdB.new w2 ⟨s, t, x⟩ 101
      simp only at ZR
      have DD0 := DD
      have DD := (DD.past b2).past bR
      have b3 := b2.trans (bR.mono b2.size)
      have B3 := B.trans (b3.mono hBw)
      have a0_ := (B3.cell (show (⟨ag, aoff + i * 4, none⟩ : Addr).block < p0 from hagp)).trans ((B.cell (show (⟨ag, aoff + i * 4, none⟩ : Addr).block < p0 from hagp)).symm.trans a0_)
      have hrp : w2.heap.size ≠ p := by have h1 := DD0.X.lt; have := b2.size; omega
      have hrq : w2.heap.size ≠ q := by have h1 := DD0.Y.lt; have := b2.size; omega
      clear B b3 bR HD a1_ a2_ a3_ hBw
      have B := B3
      clear B3
      generalize w2.alloc (.cells #[.int .i64 s, .string (bsOf t), .bool x] 101) = U0 at ZR DD B a0_ ⊢
      obtain ⟨r, hr⟩ : ∃ r, w2.heap.size = r := ⟨_, rfl⟩
      rw [hr] at ZR hrp hrq
      simp only [hr]
      clear hr b2 DD0
      have hBw := Nat.le_trans hp0 B.size
      -- was
      obtain ⟨c0, c1⟩ := DD.X.c
      have HT := toRef_any U0 ho hn hc wq wn wc H W DD.RD.h DD.RD.w (by omega) (by omega)
      go_upto_region 9 with (go_at_call 51; refine HT.mono ?_; rintro e v1 ⟨_, rfl, ⟨tw, tn, tc, vo, vn, vc, rfl, j1, j2, g1, g2⟩, b1⟩; unfold lkV)
      have bA : Below v1.heap.size v1 (v1.alloc (.cells #[.slice tw tn tc, .slice vo vn vc] 99)) := (Below.refl _ _).alloc (Nat.le_refl _) _
      have XT : LkB (v1.alloc (.cells #[.slice tw tn tc, .slice vo vn vc] 99)) v1.heap.size tw tn tc vo vn vc 99 := heap_alloc_new v1 _
      have RT0 : RdB v1 U0.heap.size tw tn tc vo vn vc H W := ⟨j1, j2, g1, g2⟩
      have tp := RT0.ap DD.X.lt
      have tq := RT0.ap DD.Y.lt
      have n1 : v1.heap.size ≠ p := by have h1 := DD.X.lt; have := b1.size; omega
      have n2 : v1.heap.size ≠ q := by have h1 := DD.Y.lt; have := b1.size; omega
      have RT := (RT0.past bA).mono (Nat.zero_le _)
      have b3 := b1.trans (bA.mono b1.size)
      have DD := DD.past b3
      have ZR := ZR.past b3
      have B3 := B.trans (b3.mono hBw)
      have a0_ := (B3.cell (show (⟨ag, aoff + i * 4, none⟩ : Addr).block < p0 from hagp)).trans ((B.cell (show (⟨ag, aoff + i * 4, none⟩ : Addr).block < p0 from hagp)).symm.trans a0_)
      clear B b3 bA b1 HT c0 c1 RT0 j1 j2 g1 g2 hBw
      have B := B3
      clear B3
      generalize v1.alloc (.cells #[.slice tw tn tc, .slice vo vn vc] 99) = U1 at XT RT ZR DD B a0_ ⊢
      obtain ⟨wb, hwb⟩ : ∃ z_, v1.heap.size = z_ := ⟨_, rfl⟩
      rw [hwb] at XT n1 n2
      simp only [hwb]
      clear hwb
      have hBw := Nat.le_trans hp0 B.size
      -- before
      obtain ⟨c0, c1⟩ := DD.X.c
      go_upto_region 10 with fail
      have bA : Below U1.heap.size U1 (U1.alloc (.cells #[.slice ho hn hc, .slice wq wn wc] 96)) := (Below.refl _ _).alloc (Nat.le_refl _) _
      have XP : LkB (U1.alloc (.cells #[.slice ho hn hc, .slice wq wn wc] 96)) U1.heap.size ho hn hc wq wn wc 96 := heap_alloc_new U1 _
      have n3 : U1.heap.size ≠ p := by have h1 := DD.X.lt; omega
      have n4 : U1.heap.size ≠ q := by have h1 := DD.Y.lt; omega
      have WZ : Was (U1.alloc (.cells #[.slice ho hn hc, .slice wq wn wc] 96)) p q wb U1.heap.size ho hn hc wq wn wc tw tn tc vo vn vc H W := ⟨XT.past bA, RT.past bA, tp, tq, XP, DD.RD.past bA, DD.ap, DD.aq, n1, n2, n3, n4⟩
      have DD := DD.past bA
      have ZR := ZR.past bA
      have B3 := B.trans (bA.mono hBw)
      have a0_ := (B3.cell (show (⟨ag, aoff + i * 4, none⟩ : Addr).block < p0 from hagp)).trans ((B.cell (show (⟨ag, aoff + i * 4, none⟩ : Addr).block < p0 from hagp)).symm.trans a0_)
      clear B bA c0 c1 XT RT tp tq n1 n2 n3 n4 XP hBw
      have B := B3
      clear B3
      generalize U1.alloc (.cells #[.slice ho hn hc, .slice wq wn wc] 96) = U2 at WZ ZR DD B a0_ ⊢
      obtain ⟨pb, hpb⟩ : ∃ z_, U1.heap.size = z_ := ⟨_, rfl⟩
      rw [hpb] at WZ
      simp only [hpb]
      clear hpb
      have hBw := Nat.le_trans hp0 B.size
      have hBp := hpp
      have hBq := hpq0
      have hpq := DD.ne
      have X := DD.X
      have Y := DD.Y
      have RE := DD.RE
      have hbp := DD.bp
      have hbq := DD.bq
      have hl0h : H.length ≤ 100000 := by omega
      have hl0w : W.length ≤ 100000 := by omega
      by_cases h5 : KK = 5
      · have h5b : (KK == 5) = true := by simp [h5]
        clear h5
        have hGG : Hid (Good (i + 1) (wo H s) (Go.Proofs.Ytllijeciodmckaa.wo W s)) := Lib.hid (hG.out.free s)
        go_upto_region 11 with (go_at_call 52; refine (HWk _).mono ?_; rintro e w2 ⟨rfl, rfl⟩)
        obtain ⟨H1, hH1⟩ : ∃ z_, z_ = wo H s := ⟨_, rfl⟩
        obtain ⟨W1, hW1⟩ : ∃ z_, z_ = Go.Proofs.Ytllijeciodmckaa.wo W s := ⟨_, rfl⟩
        rw [← hH1, ← hW1] at hGG
        have HFA := fun (w' : World) (hi : RdB w' 0 ho hn hc wq wn wc H W) => free_any w' (lkV ho hn hc wq wn wc) H W ⟨_, _, _, _, _, _, rfl, hi.h, hi.w⟩ hl0h hl0w s
        have HFB := fun (w' : World) (hi : RdB w' 0 ko kn kc lo ln lc H W) => rfree_any w' (lkV ko kn kc lo ln lc) H W ⟨_, _, _, _, _, _, rfl, hi.h, hi.w⟩ hl0h hl0w s
        unfold lkV at HFA HFB
        simp only [← hH1, ← hW1] at HFA HFB
        clear hH1 hW1 HWk a0_ hG hGh hGw hBw
        generalize H = H0 at WZ RE HFA HFB hl0h DD ⊢
        generalize W = W0 at WZ RE HFA HFB hl0w DD ⊢
        obtain ⟨S, hSe⟩ : ∃ S, U2.heap.size = S := ⟨_, rfl⟩
        have hpS : p < S := by rw [← hSe]; exact DD.X.lt
        have hqS : q < S := by rw [← hSe]; exact DD.Y.lt
        have hS0 : S ≤ U2.heap.size := Nat.le_of_eq hSe.symm
        have hB0 : p0 ≤ U2.heap.size := Nat.le_trans hpp (Nat.le_of_lt DD.X.lt)
        clear hSe
        clear DD
        refine region_inv (Plays11 p0 S p q wb pb ho hn hc wq wn wc ko kn kc lo ln lc tw tn tc vo vn vc H0 W0 H1 W1 r s t x) (by kernel_rfl) (by kernel_rfl) ?_ ?_ ?_
        · exact ⟨false, false, false, false, false, false, false, false, false, false, u47, u48, u49, u50, u51, u52, u53, u54, none, 0, 0, none, 0, 0, none, 0, 0, none, 0, 0, rfl, (by simp only [Act.put, List.setIfInBounds_toArray, List.set_cons_zero, List.set_cons_succ]), Below.refl _ _, (fun h => by cases h), (fun h => by cases h), (fun h => by cases h), (fun h => by cases h), (fun h => by cases h), (fun h => by cases h), (fun h => by cases h), (fun h => by cases h), (fun h1 => X.past (Below.refl _ _).drew), (fun h1 => Y.past (Below.refl _ _).drew), (WZ.past (Below.refl _ _).drew), (RE.past (Below.refl _ _).drew), (ZR.past (Below.refl _ _).drew), (fun h => by cases h), (fun h => by cases h), (fun h => by cases h), (fun h => by cases h), (fun h => by cases h), (fun h => by cases h), (fun h => by cases h), (fun h => by cases h)⟩
        · refine ⟨?_, ?_, ?_, ?_, ?_, ?_, ?_, ?_, ?_, ?_, trivial⟩
          · rintro L a w ⟨b0, b1, b2, b3, b4, b5, b6, b7, b8, b9, x47, x48, x49, x50, x51, x52, x53, x54, qo, qn, qc, ro, rn, rc, eo, en, ec, fo, fn, fc, rfl, rfl, hb, cd0, cd1, cd2, cd3, cd4, cd5, cd6, cd7, f_v, f_u, f_wz, f_re, f_zr, f_a, f_b, f_oa, f_ob, f_qa, f_qb, f_za, f_zb⟩ hf hd
            have hf' : b0 = false := hf
            subst hf'
            clear hf hd
            have W_wz := f_wz.out
            have W_re := f_re.out
            have W_zr := f_zr.out
            try simp only [List.setIfInBounds_toArray, List.set_cons_zero, List.set_cons_succ]
            have e_v : b8 = false := by cases hq : b8 with | false => rfl | true => exact absurd (f_za.out hq) (by simp)
            have W_v := f_v.out e_v
            obtain ⟨z0, z1⟩ := W_v.c
            intro K hK
            rw [if_pos (by rfl)]
            go_simp
            exact hK.out _ _ ⟨true, b1, b2, b3, b4, b5, b6, b7, b8, b9, (.agg #[.slice ho hn hc, .slice wq wn wc]), x48, x49, x50, x51, x52, x53, x54, qo, qn, qc, ro, rn, rc, eo, en, ec, fo, fn, fc, (by simp only [Act.put, List.setIfInBounds_toArray, List.set_cons_zero, List.set_cons_succ]), (by simp only [Act.put, List.setIfInBounds_toArray, List.set_cons_zero, List.set_cons_succ]), hb, (fun _ => rfl), cd1, cd2, cd3, cd4, cd5, cd6, cd7, f_v, f_u, f_wz, f_re, f_zr, f_a, f_b, f_oa, f_ob, f_qa, f_qb, (fun _ => rfl), f_zb⟩
          · rintro L a w ⟨b0, b1, b2, b3, b4, b5, b6, b7, b8, b9, x47, x48, x49, x50, x51, x52, x53, x54, qo, qn, qc, ro, rn, rc, eo, en, ec, fo, fn, fc, rfl, rfl, hb, cd0, cd1, cd2, cd3, cd4, cd5, cd6, cd7, f_v, f_u, f_wz, f_re, f_zr, f_a, f_b, f_oa, f_ob, f_qa, f_qb, f_za, f_zb⟩ hf hd
            have hf' : b1 = false := hf
            subst hf'
            clear hf hd
            have W_wz := f_wz.out
            have W_re := f_re.out
            have W_zr := f_zr.out
            try simp only [List.setIfInBounds_toArray, List.set_cons_zero, List.set_cons_succ]
            intro K hK
            rw [if_pos (by rfl)]
            go_simp
            exact hK.out _ _ ⟨b0, true, b2, b3, b4, b5, b6, b7, b8, b9, x47, (.pointer (some ⟨r, 0, none⟩)), x49, x50, x51, x52, x53, x54, qo, qn, qc, ro, rn, rc, eo, en, ec, fo, fn, fc, (by simp only [Act.put, List.setIfInBounds_toArray, List.set_cons_zero, List.set_cons_succ]), (by simp only [Act.put, List.setIfInBounds_toArray, List.set_cons_zero, List.set_cons_succ]), hb, cd0, (fun _ => rfl), cd2, cd3, cd4, cd5, cd6, cd7, f_v, f_u, f_wz, f_re, f_zr, f_a, f_b, f_oa, f_ob, f_qa, f_qb, f_za, f_zb⟩
          · rintro L a w ⟨b0, b1, b2, b3, b4, b5, b6, b7, b8, b9, x47, x48, x49, x50, x51, x52, x53, x54, qo, qn, qc, ro, rn, rc, eo, en, ec, fo, fn, fc, rfl, rfl, hb, cd0, cd1, cd2, cd3, cd4, cd5, cd6, cd7, f_v, f_u, f_wz, f_re, f_zr, f_a, f_b, f_oa, f_ob, f_qa, f_qb, f_za, f_zb⟩ hf hd
            have hf' : b2 = false := hf
            subst hf'
            have d1 : b1 = true := hd ⟨1, .data⟩ (by simp) rfl
            subst d1
            obtain rfl := cd1.out rfl
            clear hf hd
            have W_wz := f_wz.out
            have W_re := f_re.out
            have W_zr := f_zr.out
            try simp only [List.setIfInBounds_toArray, List.set_cons_zero, List.set_cons_succ]
            obtain ⟨z0, z1, z2⟩ := W_zr.c
            simp only at z0 z1 z2
            intro K hK
            rw [if_pos (by rfl)]
            go_simp
            exact hK.out _ _ ⟨b0, true, true, b3, b4, b5, b6, b7, b8, b9, x47, .pointer (some ⟨r, 0, none⟩), (.int .i64 s), x50, x51, x52, x53, x54, qo, qn, qc, ro, rn, rc, eo, en, ec, fo, fn, fc, (by simp only [Act.put, List.setIfInBounds_toArray, List.set_cons_zero, List.set_cons_succ]), (by simp only [Act.put, List.setIfInBounds_toArray, List.set_cons_zero, List.set_cons_succ]), hb, cd0, (fun _ => rfl), (fun _ => rfl), cd3, cd4, cd5, cd6, cd7, f_v, f_u, f_wz, f_re, f_zr, f_a, f_b, f_oa, f_ob, f_qa, f_qb, f_za, f_zb⟩
          · rintro L a w ⟨b0, b1, b2, b3, b4, b5, b6, b7, b8, b9, x47, x48, x49, x50, x51, x52, x53, x54, qo, qn, qc, ro, rn, rc, eo, en, ec, fo, fn, fc, rfl, rfl, hb, cd0, cd1, cd2, cd3, cd4, cd5, cd6, cd7, f_v, f_u, f_wz, f_re, f_zr, f_a, f_b, f_oa, f_ob, f_qa, f_qb, f_za, f_zb⟩ hf hd
            have hf' : b3 = false := hf
            subst hf'
            have d0 : b0 = true := hd ⟨0, .data⟩ (by simp) rfl
            subst d0
            have d2 : b2 = true := hd ⟨2, .data⟩ (by simp) rfl
            subst d2
            obtain rfl := cd0.out rfl
            obtain rfl := cd2.out rfl
            clear hf hd
            have W_wz := f_wz.out
            have W_re := f_re.out
            have W_zr := f_zr.out
            try simp only [List.setIfInBounds_toArray, List.set_cons_zero, List.set_cons_succ]
            intro K hK
            rw [if_pos (by rfl)]
            go_simp
            go_at_call 53
            refine (HFA _ W_wz.RP).mono ?_
            rintro e w' ⟨_, rfl, ⟨qo3, qn3, qc3, ro3, rn3, rc3, rfl, j1, j2, g1_, g2_⟩, bx⟩
            unfold lkV
            have k3 : RdB w' w.heap.size qo3 qn3 qc3 ro3 rn3 rc3 H1 W1 := ⟨j1, j2, g1_, g2_⟩
            exact hK.out _ _ ⟨true, b1, true, true, b4, b5, b6, b7, b8, b9, .agg #[.slice ho hn hc, .slice wq wn wc], x48, .int .i64 s, (.agg #[.slice qo3 qn3 qc3, .slice ro3 rn3 rc3]), x51, x52, x53, x54, qo3, qn3, qc3, ro3, rn3, rc3, eo, en, ec, fo, fn, fc, (by simp only [Act.put, List.setIfInBounds_toArray, List.set_cons_zero, List.set_cons_succ]), (by simp only [Act.put, List.setIfInBounds_toArray, List.set_cons_zero, List.set_cons_succ]), hb.trans (bx.mono (Nat.le_trans hB0 hb.size)), (fun _ => rfl), cd1, (fun _ => rfl), (fun _ => rfl), cd4, cd5, cd6, cd7, (fun h1 => (f_v.out h1).past bx), (fun h1 => (f_u.out h1).past bx), (f_wz.out.past bx), (f_re.out.past bx), (f_zr.out.past bx), (fun _ => k3.mono (Nat.le_trans hS0 hb.size)), (fun h0 => (f_b.out h0).past bx), (fun h0 => absurd (f_qa.out h0) (by simp)), (fun h0 => (f_ob.out h0).past bx), (fun _ => rfl), f_qb, f_za, f_zb⟩
          · rintro L a w ⟨b0, b1, b2, b3, b4, b5, b6, b7, b8, b9, x47, x48, x49, x50, x51, x52, x53, x54, qo, qn, qc, ro, rn, rc, eo, en, ec, fo, fn, fc, rfl, rfl, hb, cd0, cd1, cd2, cd3, cd4, cd5, cd6, cd7, f_v, f_u, f_wz, f_re, f_zr, f_a, f_b, f_oa, f_ob, f_qa, f_qb, f_za, f_zb⟩ hf hd
            have hf' : b4 = false := hf
            subst hf'
            clear hf hd
            have W_wz := f_wz.out
            have W_re := f_re.out
            have W_zr := f_zr.out
            try simp only [List.setIfInBounds_toArray, List.set_cons_zero, List.set_cons_succ]
            have e_u : b9 = false := by cases hq : b9 with | false => rfl | true => exact absurd (f_zb.out hq) (by simp)
            have W_u := f_u.out e_u
            obtain ⟨z0, z1⟩ := W_u.c
            intro K hK
            rw [if_pos (by rfl)]
            go_simp
            exact hK.out _ _ ⟨b0, b1, b2, b3, true, b5, b6, b7, b8, b9, x47, x48, x49, x50, (.agg #[.slice ko kn kc, .slice lo ln lc]), x52, x53, x54, qo, qn, qc, ro, rn, rc, eo, en, ec, fo, fn, fc, (by simp only [Act.put, List.setIfInBounds_toArray, List.set_cons_zero, List.set_cons_succ]), (by simp only [Act.put, List.setIfInBounds_toArray, List.set_cons_zero, List.set_cons_succ]), hb, cd0, cd1, cd2, cd3, (fun _ => rfl), cd5, cd6, cd7, f_v, f_u, f_wz, f_re, f_zr, f_a, f_b, f_oa, f_ob, f_qa, f_qb, f_za, (fun _ => rfl)⟩
          · rintro L a w ⟨b0, b1, b2, b3, b4, b5, b6, b7, b8, b9, x47, x48, x49, x50, x51, x52, x53, x54, qo, qn, qc, ro, rn, rc, eo, en, ec, fo, fn, fc, rfl, rfl, hb, cd0, cd1, cd2, cd3, cd4, cd5, cd6, cd7, f_v, f_u, f_wz, f_re, f_zr, f_a, f_b, f_oa, f_ob, f_qa, f_qb, f_za, f_zb⟩ hf hd
            have hf' : b5 = false := hf
            subst hf'
            clear hf hd
            have W_wz := f_wz.out
            have W_re := f_re.out
            have W_zr := f_zr.out
            try simp only [List.setIfInBounds_toArray, List.set_cons_zero, List.set_cons_succ]
            intro K hK
            rw [if_pos (by rfl)]
            go_simp
            exact hK.out _ _ ⟨b0, b1, b2, b3, b4, true, b6, b7, b8, b9, x47, x48, x49, x50, x51, (.pointer (some ⟨r, 0, none⟩)), x53, x54, qo, qn, qc, ro, rn, rc, eo, en, ec, fo, fn, fc, (by simp only [Act.put, List.setIfInBounds_toArray, List.set_cons_zero, List.set_cons_succ]), (by simp only [Act.put, List.setIfInBounds_toArray, List.set_cons_zero, List.set_cons_succ]), hb, cd0, cd1, cd2, cd3, cd4, (fun _ => rfl), cd6, cd7, f_v, f_u, f_wz, f_re, f_zr, f_a, f_b, f_oa, f_ob, f_qa, f_qb, f_za, f_zb⟩
          · rintro L a w ⟨b0, b1, b2, b3, b4, b5, b6, b7, b8, b9, x47, x48, x49, x50, x51, x52, x53, x54, qo, qn, qc, ro, rn, rc, eo, en, ec, fo, fn, fc, rfl, rfl, hb, cd0, cd1, cd2, cd3, cd4, cd5, cd6, cd7, f_v, f_u, f_wz, f_re, f_zr, f_a, f_b, f_oa, f_ob, f_qa, f_qb, f_za, f_zb⟩ hf hd
            have hf' : b6 = false := hf
            subst hf'
            have d5 : b5 = true := hd ⟨5, .data⟩ (by simp) rfl
            subst d5
            obtain rfl := cd5.out rfl
            clear hf hd
            have W_wz := f_wz.out
            have W_re := f_re.out
            have W_zr := f_zr.out
            try simp only [List.setIfInBounds_toArray, List.set_cons_zero, List.set_cons_succ]
            obtain ⟨z0, z1, z2⟩ := W_zr.c
            simp only at z0 z1 z2
            intro K hK
            rw [if_pos (by rfl)]
            go_simp
            exact hK.out _ _ ⟨b0, b1, b2, b3, b4, true, true, b7, b8, b9, x47, x48, x49, x50, x51, .pointer (some ⟨r, 0, none⟩), (.int .i64 s), x54, qo, qn, qc, ro, rn, rc, eo, en, ec, fo, fn, fc, (by simp only [Act.put, List.setIfInBounds_toArray, List.set_cons_zero, List.set_cons_succ]), (by simp only [Act.put, List.setIfInBounds_toArray, List.set_cons_zero, List.set_cons_succ]), hb, cd0, cd1, cd2, cd3, cd4, (fun _ => rfl), (fun _ => rfl), cd7, f_v, f_u, f_wz, f_re, f_zr, f_a, f_b, f_oa, f_ob, f_qa, f_qb, f_za, f_zb⟩
          · rintro L a w ⟨b0, b1, b2, b3, b4, b5, b6, b7, b8, b9, x47, x48, x49, x50, x51, x52, x53, x54, qo, qn, qc, ro, rn, rc, eo, en, ec, fo, fn, fc, rfl, rfl, hb, cd0, cd1, cd2, cd3, cd4, cd5, cd6, cd7, f_v, f_u, f_wz, f_re, f_zr, f_a, f_b, f_oa, f_ob, f_qa, f_qb, f_za, f_zb⟩ hf hd
            have hf' : b7 = false := hf
            subst hf'
            have d4 : b4 = true := hd ⟨4, .data⟩ (by simp) rfl
            subst d4
            have d6 : b6 = true := hd ⟨6, .data⟩ (by simp) rfl
            subst d6
            have d3 : b3 = true := hd ⟨3, .chain⟩ (by simp) rfl
            subst d3
            obtain rfl := cd4.out rfl
            obtain rfl := cd6.out rfl
            obtain rfl := cd3.out rfl
            clear hf hd
            have W_wz := f_wz.out
            have W_re := f_re.out
            have W_zr := f_zr.out
            have W_a := f_a.out rfl
            try simp only [List.setIfInBounds_toArray, List.set_cons_zero, List.set_cons_succ]
            intro K hK
            rw [if_pos (by rfl)]
            go_simp
            go_at_call 54
            refine (HFB _ W_re).mono ?_
            rintro e w' ⟨_, rfl, ⟨eo3, en3, ec3, fo3, fn3, fc3, rfl, j1, j2, g1_, g2_⟩, bx⟩
            unfold lkV
            have k7 : RdB w' w.heap.size eo3 en3 ec3 fo3 fn3 fc3 H1 W1 := ⟨j1, j2, g1_, g2_⟩
            exact hK.out _ _ ⟨b0, b1, b2, true, true, b5, true, true, b8, b9, x47, x48, x49, .agg #[.slice qo qn qc, .slice ro rn rc], .agg #[.slice ko kn kc, .slice lo ln lc], x52, .int .i64 s, (.agg #[.slice eo3 en3 ec3, .slice fo3 fn3 fc3]), qo, qn, qc, ro, rn, rc, eo3, en3, ec3, fo3, fn3, fc3, (by simp only [Act.put, List.setIfInBounds_toArray, List.set_cons_zero, List.set_cons_succ]), (by simp only [Act.put, List.setIfInBounds_toArray, List.set_cons_zero, List.set_cons_succ]), hb.trans (bx.mono (Nat.le_trans hB0 hb.size)), cd0, cd1, cd2, (fun _ => rfl), (fun _ => rfl), cd5, (fun _ => rfl), (fun _ => rfl), (fun h1 => (f_v.out h1).past bx), (fun h1 => (f_u.out h1).past bx), (f_wz.out.past bx), (f_re.out.past bx), (f_zr.out.past bx), (fun h0 => (f_a.out h0).past bx), (fun _ => k7.mono (Nat.le_trans hS0 hb.size)), (fun h0 => (f_oa.out h0).past bx), (fun h0 => absurd (f_qb.out h0) (by simp)), f_qa, (fun _ => rfl), f_za, f_zb⟩
          · rintro L a w ⟨b0, b1, b2, b3, b4, b5, b6, b7, b8, b9, x47, x48, x49, x50, x51, x52, x53, x54, qo, qn, qc, ro, rn, rc, eo, en, ec, fo, fn, fc, rfl, rfl, hb, cd0, cd1, cd2, cd3, cd4, cd5, cd6, cd7, f_v, f_u, f_wz, f_re, f_zr, f_a, f_b, f_oa, f_ob, f_qa, f_qb, f_za, f_zb⟩ hf hd
            have hf' : b8 = false := hf
            subst hf'
            have d3 : b3 = true := hd ⟨3, .data⟩ (by simp) rfl
            subst d3
            have d7 : b7 = true := hd ⟨7, .chain⟩ (by simp) rfl
            subst d7
            have d0 : b0 = true := hd ⟨0, .phase⟩ (by simp) rfl
            subst d0
            have d1 : b1 = true := hd ⟨1, .phase⟩ (by simp) rfl
            subst d1
            have d2 : b2 = true := hd ⟨2, .phase⟩ (by simp) rfl
            subst d2
            obtain rfl := cd3.out rfl
            obtain rfl := cd7.out rfl
            obtain rfl := cd0.out rfl
            obtain rfl := cd1.out rfl
            obtain rfl := cd2.out rfl
            clear hf hd
            have W_v := f_v.out rfl
            have W_wz := f_wz.out
            have W_re := f_re.out
            have W_zr := f_zr.out
            have W_a := f_a.out rfl
            have W_b := f_b.out rfl
            try simp only [List.setIfInBounds_toArray, List.set_cons_zero, List.set_cons_succ]
            intro K hK
            rw [if_pos (by rfl)]
            refine wp_store_lk _ _ rfl p ho hn hc wq wn wc rfl qo qn qc ro rn rc rfl (Lib.hid W_v) fun w2 h8 g8 => ?_
            have hb2 := hb.grown g8 (Nat.le_trans hB0 hb.size) (fun z hz => by cases hz; exact hBp)
            exact hK.out _ _ ⟨true, true, true, true, b4, b5, b6, true, true, b9, .agg #[.slice ho hn hc, .slice wq wn wc], .pointer (some ⟨r, 0, none⟩), .int .i64 s, .agg #[.slice qo qn qc, .slice ro rn rc], x51, x52, x53, .agg #[.slice eo en ec, .slice fo fn fc], qo, qn, qc, ro, rn, rc, eo, en, ec, fo, fn, fc, (by simp only [Act.put, List.setIfInBounds_toArray, List.set_cons_zero, List.set_cons_succ]), (by simp only [Act.put, List.setIfInBounds_toArray, List.set_cons_zero, List.set_cons_succ]), hb2, (fun _ => rfl), (fun _ => rfl), (fun _ => rfl), (fun _ => rfl), cd4, cd5, cd6, (fun _ => rfl), (fun h => by cases h), (fun h1 => ((f_u.out h1)).far g8 (Ne.symm hpq)), ((f_wz.out).farP g8), ((f_re.out).far g8 hbp), ((f_zr.out).far g8 hrp), (fun h0 => ((f_a.out h0)).far g8 (((f_a.out h0)).ap hpS)), (fun h0 => ((f_b.out h0)).far g8 (((f_b.out h0)).ap hpS)), (fun _ => h8), (fun h0 => ((f_ob.out h0)).far g8 (Ne.symm hpq)), (fun _ => rfl), f_qb, (fun _ => rfl), f_zb⟩
          · rintro L a w ⟨b0, b1, b2, b3, b4, b5, b6, b7, b8, b9, x47, x48, x49, x50, x51, x52, x53, x54, qo, qn, qc, ro, rn, rc, eo, en, ec, fo, fn, fc, rfl, rfl, hb, cd0, cd1, cd2, cd3, cd4, cd5, cd6, cd7, f_v, f_u, f_wz, f_re, f_zr, f_a, f_b, f_oa, f_ob, f_qa, f_qb, f_za, f_zb⟩ hf hd
            have hf' : b9 = false := hf
            subst hf'
            have d7 : b7 = true := hd ⟨7, .data⟩ (by simp) rfl
            subst d7
            have d8 : b8 = true := hd ⟨8, .chain⟩ (by simp) rfl
            subst d8
            have d0 : b0 = true := hd ⟨0, .phase⟩ (by simp) rfl
            subst d0
            have d1 : b1 = true := hd ⟨1, .phase⟩ (by simp) rfl
            subst d1
            have d2 : b2 = true := hd ⟨2, .phase⟩ (by simp) rfl
            subst d2
            have d3 : b3 = true := hd ⟨3, .phase⟩ (by simp) rfl
            subst d3
            have d4 : b4 = true := hd ⟨4, .phase⟩ (by simp) rfl
            subst d4
            have d5 : b5 = true := hd ⟨5, .phase⟩ (by simp) rfl
            subst d5
            have d6 : b6 = true := hd ⟨6, .phase⟩ (by simp) rfl
            subst d6
            obtain rfl := cd7.out rfl
            obtain rfl := cd0.out rfl
            obtain rfl := cd1.out rfl
            obtain rfl := cd2.out rfl
            obtain rfl := cd3.out rfl
            obtain rfl := cd4.out rfl
            obtain rfl := cd5.out rfl
            obtain rfl := cd6.out rfl
            clear hf hd
            have W_u := f_u.out rfl
            have W_wz := f_wz.out
            have W_re := f_re.out
            have W_zr := f_zr.out
            have W_a := f_a.out rfl
            have W_b := f_b.out rfl
            have W_oa := f_oa.out rfl
            have W_qa := f_qa.out rfl
            have W_za := f_za.out rfl
            try simp only [List.setIfInBounds_toArray, List.set_cons_zero, List.set_cons_succ]
            intro K hK
            rw [if_pos (by rfl)]
            refine wp_store_rk _ _ rfl q ko kn kc lo ln lc rfl eo en ec fo fn fc rfl (Lib.hid W_u) fun w2 h8 g8 => ?_
            have hb2 := hb.grown g8 (Nat.le_trans hB0 hb.size) (fun z hz => by cases hz; exact hBq)
            exact hK.out _ _ ⟨true, true, true, true, true, true, true, true, true, true, .agg #[.slice ho hn hc, .slice wq wn wc], .pointer (some ⟨r, 0, none⟩), .int .i64 s, .agg #[.slice qo qn qc, .slice ro rn rc], .agg #[.slice ko kn kc, .slice lo ln lc], .pointer (some ⟨r, 0, none⟩), .int .i64 s, .agg #[.slice eo en ec, .slice fo fn fc], qo, qn, qc, ro, rn, rc, eo, en, ec, fo, fn, fc, (by simp only [Act.put, List.setIfInBounds_toArray, List.set_cons_zero, List.set_cons_succ]), (by simp only [Act.put, List.setIfInBounds_toArray, List.set_cons_zero, List.set_cons_succ]), hb2, (fun _ => rfl), (fun _ => rfl), (fun _ => rfl), (fun _ => rfl), (fun _ => rfl), (fun _ => rfl), (fun _ => rfl), (fun _ => rfl), (fun h => by cases h), (fun h => by cases h), ((f_wz.out).farQ g8), ((f_re.out).far g8 hbq), ((f_zr.out).far g8 hrq), (fun h0 => ((f_a.out h0)).far g8 (((f_a.out h0)).ap hqS)), (fun h0 => ((f_b.out h0)).far g8 (((f_b.out h0)).ap hqS)), (fun h0 => ((f_oa.out h0)).far g8 hpq), (fun _ => h8), f_qa, (fun _ => rfl), f_za, (fun _ => rfl)⟩
        · rintro act V ⟨b0, b1, b2, b3, b4, b5, b6, b7, b8, b9, x47, x48, x49, x50, x51, x52, x53, x54, qo, qn, qc, ro, rn, rc, eo, en, ec, fo, fn, fc, hL, rfl, hb, cd0, cd1, cd2, cd3, cd4, cd5, cd6, cd7, f_v, f_u, f_wz, f_re, f_zr, f_a, f_b, f_oa, f_ob, f_qa, f_qb, f_za, f_zb⟩
          have hL' : [true, true, true, true, true, true, true, true, true, true] = [b0, b1, b2, b3, b4, b5, b6, b7, b8, b9] := congrArg Array.toList hL
          simp only [List.cons.injEq, and_true] at hL'
          obtain ⟨rfl, rfl, rfl, rfl, rfl, rfl, rfl, rfl, rfl, rfl⟩ := hL'
          obtain rfl := cd0.out rfl
          obtain rfl := cd1.out rfl
          obtain rfl := cd2.out rfl
          obtain rfl := cd3.out rfl
          obtain rfl := cd4.out rfl
          obtain rfl := cd5.out rfl
          obtain rfl := cd6.out rfl
          obtain rfl := cd7.out rfl
          have W_wz := f_wz.out
          have W_re := f_re.out
          have W_zr := f_zr.out
          have W_a := f_a.out rfl
          have W_b := f_b.out rfl
          have W_oa := f_oa.out rfl
          have W_ob := f_ob.out rfl
          have W_qa := f_qa.out rfl
          have W_qb := f_qb.out rfl
          have W_za := f_za.out rfl
          have W_zb := f_zb.out rfl
          clear hL f_v f_u f_wz f_re f_zr f_a f_b f_oa f_ob f_qa f_qb f_za f_zb cd0 cd1 cd2 cd3 cd4 cd5 cd6 cd7
          simp only [List.setIfInBounds_toArray, List.set_cons_zero, List.set_cons_succ]
          have D2 : Duo V p q qo qn qc ro rn rc eo en ec fo fn fc H1 W1 := ⟨W_oa, W_a.mono (Nat.zero_le _), W_a.ap hpS, W_a.ap hqS, W_ob, W_b.mono (Nat.zero_le _), W_b.ap hpS, W_b.ap hqS, hpq⟩
          have BV := B.trans ((Below.refl _ _).drew.trans hb)
          clear hb W_oa W_a W_ob W_b W_qa W_qb W_za W_zb W_re W_zr HFA HFB
          have DW := D2
          clear D2
          generalize V = U at DW W_wz BV ⊢
          have B := BV
          clear BV
          have hpW : p0 ≤ U.heap.size := Nat.le_trans hp0 B.size
          have hlH1 := hGG.out.lenH
          have hlW1 := hGG.out.lenW
          obtain ⟨c0_, c1_⟩ := DW.X.c
          obtain ⟨d0_, d1_⟩ := DW.Y.c
          obtain ⟨e0_, e1_⟩ := W_wz.P.c
          obtain ⟨f0_, f1_⟩ := W_wz.T.c
          have hpB := DW.X.lt
          have hqB := DW.Y.lt
          have hxB := W_wz.P.lt
          have hwB := W_wz.T.lt
          go_upto_region 17 with fail
          generalize U = W9 at DW W_wz B hpW c0_ c1_ d0_ d1_ e0_ e1_ f0_ f1_ hpB hqB hxB hwB ⊢
          have hB0 : W9.heap.size ≤ W9.heap.size := Nat.le_refl _
          have HTA := fun (w' : World) (hb : Below W9.heap.size W9.drew w') => toRef_any w' qo qn qc ro rn rc H1 W1 ((DW.RD.past (Below.refl _ _).drew).h.past hb) ((DW.RD.past (Below.refl _ _).drew).w.past hb) (by omega) (by omega)
          have HTB := fun (w' : World) (hb : Below W9.heap.size W9.drew w') => toRef_any w' ho hn hc wq wn wc H0 W0 ((W_wz.RP.past (Below.refl _ _).drew).h.past hb) ((W_wz.RP.past (Below.refl _ _).drew).w.past hb) hl0h hl0w
          have HSA := fun (w' : World) (hb : Below W9.heap.size W9.drew w') (a1 : Option Addr) (a2 a3 : Nat) (a4 : Option Addr) (a5 a6 : Nat) (ha : RdB w' 0 a1 a2 a3 a4 a5 a6 H1 W1) => rsame_lk1 w' a1 a2 a3 a4 a5 a6 eo en ec fo fn fc H1 W1 ha.h ha.w ((DW.RE.past (Below.refl _ _).drew).h.past hb) ((DW.RE.past (Below.refl _ _).drew).w.past hb)
          have HSB := fun (w' : World) (hb : Below W9.heap.size W9.drew w') (a1 : Option Addr) (a2 a3 : Nat) (a4 : Option Addr) (a5 a6 : Nat) (ha : RdB w' 0 a1 a2 a3 a4 a5 a6 H0 W0) => rsame_lk1 w' a1 a2 a3 a4 a5 a6 tw tn tc vo vn vc H0 W0 ha.h ha.w ((W_wz.RT.past (Below.refl _ _).drew).h.past hb) ((W_wz.RT.past (Below.refl _ _).drew).w.past hb)
          clear W_wz
          refine region_inv (Plays17 W9.heap.size p q wb pb qo qn qc ro rn rc eo en ec fo fn fc ho hn hc wq wn wc tw tn tc vo vn vc H0 W0 H1 W1) (by kernel_rfl) (by kernel_rfl) ?_ ?_ ?_
          · exact ⟨false, false, false, false, false, false, false, false, false, false, false, false, u78, u79, u80, u81, u82, u83, u84, u85, u86, u87, u88, u89, none, 0, 0, none, 0, 0, none, 0, 0, none, 0, 0, rfl, (by simp only [Act.put, List.setIfInBounds_toArray, List.set_cons_zero, List.set_cons_succ]), Below.refl _ _, (fun h => by cases h), (fun h => by cases h), (fun h => by cases h), (fun h => by cases h), (fun h => by cases h), (fun h => by cases h), (fun h => by cases h), (fun h => by cases h), (fun h => by cases h), (fun h => by cases h), (fun h => by cases h), (fun h => by cases h), (fun h => by cases h), (fun h => by cases h)⟩
          · refine ⟨?_, ?_, ?_, ?_, ?_, ?_, ?_, ?_, ?_, ?_, ?_, ?_, trivial⟩
            · rintro L a w ⟨b0, b1, b2, b3, b4, b5, b6, b7, b8, b9, b10, b11, x78, x79, x80, x81, x82, x83, x84, x85, x86, x87, x88, x89, ao, an, ac, bo, bn, bc, co, cn, cc, mo, mn, mc, rfl, rfl, hb, cd0, cd1, cd2, cd3, cd4, cd5, cd6, cd7, cd8, cd9, cd10, cd11, f_r1, f_r7⟩ hf hd
              have hf' : b0 = false := hf
              subst hf'
              clear hf hd
              try simp only [List.setIfInBounds_toArray, List.set_cons_zero, List.set_cons_succ]
              have z0 := (hb.cell hpB).trans c0_
              have z1 := (hb.cell hpB).trans c1_
              intro K hK
              rw [if_pos (by rfl)]
              go_simp
              exact hK.out _ _ ⟨true, b1, b2, b3, b4, b5, b6, b7, b8, b9, b10, b11, (.agg #[.slice qo qn qc, .slice ro rn rc]), x79, x80, x81, x82, x83, x84, x85, x86, x87, x88, x89, ao, an, ac, bo, bn, bc, co, cn, cc, mo, mn, mc, (by simp only [Act.put, List.setIfInBounds_toArray, List.set_cons_zero, List.set_cons_succ]), (by simp only [Act.put, List.setIfInBounds_toArray, List.set_cons_zero, List.set_cons_succ]), hb, (fun _ => rfl), cd1, cd2, cd3, cd4, cd5, cd6, cd7, cd8, cd9, cd10, cd11, f_r1, f_r7⟩
            · rintro L a w ⟨b0, b1, b2, b3, b4, b5, b6, b7, b8, b9, b10, b11, x78, x79, x80, x81, x82, x83, x84, x85, x86, x87, x88, x89, ao, an, ac, bo, bn, bc, co, cn, cc, mo, mn, mc, rfl, rfl, hb, cd0, cd1, cd2, cd3, cd4, cd5, cd6, cd7, cd8, cd9, cd10, cd11, f_r1, f_r7⟩ hf hd
              have hf' : b1 = false := hf
              subst hf'
              have d0 : b0 = true := hd ⟨0, .data⟩ (by simp) rfl
              subst d0
              obtain rfl := cd0.out rfl
              clear hf hd
              try simp only [List.setIfInBounds_toArray, List.set_cons_zero, List.set_cons_succ]
              intro K hK
              rw [if_pos (by rfl)]
              go_simp
              go_at_call 51
              refine (HTA _ hb).mono ?_
              rintro e w' ⟨_, rfl, ⟨ao3, an3, ac3, bo3, bn3, bc3, rfl, j1, j2, g1_, g2_⟩, bx⟩
              unfold lkV
              have k1 : RdB w' w.heap.size ao3 an3 ac3 bo3 bn3 bc3 H1 W1 := ⟨j1, j2, g1_, g2_⟩
              exact hK.out _ _ ⟨true, true, b2, b3, b4, b5, b6, b7, b8, b9, b10, b11, .agg #[.slice qo qn qc, .slice ro rn rc], (.agg #[.slice ao3 an3 ac3, .slice bo3 bn3 bc3]), x80, x81, x82, x83, x84, x85, x86, x87, x88, x89, ao3, an3, ac3, bo3, bn3, bc3, co, cn, cc, mo, mn, mc, (by simp only [Act.put, List.setIfInBounds_toArray, List.set_cons_zero, List.set_cons_succ]), (by simp only [Act.put, List.setIfInBounds_toArray, List.set_cons_zero, List.set_cons_succ]), hb.trans (bx.mono (Nat.le_trans hB0 hb.size)), (fun _ => rfl), (fun _ => rfl), cd2, cd3, cd4, cd5, cd6, cd7, cd8, cd9, cd10, cd11, (fun _ => k1.mono (Nat.zero_le _)), (fun h0 => (f_r7.out h0).past bx)⟩
            · rintro L a w ⟨b0, b1, b2, b3, b4, b5, b6, b7, b8, b9, b10, b11, x78, x79, x80, x81, x82, x83, x84, x85, x86, x87, x88, x89, ao, an, ac, bo, bn, bc, co, cn, cc, mo, mn, mc, rfl, rfl, hb, cd0, cd1, cd2, cd3, cd4, cd5, cd6, cd7, cd8, cd9, cd10, cd11, f_r1, f_r7⟩ hf hd
              have hf' : b2 = false := hf
              subst hf'
              clear hf hd
              try simp only [List.setIfInBounds_toArray, List.set_cons_zero, List.set_cons_succ]
              have z0 := (hb.cell hqB).trans d0_
              have z1 := (hb.cell hqB).trans d1_
              intro K hK
              rw [if_pos (by rfl)]
              go_simp
              exact hK.out _ _ ⟨b0, b1, true, b3, b4, b5, b6, b7, b8, b9, b10, b11, x78, x79, (.agg #[.slice eo en ec, .slice fo fn fc]), x81, x82, x83, x84, x85, x86, x87, x88, x89, ao, an, ac, bo, bn, bc, co, cn, cc, mo, mn, mc, (by simp only [Act.put, List.setIfInBounds_toArray, List.set_cons_zero, List.set_cons_succ]), (by simp only [Act.put, List.setIfInBounds_toArray, List.set_cons_zero, List.set_cons_succ]), hb, cd0, cd1, (fun _ => rfl), cd3, cd4, cd5, cd6, cd7, cd8, cd9, cd10, cd11, f_r1, f_r7⟩
            · rintro L a w ⟨b0, b1, b2, b3, b4, b5, b6, b7, b8, b9, b10, b11, x78, x79, x80, x81, x82, x83, x84, x85, x86, x87, x88, x89, ao, an, ac, bo, bn, bc, co, cn, cc, mo, mn, mc, rfl, rfl, hb, cd0, cd1, cd2, cd3, cd4, cd5, cd6, cd7, cd8, cd9, cd10, cd11, f_r1, f_r7⟩ hf hd
              have hf' : b3 = false := hf
              subst hf'
              have d1 : b1 = true := hd ⟨1, .data⟩ (by simp) rfl
              subst d1
              have d2 : b2 = true := hd ⟨2, .data⟩ (by simp) rfl
              subst d2
              obtain rfl := cd1.out rfl
              obtain rfl := cd2.out rfl
              clear hf hd
              have W_r1 := f_r1.out rfl
              try simp only [List.setIfInBounds_toArray, List.set_cons_zero, List.set_cons_succ]
              intro K hK
              rw [if_pos (by rfl)]
              go_simp
              go_at_call 57
              refine (HSA _ hb _ _ _ _ _ _ W_r1).mono ?_
              rintro e w' ⟨rfl, bx⟩
              exact hK.out _ _ ⟨b0, true, true, true, b4, b5, b6, b7, b8, b9, b10, b11, x78, .agg #[.slice ao an ac, .slice bo bn bc], .agg #[.slice eo en ec, .slice fo fn fc], (.bool true), x82, x83, x84, x85, x86, x87, x88, x89, ao, an, ac, bo, bn, bc, co, cn, cc, mo, mn, mc, (by simp only [Act.put, List.setIfInBounds_toArray, List.set_cons_zero, List.set_cons_succ]), (by simp only [Act.put, List.setIfInBounds_toArray, List.set_cons_zero, List.set_cons_succ]), hb.trans (bx.mono (Nat.le_trans hB0 hb.size)), cd0, (fun _ => rfl), (fun _ => rfl), (fun _ => rfl), cd4, cd5, cd6, cd7, cd8, cd9, cd10, cd11, (fun h0 => (f_r1.out h0).past bx), (fun h0 => (f_r7.out h0).past bx)⟩
            · rintro L a w ⟨b0, b1, b2, b3, b4, b5, b6, b7, b8, b9, b10, b11, x78, x79, x80, x81, x82, x83, x84, x85, x86, x87, x88, x89, ao, an, ac, bo, bn, bc, co, cn, cc, mo, mn, mc, rfl, rfl, hb, cd0, cd1, cd2, cd3, cd4, cd5, cd6, cd7, cd8, cd9, cd10, cd11, f_r1, f_r7⟩ hf hd
              have hf' : b4 = false := hf
              subst hf'
              have d3 : b3 = true := hd ⟨3, .data⟩ (by simp) rfl
              subst d3
              obtain rfl := cd3.out rfl
              clear hf hd
              try simp only [List.setIfInBounds_toArray, List.set_cons_zero, List.set_cons_succ]
              intro K hK
              rw [if_pos (by rfl)]
              go_simp
              exact hK.out _ _ ⟨b0, b1, b2, true, true, b5, b6, b7, b8, b9, b10, b11, x78, x79, x80, .bool true, (.bool false), x83, x84, x85, x86, x87, x88, x89, ao, an, ac, bo, bn, bc, co, cn, cc, mo, mn, mc, (by simp only [Act.put, List.setIfInBounds_toArray, List.set_cons_zero, List.set_cons_succ]), (by simp only [Act.put, List.setIfInBounds_toArray, List.set_cons_zero, List.set_cons_succ]), hb, cd0, cd1, cd2, (fun _ => rfl), (fun _ => rfl), cd5, cd6, cd7, cd8, cd9, cd10, cd11, f_r1, f_r7⟩
            · rintro L a w ⟨b0, b1, b2, b3, b4, b5, b6, b7, b8, b9, b10, b11, x78, x79, x80, x81, x82, x83, x84, x85, x86, x87, x88, x89, ao, an, ac, bo, bn, bc, co, cn, cc, mo, mn, mc, rfl, rfl, hb, cd0, cd1, cd2, cd3, cd4, cd5, cd6, cd7, cd8, cd9, cd10, cd11, f_r1, f_r7⟩ hf hd
              have hf' : b5 = false := hf
              subst hf'
              have d4 : b4 = true := hd ⟨4, .data⟩ (by simp) rfl
              subst d4
              have d3 : b3 = true := hd ⟨3, .chain⟩ (by simp) rfl
              subst d3
              obtain rfl := cd4.out rfl
              obtain rfl := cd3.out rfl
              clear hf hd
              try simp only [List.setIfInBounds_toArray, List.set_cons_zero, List.set_cons_succ]
              intro K hK
              rw [if_pos (by rfl)]
              go_simp
              exact hK.out _ _ ⟨b0, b1, b2, true, true, true, b6, b7, b8, b9, b10, b11, x78, x79, x80, .bool true, .bool false, (.bool false), x84, x85, x86, x87, x88, x89, ao, an, ac, bo, bn, bc, co, cn, cc, mo, mn, mc, (by simp only [Act.put, List.setIfInBounds_toArray, List.set_cons_zero, List.set_cons_succ]), (by simp only [Act.put, List.setIfInBounds_toArray, List.set_cons_zero, List.set_cons_succ]), hb, cd0, cd1, cd2, (fun _ => rfl), (fun _ => rfl), (fun _ => rfl), cd6, cd7, cd8, cd9, cd10, cd11, f_r1, f_r7⟩
            · rintro L a w ⟨b0, b1, b2, b3, b4, b5, b6, b7, b8, b9, b10, b11, x78, x79, x80, x81, x82, x83, x84, x85, x86, x87, x88, x89, ao, an, ac, bo, bn, bc, co, cn, cc, mo, mn, mc, rfl, rfl, hb, cd0, cd1, cd2, cd3, cd4, cd5, cd6, cd7, cd8, cd9, cd10, cd11, f_r1, f_r7⟩ hf hd
              have hf' : b6 = false := hf
              subst hf'
              have d5 : b5 = true := hd ⟨5, .guard⟩ (by simp) rfl
              subst d5
              obtain rfl := cd5.out rfl
              clear hf hd
              try simp only [List.setIfInBounds_toArray, List.set_cons_zero, List.set_cons_succ]
              have z0 := (hb.cell hxB).trans e0_
              have z1 := (hb.cell hxB).trans e1_
              intro K hK
              rw [if_pos (by rfl)]
              go_simp
              exact hK.out _ _ ⟨b0, b1, b2, b3, b4, true, true, b7, b8, b9, b10, b11, x78, x79, x80, x81, x82, .bool false, (.agg #[.slice ho hn hc, .slice wq wn wc]), x85, x86, x87, x88, x89, ao, an, ac, bo, bn, bc, co, cn, cc, mo, mn, mc, (by simp only [Act.put, List.setIfInBounds_toArray, List.set_cons_zero, List.set_cons_succ]), (by simp only [Act.put, List.setIfInBounds_toArray, List.set_cons_zero, List.set_cons_succ]), hb, cd0, cd1, cd2, cd3, cd4, (fun _ => rfl), (fun _ => rfl), cd7, cd8, cd9, cd10, cd11, f_r1, f_r7⟩
            · rintro L a w ⟨b0, b1, b2, b3, b4, b5, b6, b7, b8, b9, b10, b11, x78, x79, x80, x81, x82, x83, x84, x85, x86, x87, x88, x89, ao, an, ac, bo, bn, bc, co, cn, cc, mo, mn, mc, rfl, rfl, hb, cd0, cd1, cd2, cd3, cd4, cd5, cd6, cd7, cd8, cd9, cd10, cd11, f_r1, f_r7⟩ hf hd
              have hf' : b7 = false := hf
              subst hf'
              have d6 : b6 = true := hd ⟨6, .data⟩ (by simp) rfl
              subst d6
              have d5 : b5 = true := hd ⟨5, .chain⟩ (by simp) rfl
              subst d5
              obtain rfl := cd6.out rfl
              obtain rfl := cd5.out rfl
              clear hf hd
              try simp only [List.setIfInBounds_toArray, List.set_cons_zero, List.set_cons_succ]
              intro K hK
              rw [if_pos (by rfl)]
              go_simp
              go_at_call 51
              refine (HTB _ hb).mono ?_
              rintro e w' ⟨_, rfl, ⟨co3, cn3, cc3, mo3, mn3, mc3, rfl, j1, j2, g1_, g2_⟩, bx⟩
              unfold lkV
              have k7 : RdB w' w.heap.size co3 cn3 cc3 mo3 mn3 mc3 H0 W0 := ⟨j1, j2, g1_, g2_⟩
              exact hK.out _ _ ⟨b0, b1, b2, b3, b4, true, true, true, b8, b9, b10, b11, x78, x79, x80, x81, x82, .bool false, .agg #[.slice ho hn hc, .slice wq wn wc], (.agg #[.slice co3 cn3 cc3, .slice mo3 mn3 mc3]), x86, x87, x88, x89, ao, an, ac, bo, bn, bc, co3, cn3, cc3, mo3, mn3, mc3, (by simp only [Act.put, List.setIfInBounds_toArray, List.set_cons_zero, List.set_cons_succ]), (by simp only [Act.put, List.setIfInBounds_toArray, List.set_cons_zero, List.set_cons_succ]), hb.trans (bx.mono (Nat.le_trans hB0 hb.size)), cd0, cd1, cd2, cd3, cd4, (fun _ => rfl), (fun _ => rfl), (fun _ => rfl), cd8, cd9, cd10, cd11, (fun h0 => (f_r1.out h0).past bx), (fun _ => k7.mono (Nat.zero_le _))⟩
            · rintro L a w ⟨b0, b1, b2, b3, b4, b5, b6, b7, b8, b9, b10, b11, x78, x79, x80, x81, x82, x83, x84, x85, x86, x87, x88, x89, ao, an, ac, bo, bn, bc, co, cn, cc, mo, mn, mc, rfl, rfl, hb, cd0, cd1, cd2, cd3, cd4, cd5, cd6, cd7, cd8, cd9, cd10, cd11, f_r1, f_r7⟩ hf hd
              have hf' : b8 = false := hf
              subst hf'
              have d5 : b5 = true := hd ⟨5, .guard⟩ (by simp) rfl
              subst d5
              obtain rfl := cd5.out rfl
              clear hf hd
              try simp only [List.setIfInBounds_toArray, List.set_cons_zero, List.set_cons_succ]
              have z0 := (hb.cell hwB).trans f0_
              have z1 := (hb.cell hwB).trans f1_
              intro K hK
              rw [if_pos (by rfl)]
              go_simp
              exact hK.out _ _ ⟨b0, b1, b2, b3, b4, true, b6, b7, true, b9, b10, b11, x78, x79, x80, x81, x82, .bool false, x84, x85, (.agg #[.slice tw tn tc, .slice vo vn vc]), x87, x88, x89, ao, an, ac, bo, bn, bc, co, cn, cc, mo, mn, mc, (by simp only [Act.put, List.setIfInBounds_toArray, List.set_cons_zero, List.set_cons_succ]), (by simp only [Act.put, List.setIfInBounds_toArray, List.set_cons_zero, List.set_cons_succ]), hb, cd0, cd1, cd2, cd3, cd4, (fun _ => rfl), cd6, cd7, (fun _ => rfl), cd9, cd10, cd11, f_r1, f_r7⟩
            · rintro L a w ⟨b0, b1, b2, b3, b4, b5, b6, b7, b8, b9, b10, b11, x78, x79, x80, x81, x82, x83, x84, x85, x86, x87, x88, x89, ao, an, ac, bo, bn, bc, co, cn, cc, mo, mn, mc, rfl, rfl, hb, cd0, cd1, cd2, cd3, cd4, cd5, cd6, cd7, cd8, cd9, cd10, cd11, f_r1, f_r7⟩ hf hd
              have hf' : b9 = false := hf
              subst hf'
              have d7 : b7 = true := hd ⟨7, .data⟩ (by simp) rfl
              subst d7
              have d8 : b8 = true := hd ⟨8, .data⟩ (by simp) rfl
              subst d8
              have d5 : b5 = true := hd ⟨5, .guard⟩ (by simp) rfl
              subst d5
              obtain rfl := cd7.out rfl
              obtain rfl := cd8.out rfl
              obtain rfl := cd5.out rfl
              clear hf hd
              have W_r7 := f_r7.out rfl
              try simp only [List.setIfInBounds_toArray, List.set_cons_zero, List.set_cons_succ]
              intro K hK
              rw [if_pos (by rfl)]
              go_simp
              go_at_call 57
              refine (HSB _ hb _ _ _ _ _ _ W_r7).mono ?_
              rintro e w' ⟨rfl, bx⟩
              exact hK.out _ _ ⟨b0, b1, b2, b3, b4, true, b6, true, true, true, b10, b11, x78, x79, x80, x81, x82, .bool false, x84, .agg #[.slice co cn cc, .slice mo mn mc], .agg #[.slice tw tn tc, .slice vo vn vc], (.bool true), x88, x89, ao, an, ac, bo, bn, bc, co, cn, cc, mo, mn, mc, (by simp only [Act.put, List.setIfInBounds_toArray, List.set_cons_zero, List.set_cons_succ]), (by simp only [Act.put, List.setIfInBounds_toArray, List.set_cons_zero, List.set_cons_succ]), hb.trans (bx.mono (Nat.le_trans hB0 hb.size)), cd0, cd1, cd2, cd3, cd4, (fun _ => rfl), cd6, (fun _ => rfl), (fun _ => rfl), (fun _ => rfl), cd10, cd11, (fun h0 => (f_r1.out h0).past bx), (fun h0 => (f_r7.out h0).past bx)⟩
            · rintro L a w ⟨b0, b1, b2, b3, b4, b5, b6, b7, b8, b9, b10, b11, x78, x79, x80, x81, x82, x83, x84, x85, x86, x87, x88, x89, ao, an, ac, bo, bn, bc, co, cn, cc, mo, mn, mc, rfl, rfl, hb, cd0, cd1, cd2, cd3, cd4, cd5, cd6, cd7, cd8, cd9, cd10, cd11, f_r1, f_r7⟩ hf hd
              have hf' : b10 = false := hf
              subst hf'
              have d9 : b9 = true := hd ⟨9, .data⟩ (by simp) rfl
              subst d9
              have d5 : b5 = true := hd ⟨5, .guard⟩ (by simp) rfl
              subst d5
              obtain rfl := cd9.out rfl
              obtain rfl := cd5.out rfl
              clear hf hd
              try simp only [List.setIfInBounds_toArray, List.set_cons_zero, List.set_cons_succ]
              intro K hK
              rw [if_pos (by rfl)]
              go_simp
              exact hK.out _ _ ⟨b0, b1, b2, b3, b4, true, b6, b7, b8, true, true, b11, x78, x79, x80, x81, x82, .bool false, x84, x85, x86, .bool true, (.bool false), x89, ao, an, ac, bo, bn, bc, co, cn, cc, mo, mn, mc, (by simp only [Act.put, List.setIfInBounds_toArray, List.set_cons_zero, List.set_cons_succ]), (by simp only [Act.put, List.setIfInBounds_toArray, List.set_cons_zero, List.set_cons_succ]), hb, cd0, cd1, cd2, cd3, cd4, (fun _ => rfl), cd6, cd7, cd8, (fun _ => rfl), (fun _ => rfl), cd11, f_r1, f_r7⟩
            · rintro L a w ⟨b0, b1, b2, b3, b4, b5, b6, b7, b8, b9, b10, b11, x78, x79, x80, x81, x82, x83, x84, x85, x86, x87, x88, x89, ao, an, ac, bo, bn, bc, co, cn, cc, mo, mn, mc, rfl, rfl, hb, cd0, cd1, cd2, cd3, cd4, cd5, cd6, cd7, cd8, cd9, cd10, cd11, f_r1, f_r7⟩ hf hd
              have hf' : b11 = false := hf
              subst hf'
              have d5 : b5 = true := hd ⟨5, .data⟩ (by simp) rfl
              subst d5
              have d10 : b10 = true := hd ⟨10, .data⟩ (by simp) rfl
              subst d10
              obtain rfl := cd5.out rfl
              obtain rfl := cd10.out rfl
              clear hf hd
              try simp only [List.setIfInBounds_toArray, List.set_cons_zero, List.set_cons_succ]
              intro K hK
              rw [if_pos (by rfl)]
              go_simp
              exact hK.out _ _ ⟨b0, b1, b2, b3, b4, true, b6, b7, b8, b9, true, true, x78, x79, x80, x81, x82, .bool false, x84, x85, x86, x87, .bool false, (.bool false), ao, an, ac, bo, bn, bc, co, cn, cc, mo, mn, mc, (by simp only [Act.put, List.setIfInBounds_toArray, List.set_cons_zero, List.set_cons_succ]), (by simp only [Act.put, List.setIfInBounds_toArray, List.set_cons_zero, List.set_cons_succ]), hb, cd0, cd1, cd2, cd3, cd4, (fun _ => rfl), cd6, cd7, cd8, cd9, (fun _ => rfl), (fun _ => rfl), f_r1, f_r7⟩
          · rintro act V ⟨b0, b1, b2, b3, b4, b5, b6, b7, b8, b9, b10, b11, x78, x79, x80, x81, x82, x83, x84, x85, x86, x87, x88, x89, ao, an, ac, bo, bn, bc, co, cn, cc, mo, mn, mc, hL, rfl, hb, cd0, cd1, cd2, cd3, cd4, cd5, cd6, cd7, cd8, cd9, cd10, cd11, f_r1, f_r7⟩
            have hL' : [true, true, true, true, true, true, true, true, true, true, true, true] = [b0, b1, b2, b3, b4, b5, b6, b7, b8, b9, b10, b11] := congrArg Array.toList hL
            simp only [List.cons.injEq, and_true] at hL'
            obtain ⟨rfl, rfl, rfl, rfl, rfl, rfl, rfl, rfl, rfl, rfl, rfl, rfl⟩ := hL'
            obtain rfl := cd0.out rfl
            obtain rfl := cd1.out rfl
            obtain rfl := cd2.out rfl
            obtain rfl := cd3.out rfl
            obtain rfl := cd4.out rfl
            obtain rfl := cd5.out rfl
            obtain rfl := cd6.out rfl
            obtain rfl := cd7.out rfl
            obtain rfl := cd8.out rfl
            obtain rfl := cd9.out rfl
            obtain rfl := cd10.out rfl
            obtain rfl := cd11.out rfl
            have W_r1 := f_r1.out rfl
            have W_r7 := f_r7.out rfl
            clear hL f_r1 f_r7 cd0 cd1 cd2 cd3 cd4 cd5 cd6 cd7 cd8 cd9 cd10 cd11
            simp only [List.setIfInBounds_toArray, List.set_cons_zero, List.set_cons_succ]
            have BV9 : Below W9.heap.size W9 V := (Below.refl _ _).drew.trans hb
            clear hb W_r1 W_r7 HTA HTB HSA HSB c0_ c1_ d0_ d1_ e0_ e1_ f0_ f1_
            have D2 := DW.past BV9
            have BV := B.trans (BV9.mono hpW)
            clear DW BV9 B
            have hpU : p0 ≤ V.heap.size := Nat.le_trans hp0 BV.size
            generalize V = U at D2 BV hpU ⊢
            have BU0 : Below U.heap.size U U := Below.refl _ _
            go_wp2_with fail
            go_loopw [13] (fun zs wr => ∃ j : Nat, j ≤ 8 ∧ zs = .int .i64 (j : Nat) ∧ Below U.heap.size U wr) (fun zs _ => 8 - (intOf zs).toNat)
            case atStart => exact ⟨0, by omega, rfl, BU0⟩
            case round =>
              clear BU0
              obtain ⟨j, hj, rfl, BU⟩ := hrel
              by_cases hlt : j < 8
              · have hlti : (j : Int) < 8 := by omega
                have DJ := D2.past BU
                obtain ⟨c0_, c1_⟩ := DJ.X.c
                have HV := victim_any wr (lkV qo qn qc ro rn rc) H1 W1 ⟨_, _, _, _, _, _, rfl, DJ.RD.h, DJ.RD.w⟩ (by omega) (by omega) (fun y hy => wf_sm2 (hGG.out.smH y hy)) (fun y hy => wf_sm2 (hGG.out.smW y hy)) (j : Int) (wf_sm2 (by omega))
                unfold lkV at HV
                go_upto_region 23 with (go_at_call 58; refine HV.mono ?_; rintro e v1 ⟨vv_, ok, rfl, hV1, b1⟩)
                have DJ := DJ.past b1
                clear c0_ c1_ HV
                obtain ⟨d0_, d1_⟩ := DJ.Y.c
                have HV2 := rvictim_any v1 eo en ec fo fn fc H1 W1 DJ.RE.h DJ.RE.w (by have := DJ.RE.h.len; omega) (by have := DJ.RE.w.len; omega) (j : Int)
                go_upto_region 24 with (go_at_call 59; refine HV2.mono ?_; rintro e v2 ⟨vv2, ok2, rfl, hV2, b2⟩)
                obtain ⟨rfl, rfl⟩ := Vic.unique hV1 hV2
                have f1 : (vv_ != vv_) = false := by simp
                have f2 : (ok != ok) = false := by simp
                have BJ := (BU.trans (b1.mono BU.size)).trans (b2.mono (Nat.le_trans BU.size b1.size))
                clear hV1 hV2 HV2 d0_ d1_
                go_wp2_with fail
                go_roundw
                case rel => exact ⟨j + 1, by omega, by go_num, BJ⟩
                case measure => simp [intOf]; omega
              · have hlti : ¬ ((j : Int) < 8) := by omega
                have DJ : DuoAt wr p q H1 W1 := ⟨_, _, _, _, _, _, _, _, _, _, _, _, D2.past BU⟩
                have BJ := BV.trans (BU.mono hpU)
                go_wp2_with fail
                go_roundw
                case rel => exact ⟨i + 1, H1, W1, by omega, by omega, by go_num, DJ, hGG, BJ⟩
                case measure => simp [intOf]; omega
      · have h5b : (KK == 5) = false := by simp [h5]
        clear h5
        have hGG : Hid (Good (i + 1) (askH H ⟨s, t, x⟩) (askW H W ⟨s, t, x⟩)) := Lib.hid (hG.out.ask hsm)
        have hApt : Hid (Apt H) := Lib.hid hG.out.apt
        obtain ⟨H1, hH1⟩ : ∃ z_, z_ = askH H ⟨s, t, x⟩ := ⟨_, rfl⟩
        obtain ⟨W1, hW1⟩ : ∃ z_, z_ = askW H W ⟨s, t, x⟩ := ⟨_, rfl⟩
        obtain ⟨ab, hab⟩ : ∃ z_, z_ = askB H ⟨s, t, x⟩ := ⟨_, rfl⟩
        rw [← hH1, ← hW1] at hGG
        have hlh := DD.RE.h.len
        have hlw := DD.RE.w.len
        go_upto_region 12 with (go_at_call 52; refine (HWk _).mono ?_; rintro e w2 ⟨rfl, rfl⟩)
        have HK := ask_rd U2 ho hn hc wq wn wc H W H1 W1 ab ⟨s, t, x⟩ DD.RD hH1.symm hW1.symm hab.symm (by omega) (by omega)
        simp only at HK
        have hH1h := Lib.hid hH1
        have hW1h := Lib.hid hW1
        have habh := Lib.hid hab
        clear HWk a0_ hH1 hW1 hab
        obtain ⟨c0, c1⟩ := DD.X.c
        obtain ⟨z0_, z1_, z2_⟩ := ZR.c
        simp only at z0_ z1_ z2_
        go_upto_region 13 with (go_at_call 55; refine HK.mono ?_; rintro e v1 ⟨_, rfl, ⟨qo, qn, qc, ro, rn, rc, rfl, j1, j2, g1, g2⟩, b1⟩; unfold lkV)
        have bA : Below v1.heap.size v1 (v1.alloc (.cells #[.slice qo qn qc, .slice ro rn rc] 96)) := (Below.refl _ _).alloc (Nat.le_refl _) _
        have XB : LkB (v1.alloc (.cells #[.slice qo qn qc, .slice ro rn rc] 96)) v1.heap.size qo qn qc ro rn rc 96 := heap_alloc_new v1 _
        have RA0 : RdB v1 U2.heap.size qo qn qc ro rn rc H1 W1 := ⟨j1, j2, g1, g2⟩
        have aap := RA0.ap DD.X.lt
        have aaq := RA0.ap DD.Y.lt
        have hgp : v1.heap.size ≠ p := by have h1 := DD.X.lt; have := b1.size; omega
        have hgq : v1.heap.size ≠ q := by have h1 := DD.Y.lt; have := b1.size; omega
        have RA := (RA0.past bA).mono (Nat.zero_le _)
        have b3 := b1.trans (bA.mono b1.size)
        have DD := DD.past b3
        have ZR := ZR.past b3
        have WZ := WZ.past b3
        have B := B.trans (b3.mono hBw)
        clear b3 bA b1 HK c0 c1 z0_ z1_ z2_ RA0 j1 j2 g1 g2 hBw X Y RE
        generalize v1.alloc (.cells #[.slice qo qn qc, .slice ro rn rc] 96) = U3 at XB RA ZR WZ DD B ⊢
        obtain ⟨gb, hgb⟩ : ∃ z_, v1.heap.size = z_ := ⟨_, rfl⟩
        rw [hgb] at XB hgp hgq
        simp only [hgb]
        clear hgb
        have hBw := Nat.le_trans hp0 B.size
        have HR := rask_any U3 ko kn kc lo ln lc H W DD.RE.h DD.RE.w (by omega) (by omega) hApt ⟨s, t, x⟩
        unfold Hd.val at HR
        rw [← hH1h.out, ← hW1h.out, ← habh.out] at HR
        simp only at HR
        clear hH1h hW1h habh
        obtain ⟨d0, d1⟩ := DD.Y.c
        obtain ⟨z0_, z1_, z2_⟩ := ZR.c
        simp only at z0_ z1_ z2_
        go_upto_region 14 with (go_at_call 56; refine HR.mono ?_; rintro e v1 ⟨_, rfl, ⟨eo, en, ec, fo, fn, fc, rfl, j1, j2, g1, g2⟩, b1⟩; unfold lkV)
        have bA : Below v1.heap.size v1 (v1.alloc (.cells #[.slice eo en ec, .slice fo fn fc] 99)) := (Below.refl _ _).alloc (Nat.le_refl _) _
        have YB : LkB (v1.alloc (.cells #[.slice eo en ec, .slice fo fn fc] 99)) v1.heap.size eo en ec fo fn fc 99 := heap_alloc_new v1 _
        have abp := RkF.ap DD.X.lt DD.bp.1 g1 g2
        have abq := RkF.ap DD.Y.lt DD.bq.1 g1 g2
        have RB0 : RdB v1 0 eo en ec fo fn fc H1 W1 := ⟨j1, j2, fun _ _ _ => Nat.zero_le _, fun _ _ _ => Nat.zero_le _⟩
        have hyp : v1.heap.size ≠ p := by have h1 := DD.X.lt; have := b1.size; omega
        have hyq : v1.heap.size ≠ q := by have h1 := DD.Y.lt; have := b1.size; omega
        have RB := RB0.past bA
        have b3 := b1.trans (bA.mono b1.size)
        have DD := DD.past b3
        have WZ := WZ.past b3
        have XB := XB.past b3
        have RA := RA.past b3
        have B := B.trans (b3.mono hBw)
        have hab2 : (ab != ab) = false := by simp
        clear b3 bA b1 HR d0 d1 z0_ z1_ z2_ RB0 j1 j2 g1 g2 hBw ZR hApt hlh hlw
        generalize v1.alloc (.cells #[.slice eo en ec, .slice fo fn fc] 99) = U4 at XB RA YB RB WZ DD B ⊢
        obtain ⟨gy, hgy⟩ : ∃ z_, v1.heap.size = z_ := ⟨_, rfl⟩
        rw [hgy] at YB hyp hyq
        simp only [hgy]
        clear hgy
        have X := DD.X
        have Y := DD.Y
        go_upto_region 16 with fail
        clear hG hGh hGw
        generalize H = H0 at WZ hl0h ⊢
        generalize W = W0 at WZ hl0w ⊢
        obtain ⟨S, hSe⟩ : ∃ S, U4.heap.size = S := ⟨_, rfl⟩
        have hB0 : p0 ≤ U4.heap.size := Nat.le_trans hpp (Nat.le_of_lt DD.X.lt)
        clear hSe
        clear DD
        refine region_inv (Plays16 p0 S p q wb pb ho hn hc wq wn wc ko kn kc lo ln lc tw tn tc vo vn vc H0 W0 H1 W1 gb gy qo qn qc ro rn rc eo en ec fo fn fc) (by kernel_rfl) (by kernel_rfl) ?_ ?_ ?_
        · exact ⟨false, false, false, false, u76, u77, rfl, (by simp only [Act.put, List.setIfInBounds_toArray, List.set_cons_zero, List.set_cons_succ]), Below.refl _ _, (fun h => by cases h), (fun h => by cases h), (fun h1 => X.past (Below.refl _ _).drew), (fun h1 => Y.past (Below.refl _ _).drew), (WZ.past (Below.refl _ _).drew), (RA.past (Below.refl _ _).drew), (RB.past (Below.refl _ _).drew), (XB.past (Below.refl _ _).drew), (YB.past (Below.refl _ _).drew), (fun h => by cases h), (fun h => by cases h)⟩
        · refine ⟨?_, ?_, ?_, ?_, trivial⟩
          · rintro L a w ⟨b0, b1, b2, b3, x76, x77, rfl, rfl, hb, cd0, cd1, f_v, f_u, f_wz, f_a, f_b, f_xb, f_yb, f_oa, f_ob⟩ hf hd
            have hf' : b0 = false := hf
            subst hf'
            clear hf hd
            have W_wz := f_wz.out
            have W_a := f_a.out
            have W_b := f_b.out
            have W_xb := f_xb.out
            have W_yb := f_yb.out
            try simp only [List.setIfInBounds_toArray, List.set_cons_zero, List.set_cons_succ]
            obtain ⟨z0, z1⟩ := W_xb.c
            intro K hK
            rw [if_pos (by rfl)]
            go_simp
            exact hK.out _ _ ⟨true, b1, b2, b3, (.agg #[.slice qo qn qc, .slice ro rn rc]), x77, (by simp only [Act.put, List.setIfInBounds_toArray, List.set_cons_zero, List.set_cons_succ]), (by simp only [Act.put, List.setIfInBounds_toArray, List.set_cons_zero, List.set_cons_succ]), hb, (fun _ => rfl), cd1, f_v, f_u, f_wz, f_a, f_b, f_xb, f_yb, f_oa, f_ob⟩
          · rintro L a w ⟨b0, b1, b2, b3, x76, x77, rfl, rfl, hb, cd0, cd1, f_v, f_u, f_wz, f_a, f_b, f_xb, f_yb, f_oa, f_ob⟩ hf hd
            have hf' : b1 = false := hf
            subst hf'
            clear hf hd
            have W_wz := f_wz.out
            have W_a := f_a.out
            have W_b := f_b.out
            have W_xb := f_xb.out
            have W_yb := f_yb.out
            try simp only [List.setIfInBounds_toArray, List.set_cons_zero, List.set_cons_succ]
            obtain ⟨z0, z1⟩ := W_yb.c
            intro K hK
            rw [if_pos (by rfl)]
            go_simp
            exact hK.out _ _ ⟨b0, true, b2, b3, x76, (.agg #[.slice eo en ec, .slice fo fn fc]), (by simp only [Act.put, List.setIfInBounds_toArray, List.set_cons_zero, List.set_cons_succ]), (by simp only [Act.put, List.setIfInBounds_toArray, List.set_cons_zero, List.set_cons_succ]), hb, cd0, (fun _ => rfl), f_v, f_u, f_wz, f_a, f_b, f_xb, f_yb, f_oa, f_ob⟩
          · rintro L a w ⟨b0, b1, b2, b3, x76, x77, rfl, rfl, hb, cd0, cd1, f_v, f_u, f_wz, f_a, f_b, f_xb, f_yb, f_oa, f_ob⟩ hf hd
            have hf' : b2 = false := hf
            subst hf'
            have d0 : b0 = true := hd ⟨0, .data⟩ (by simp) rfl
            subst d0
            obtain rfl := cd0.out rfl
            clear hf hd
            have W_v := f_v.out rfl
            have W_wz := f_wz.out
            have W_a := f_a.out
            have W_b := f_b.out
            have W_xb := f_xb.out
            have W_yb := f_yb.out
            try simp only [List.setIfInBounds_toArray, List.set_cons_zero, List.set_cons_succ]
            intro K hK
            rw [if_pos (by rfl)]
            refine wp_store_lk _ _ rfl p ho hn hc wq wn wc rfl qo qn qc ro rn rc rfl (Lib.hid W_v) fun w2 h8 g8 => ?_
            have hb2 := hb.grown g8 (Nat.le_trans hB0 hb.size) (fun z hz => by cases hz; exact hBp)
            exact hK.out _ _ ⟨true, b1, true, b3, .agg #[.slice qo qn qc, .slice ro rn rc], x77, (by simp only [Act.put, List.setIfInBounds_toArray, List.set_cons_zero, List.set_cons_succ]), (by simp only [Act.put, List.setIfInBounds_toArray, List.set_cons_zero, List.set_cons_succ]), hb2, (fun _ => rfl), cd1, (fun h => by cases h), (fun h1 => ((f_u.out h1)).far g8 (Ne.symm hpq)), ((f_wz.out).farP g8), ((f_a.out).far g8 aap), ((f_b.out).far g8 abp), ((f_xb.out).far g8 hgp), ((f_yb.out).far g8 hyp), (fun _ => h8), (fun h0 => ((f_ob.out h0)).far g8 (Ne.symm hpq))⟩
          · rintro L a w ⟨b0, b1, b2, b3, x76, x77, rfl, rfl, hb, cd0, cd1, f_v, f_u, f_wz, f_a, f_b, f_xb, f_yb, f_oa, f_ob⟩ hf hd
            have hf' : b3 = false := hf
            subst hf'
            have d1 : b1 = true := hd ⟨1, .data⟩ (by simp) rfl
            subst d1
            have d2 : b2 = true := hd ⟨2, .chain⟩ (by simp) rfl
            subst d2
            have d0 : b0 = true := hd ⟨0, .phase⟩ (by simp) rfl
            subst d0
            obtain rfl := cd1.out rfl
            obtain rfl := cd0.out rfl
            clear hf hd
            have W_u := f_u.out rfl
            have W_wz := f_wz.out
            have W_a := f_a.out
            have W_b := f_b.out
            have W_xb := f_xb.out
            have W_yb := f_yb.out
            have W_oa := f_oa.out rfl
            try simp only [List.setIfInBounds_toArray, List.set_cons_zero, List.set_cons_succ]
            intro K hK
            rw [if_pos (by rfl)]
            refine wp_store_rk _ _ rfl q ko kn kc lo ln lc rfl eo en ec fo fn fc rfl (Lib.hid W_u) fun w2 h8 g8 => ?_
            have hb2 := hb.grown g8 (Nat.le_trans hB0 hb.size) (fun z hz => by cases hz; exact hBq)
            exact hK.out _ _ ⟨true, true, true, true, .agg #[.slice qo qn qc, .slice ro rn rc], .agg #[.slice eo en ec, .slice fo fn fc], (by simp only [Act.put, List.setIfInBounds_toArray, List.set_cons_zero, List.set_cons_succ]), (by simp only [Act.put, List.setIfInBounds_toArray, List.set_cons_zero, List.set_cons_succ]), hb2, (fun _ => rfl), (fun _ => rfl), (fun h => by cases h), (fun h => by cases h), ((f_wz.out).farQ g8), ((f_a.out).far g8 aaq), ((f_b.out).far g8 abq), ((f_xb.out).far g8 hgq), ((f_yb.out).far g8 hyq), (fun h0 => ((f_oa.out h0)).far g8 hpq), (fun _ => h8)⟩
        · rintro act V ⟨b0, b1, b2, b3, x76, x77, hL, rfl, hb, cd0, cd1, f_v, f_u, f_wz, f_a, f_b, f_xb, f_yb, f_oa, f_ob⟩
          have hL' : [true, true, true, true] = [b0, b1, b2, b3] := congrArg Array.toList hL
          simp only [List.cons.injEq, and_true] at hL'
          obtain ⟨rfl, rfl, rfl, rfl⟩ := hL'
          obtain rfl := cd0.out rfl
          obtain rfl := cd1.out rfl
          have W_wz := f_wz.out
          have W_a := f_a.out
          have W_b := f_b.out
          have W_xb := f_xb.out
          have W_yb := f_yb.out
          have W_oa := f_oa.out rfl
          have W_ob := f_ob.out rfl
          clear hL f_v f_u f_wz f_a f_b f_xb f_yb f_oa f_ob cd0 cd1
          simp only [List.setIfInBounds_toArray, List.set_cons_zero, List.set_cons_succ]
          have D2 : Duo V p q qo qn qc ro rn rc eo en ec fo fn fc H1 W1 := ⟨W_oa, W_a, aap, aaq, W_ob, W_b, abp, abq, hpq⟩
          have BV := B.trans ((Below.refl _ _).drew.trans hb)
          clear hb W_oa W_a W_ob W_b W_xb W_yb
          have DW := D2
          clear D2
          generalize V = U at DW W_wz BV ⊢
          have B := BV
          clear BV
          have hpW : p0 ≤ U.heap.size := Nat.le_trans hp0 B.size
          have hlH1 := hGG.out.lenH
          have hlW1 := hGG.out.lenW
          obtain ⟨c0_, c1_⟩ := DW.X.c
          obtain ⟨d0_, d1_⟩ := DW.Y.c
          obtain ⟨e0_, e1_⟩ := W_wz.P.c
          obtain ⟨f0_, f1_⟩ := W_wz.T.c
          have hpB := DW.X.lt
          have hqB := DW.Y.lt
          have hxB := W_wz.P.lt
          have hwB := W_wz.T.lt
          go_upto_region 17 with fail
          generalize U = W9 at DW W_wz B hpW c0_ c1_ d0_ d1_ e0_ e1_ f0_ f1_ hpB hqB hxB hwB ⊢
          have hB0 : W9.heap.size ≤ W9.heap.size := Nat.le_refl _
          have HTA := fun (w' : World) (hb : Below W9.heap.size W9.drew w') => toRef_any w' qo qn qc ro rn rc H1 W1 ((DW.RD.past (Below.refl _ _).drew).h.past hb) ((DW.RD.past (Below.refl _ _).drew).w.past hb) (by omega) (by omega)
          have HTB := fun (w' : World) (hb : Below W9.heap.size W9.drew w') => toRef_any w' ho hn hc wq wn wc H0 W0 ((W_wz.RP.past (Below.refl _ _).drew).h.past hb) ((W_wz.RP.past (Below.refl _ _).drew).w.past hb) hl0h hl0w
          have HSA := fun (w' : World) (hb : Below W9.heap.size W9.drew w') (a1 : Option Addr) (a2 a3 : Nat) (a4 : Option Addr) (a5 a6 : Nat) (ha : RdB w' 0 a1 a2 a3 a4 a5 a6 H1 W1) => rsame_lk1 w' a1 a2 a3 a4 a5 a6 eo en ec fo fn fc H1 W1 ha.h ha.w ((DW.RE.past (Below.refl _ _).drew).h.past hb) ((DW.RE.past (Below.refl _ _).drew).w.past hb)
          have HSB := fun (w' : World) (hb : Below W9.heap.size W9.drew w') (a1 : Option Addr) (a2 a3 : Nat) (a4 : Option Addr) (a5 a6 : Nat) (ha : RdB w' 0 a1 a2 a3 a4 a5 a6 H0 W0) => rsame_lk1 w' a1 a2 a3 a4 a5 a6 tw tn tc vo vn vc H0 W0 ha.h ha.w ((W_wz.RT.past (Below.refl _ _).drew).h.past hb) ((W_wz.RT.past (Below.refl _ _).drew).w.past hb)
          clear W_wz
          refine region_inv (Plays17 W9.heap.size p q wb pb qo qn qc ro rn rc eo en ec fo fn fc ho hn hc wq wn wc tw tn tc vo vn vc H0 W0 H1 W1) (by kernel_rfl) (by kernel_rfl) ?_ ?_ ?_
          · exact ⟨false, false, false, false, false, false, false, false, false, false, false, false, u78, u79, u80, u81, u82, u83, u84, u85, u86, u87, u88, u89, none, 0, 0, none, 0, 0, none, 0, 0, none, 0, 0, rfl, (by simp only [Act.put, List.setIfInBounds_toArray, List.set_cons_zero, List.set_cons_succ]), Below.refl _ _, (fun h => by cases h), (fun h => by cases h), (fun h => by cases h), (fun h => by cases h), (fun h => by cases h), (fun h => by cases h), (fun h => by cases h), (fun h => by cases h), (fun h => by cases h), (fun h => by cases h), (fun h => by cases h), (fun h => by cases h), (fun h => by cases h), (fun h => by cases h)⟩
          · refine ⟨?_, ?_, ?_, ?_, ?_, ?_, ?_, ?_, ?_, ?_, ?_, ?_, trivial⟩
            · rintro L a w ⟨b0, b1, b2, b3, b4, b5, b6, b7, b8, b9, b10, b11, x78, x79, x80, x81, x82, x83, x84, x85, x86, x87, x88, x89, ao, an, ac, bo, bn, bc, co, cn, cc, mo, mn, mc, rfl, rfl, hb, cd0, cd1, cd2, cd3, cd4, cd5, cd6, cd7, cd8, cd9, cd10, cd11, f_r1, f_r7⟩ hf hd
              have hf' : b0 = false := hf
              subst hf'
              clear hf hd
              try simp only [List.setIfInBounds_toArray, List.set_cons_zero, List.set_cons_succ]
              have z0 := (hb.cell hpB).trans c0_
              have z1 := (hb.cell hpB).trans c1_
              intro K hK
              rw [if_pos (by rfl)]
              go_simp
              exact hK.out _ _ ⟨true, b1, b2, b3, b4, b5, b6, b7, b8, b9, b10, b11, (.agg #[.slice qo qn qc, .slice ro rn rc]), x79, x80, x81, x82, x83, x84, x85, x86, x87, x88, x89, ao, an, ac, bo, bn, bc, co, cn, cc, mo, mn, mc, (by simp only [Act.put, List.setIfInBounds_toArray, List.set_cons_zero, List.set_cons_succ]), (by simp only [Act.put, List.setIfInBounds_toArray, List.set_cons_zero, List.set_cons_succ]), hb, (fun _ => rfl), cd1, cd2, cd3, cd4, cd5, cd6, cd7, cd8, cd9, cd10, cd11, f_r1, f_r7⟩
            · rintro L a w ⟨b0, b1, b2, b3, b4, b5, b6, b7, b8, b9, b10, b11, x78, x79, x80, x81, x82, x83, x84, x85, x86, x87, x88, x89, ao, an, ac, bo, bn, bc, co, cn, cc, mo, mn, mc, rfl, rfl, hb, cd0, cd1, cd2, cd3, cd4, cd5, cd6, cd7, cd8, cd9, cd10, cd11, f_r1, f_r7⟩ hf hd
              have hf' : b1 = false := hf
              subst hf'
              have d0 : b0 = true := hd ⟨0, .data⟩ (by simp) rfl
              subst d0
              obtain rfl := cd0.out rfl
              clear hf hd
              try simp only [List.setIfInBounds_toArray, List.set_cons_zero, List.set_cons_succ]
              intro K hK
              rw [if_pos (by rfl)]
              go_simp
              go_at_call 51
              refine (HTA _ hb).mono ?_
              rintro e w' ⟨_, rfl, ⟨ao3, an3, ac3, bo3, bn3, bc3, rfl, j1, j2, g1_, g2_⟩, bx⟩
              unfold lkV
              have k1 : RdB w' w.heap.size ao3 an3 ac3 bo3 bn3 bc3 H1 W1 := ⟨j1, j2, g1_, g2_⟩
              exact hK.out _ _ ⟨true, true, b2, b3, b4, b5, b6, b7, b8, b9, b10, b11, .agg #[.slice qo qn qc, .slice ro rn rc], (.agg #[.slice ao3 an3 ac3, .slice bo3 bn3 bc3]), x80, x81, x82, x83, x84, x85, x86, x87, x88, x89, ao3, an3, ac3, bo3, bn3, bc3, co, cn, cc, mo, mn, mc, (by simp only [Act.put, List.setIfInBounds_toArray, List.set_cons_zero, List.set_cons_succ]), (by simp only [Act.put, List.setIfInBounds_toArray, List.set_cons_zero, List.set_cons_succ]), hb.trans (bx.mono (Nat.le_trans hB0 hb.size)), (fun _ => rfl), (fun _ => rfl), cd2, cd3, cd4, cd5, cd6, cd7, cd8, cd9, cd10, cd11, (fun _ => k1.mono (Nat.zero_le _)), (fun h0 => (f_r7.out h0).past bx)⟩
            · rintro L a w ⟨b0, b1, b2, b3, b4, b5, b6, b7, b8, b9, b10, b11, x78, x79, x80, x81, x82, x83, x84, x85, x86, x87, x88, x89, ao, an, ac, bo, bn, bc, co, cn, cc, mo, mn, mc, rfl, rfl, hb, cd0, cd1, cd2, cd3, cd4, cd5, cd6, cd7, cd8, cd9, cd10, cd11, f_r1, f_r7⟩ hf hd
              have hf' : b2 = false := hf
              subst hf'
              clear hf hd
              try simp only [List.setIfInBounds_toArray, List.set_cons_zero, List.set_cons_succ]
              have z0 := (hb.cell hqB).trans d0_
              have z1 := (hb.cell hqB).trans d1_
              intro K hK
              rw [if_pos (by rfl)]
              go_simp
              exact hK.out _ _ ⟨b0, b1, true, b3, b4, b5, b6, b7, b8, b9, b10, b11, x78, x79, (.agg #[.slice eo en ec, .slice fo fn fc]), x81, x82, x83, x84, x85, x86, x87, x88, x89, ao, an, ac, bo, bn, bc, co, cn, cc, mo, mn, mc, (by simp only [Act.put, List.setIfInBounds_toArray, List.set_cons_zero, List.set_cons_succ]), (by simp only [Act.put, List.setIfInBounds_toArray, List.set_cons_zero, List.set_cons_succ]), hb, cd0, cd1, (fun _ => rfl), cd3, cd4, cd5, cd6, cd7, cd8, cd9, cd10, cd11, f_r1, f_r7⟩
            · rintro L a w ⟨b0, b1, b2, b3, b4, b5, b6, b7, b8, b9, b10, b11, x78, x79, x80, x81, x82, x83, x84, x85, x86, x87, x88, x89, ao, an, ac, bo, bn, bc, co, cn, cc, mo, mn, mc, rfl, rfl, hb, cd0, cd1, cd2, cd3, cd4, cd5, cd6, cd7, cd8, cd9, cd10, cd11, f_r1, f_r7⟩ hf hd
              have hf' : b3 = false := hf
              subst hf'
              have d1 : b1 = true := hd ⟨1, .data⟩ (by simp) rfl
              subst d1
              have d2 : b2 = true := hd ⟨2, .data⟩ (by simp) rfl
              subst d2
              obtain rfl := cd1.out rfl
              obtain rfl := cd2.out rfl
              clear hf hd
              have W_r1 := f_r1.out rfl
              try simp only [List.setIfInBounds_toArray, List.set_cons_zero, List.set_cons_succ]
              intro K hK
              rw [if_pos (by rfl)]
              go_simp
              go_at_call 57
              refine (HSA _ hb _ _ _ _ _ _ W_r1).mono ?_
              rintro e w' ⟨rfl, bx⟩
              exact hK.out _ _ ⟨b0, true, true, true, b4, b5, b6, b7, b8, b9, b10, b11, x78, .agg #[.slice ao an ac, .slice bo bn bc], .agg #[.slice eo en ec, .slice fo fn fc], (.bool true), x82, x83, x84, x85, x86, x87, x88, x89, ao, an, ac, bo, bn, bc, co, cn, cc, mo, mn, mc, (by simp only [Act.put, List.setIfInBounds_toArray, List.set_cons_zero, List.set_cons_succ]), (by simp only [Act.put, List.setIfInBounds_toArray, List.set_cons_zero, List.set_cons_succ]), hb.trans (bx.mono (Nat.le_trans hB0 hb.size)), cd0, (fun _ => rfl), (fun _ => rfl), (fun _ => rfl), cd4, cd5, cd6, cd7, cd8, cd9, cd10, cd11, (fun h0 => (f_r1.out h0).past bx), (fun h0 => (f_r7.out h0).past bx)⟩
            · rintro L a w ⟨b0, b1, b2, b3, b4, b5, b6, b7, b8, b9, b10, b11, x78, x79, x80, x81, x82, x83, x84, x85, x86, x87, x88, x89, ao, an, ac, bo, bn, bc, co, cn, cc, mo, mn, mc, rfl, rfl, hb, cd0, cd1, cd2, cd3, cd4, cd5, cd6, cd7, cd8, cd9, cd10, cd11, f_r1, f_r7⟩ hf hd
              have hf' : b4 = false := hf
              subst hf'
              have d3 : b3 = true := hd ⟨3, .data⟩ (by simp) rfl
              subst d3
              obtain rfl := cd3.out rfl
              clear hf hd
              try simp only [List.setIfInBounds_toArray, List.set_cons_zero, List.set_cons_succ]
              intro K hK
              rw [if_pos (by rfl)]
              go_simp
              exact hK.out _ _ ⟨b0, b1, b2, true, true, b5, b6, b7, b8, b9, b10, b11, x78, x79, x80, .bool true, (.bool false), x83, x84, x85, x86, x87, x88, x89, ao, an, ac, bo, bn, bc, co, cn, cc, mo, mn, mc, (by simp only [Act.put, List.setIfInBounds_toArray, List.set_cons_zero, List.set_cons_succ]), (by simp only [Act.put, List.setIfInBounds_toArray, List.set_cons_zero, List.set_cons_succ]), hb, cd0, cd1, cd2, (fun _ => rfl), (fun _ => rfl), cd5, cd6, cd7, cd8, cd9, cd10, cd11, f_r1, f_r7⟩
            · rintro L a w ⟨b0, b1, b2, b3, b4, b5, b6, b7, b8, b9, b10, b11, x78, x79, x80, x81, x82, x83, x84, x85, x86, x87, x88, x89, ao, an, ac, bo, bn, bc, co, cn, cc, mo, mn, mc, rfl, rfl, hb, cd0, cd1, cd2, cd3, cd4, cd5, cd6, cd7, cd8, cd9, cd10, cd11, f_r1, f_r7⟩ hf hd
              have hf' : b5 = false := hf
              subst hf'
              have d4 : b4 = true := hd ⟨4, .data⟩ (by simp) rfl
              subst d4
              have d3 : b3 = true := hd ⟨3, .chain⟩ (by simp) rfl
              subst d3
              obtain rfl := cd4.out rfl
              obtain rfl := cd3.out rfl
              clear hf hd
              try simp only [List.setIfInBounds_toArray, List.set_cons_zero, List.set_cons_succ]
              intro K hK
              rw [if_pos (by rfl)]
              go_simp
              exact hK.out _ _ ⟨b0, b1, b2, true, true, true, b6, b7, b8, b9, b10, b11, x78, x79, x80, .bool true, .bool false, (.bool false), x84, x85, x86, x87, x88, x89, ao, an, ac, bo, bn, bc, co, cn, cc, mo, mn, mc, (by simp only [Act.put, List.setIfInBounds_toArray, List.set_cons_zero, List.set_cons_succ]), (by simp only [Act.put, List.setIfInBounds_toArray, List.set_cons_zero, List.set_cons_succ]), hb, cd0, cd1, cd2, (fun _ => rfl), (fun _ => rfl), (fun _ => rfl), cd6, cd7, cd8, cd9, cd10, cd11, f_r1, f_r7⟩
            · rintro L a w ⟨b0, b1, b2, b3, b4, b5, b6, b7, b8, b9, b10, b11, x78, x79, x80, x81, x82, x83, x84, x85, x86, x87, x88, x89, ao, an, ac, bo, bn, bc, co, cn, cc, mo, mn, mc, rfl, rfl, hb, cd0, cd1, cd2, cd3, cd4, cd5, cd6, cd7, cd8, cd9, cd10, cd11, f_r1, f_r7⟩ hf hd
              have hf' : b6 = false := hf
              subst hf'
              have d5 : b5 = true := hd ⟨5, .guard⟩ (by simp) rfl
              subst d5
              obtain rfl := cd5.out rfl
              clear hf hd
              try simp only [List.setIfInBounds_toArray, List.set_cons_zero, List.set_cons_succ]
              have z0 := (hb.cell hxB).trans e0_
              have z1 := (hb.cell hxB).trans e1_
              intro K hK
              rw [if_pos (by rfl)]
              go_simp
              exact hK.out _ _ ⟨b0, b1, b2, b3, b4, true, true, b7, b8, b9, b10, b11, x78, x79, x80, x81, x82, .bool false, (.agg #[.slice ho hn hc, .slice wq wn wc]), x85, x86, x87, x88, x89, ao, an, ac, bo, bn, bc, co, cn, cc, mo, mn, mc, (by simp only [Act.put, List.setIfInBounds_toArray, List.set_cons_zero, List.set_cons_succ]), (by simp only [Act.put, List.setIfInBounds_toArray, List.set_cons_zero, List.set_cons_succ]), hb, cd0, cd1, cd2, cd3, cd4, (fun _ => rfl), (fun _ => rfl), cd7, cd8, cd9, cd10, cd11, f_r1, f_r7⟩
            · rintro L a w ⟨b0, b1, b2, b3, b4, b5, b6, b7, b8, b9, b10, b11, x78, x79, x80, x81, x82, x83, x84, x85, x86, x87, x88, x89, ao, an, ac, bo, bn, bc, co, cn, cc, mo, mn, mc, rfl, rfl, hb, cd0, cd1, cd2, cd3, cd4, cd5, cd6, cd7, cd8, cd9, cd10, cd11, f_r1, f_r7⟩ hf hd
              have hf' : b7 = false := hf
              subst hf'
              have d6 : b6 = true := hd ⟨6, .data⟩ (by simp) rfl
              subst d6
              have d5 : b5 = true := hd ⟨5, .chain⟩ (by simp) rfl
              subst d5
              obtain rfl := cd6.out rfl
              obtain rfl := cd5.out rfl
              clear hf hd
              try simp only [List.setIfInBounds_toArray, List.set_cons_zero, List.set_cons_succ]
              intro K hK
              rw [if_pos (by rfl)]
              go_simp
              go_at_call 51
              refine (HTB _ hb).mono ?_
              rintro e w' ⟨_, rfl, ⟨co3, cn3, cc3, mo3, mn3, mc3, rfl, j1, j2, g1_, g2_⟩, bx⟩
              unfold lkV
              have k7 : RdB w' w.heap.size co3 cn3 cc3 mo3 mn3 mc3 H0 W0 := ⟨j1, j2, g1_, g2_⟩
              exact hK.out _ _ ⟨b0, b1, b2, b3, b4, true, true, true, b8, b9, b10, b11, x78, x79, x80, x81, x82, .bool false, .agg #[.slice ho hn hc, .slice wq wn wc], (.agg #[.slice co3 cn3 cc3, .slice mo3 mn3 mc3]), x86, x87, x88, x89, ao, an, ac, bo, bn, bc, co3, cn3, cc3, mo3, mn3, mc3, (by simp only [Act.put, List.setIfInBounds_toArray, List.set_cons_zero, List.set_cons_succ]), (by simp only [Act.put, List.setIfInBounds_toArray, List.set_cons_zero, List.set_cons_succ]), hb.trans (bx.mono (Nat.le_trans hB0 hb.size)), cd0, cd1, cd2, cd3, cd4, (fun _ => rfl), (fun _ => rfl), (fun _ => rfl), cd8, cd9, cd10, cd11, (fun h0 => (f_r1.out h0).past bx), (fun _ => k7.mono (Nat.zero_le _))⟩
            · rintro L a w ⟨b0, b1, b2, b3, b4, b5, b6, b7, b8, b9, b10, b11, x78, x79, x80, x81, x82, x83, x84, x85, x86, x87, x88, x89, ao, an, ac, bo, bn, bc, co, cn, cc, mo, mn, mc, rfl, rfl, hb, cd0, cd1, cd2, cd3, cd4, cd5, cd6, cd7, cd8, cd9, cd10, cd11, f_r1, f_r7⟩ hf hd
              have hf' : b8 = false := hf
              subst hf'
              have d5 : b5 = true := hd ⟨5, .guard⟩ (by simp) rfl
              subst d5
              obtain rfl := cd5.out rfl
              clear hf hd
              try simp only [List.setIfInBounds_toArray, List.set_cons_zero, List.set_cons_succ]
              have z0 := (hb.cell hwB).trans f0_
              have z1 := (hb.cell hwB).trans f1_
              intro K hK
              rw [if_pos (by rfl)]
              go_simp
              exact hK.out _ _ ⟨b0, b1, b2, b3, b4, true, b6, b7, true, b9, b10, b11, x78, x79, x80, x81, x82, .bool false, x84, x85, (.agg #[.slice tw tn tc, .slice vo vn vc]), x87, x88, x89, ao, an, ac, bo, bn, bc, co, cn, cc, mo, mn, mc, (by simp only [Act.put, List.setIfInBounds_toArray, List.set_cons_zero, List.set_cons_succ]), (by simp only [Act.put, List.setIfInBounds_toArray, List.set_cons_zero, List.set_cons_succ]), hb, cd0, cd1, cd2, cd3, cd4, (fun _ => rfl), cd6, cd7, (fun _ => rfl), cd9, cd10, cd11, f_r1, f_r7⟩
            · rintro L a w ⟨b0, b1, b2, b3, b4, b5, b6, b7, b8, b9, b10, b11, x78, x79, x80, x81, x82, x83, x84, x85, x86, x87, x88, x89, ao, an, ac, bo, bn, bc, co, cn, cc, mo, mn, mc, rfl, rfl, hb, cd0, cd1, cd2, cd3, cd4, cd5, cd6, cd7, cd8, cd9, cd10, cd11, f_r1, f_r7⟩ hf hd
              have hf' : b9 = false := hf
              subst hf'
              have d7 : b7 = true := hd ⟨7, .data⟩ (by simp) rfl
              subst d7
              have d8 : b8 = true := hd ⟨8, .data⟩ (by simp) rfl
              subst d8
              have d5 : b5 = true := hd ⟨5, .guard⟩ (by simp) rfl
              subst d5
              obtain rfl := cd7.out rfl
              obtain rfl := cd8.out rfl
              obtain rfl := cd5.out rfl
              clear hf hd
              have W_r7 := f_r7.out rfl
              try simp only [List.setIfInBounds_toArray, List.set_cons_zero, List.set_cons_succ]
              intro K hK
              rw [if_pos (by rfl)]
              go_simp
              go_at_call 57
              refine (HSB _ hb _ _ _ _ _ _ W_r7).mono ?_
              rintro e w' ⟨rfl, bx⟩
              exact hK.out _ _ ⟨b0, b1, b2, b3, b4, true, b6, true, true, true, b10, b11, x78, x79, x80, x81, x82, .bool false, x84, .agg #[.slice co cn cc, .slice mo mn mc], .agg #[.slice tw tn tc, .slice vo vn vc], (.bool true), x88, x89, ao, an, ac, bo, bn, bc, co, cn, cc, mo, mn, mc, (by simp only [Act.put, List.setIfInBounds_toArray, List.set_cons_zero, List.set_cons_succ]), (by simp only [Act.put, List.setIfInBounds_toArray, List.set_cons_zero, List.set_cons_succ]), hb.trans (bx.mono (Nat.le_trans hB0 hb.size)), cd0, cd1, cd2, cd3, cd4, (fun _ => rfl), cd6, (fun _ => rfl), (fun _ => rfl), (fun _ => rfl), cd10, cd11, (fun h0 => (f_r1.out h0).past bx), (fun h0 => (f_r7.out h0).past bx)⟩
            · rintro L a w ⟨b0, b1, b2, b3, b4, b5, b6, b7, b8, b9, b10, b11, x78, x79, x80, x81, x82, x83, x84, x85, x86, x87, x88, x89, ao, an, ac, bo, bn, bc, co, cn, cc, mo, mn, mc, rfl, rfl, hb, cd0, cd1, cd2, cd3, cd4, cd5, cd6, cd7, cd8, cd9, cd10, cd11, f_r1, f_r7⟩ hf hd
              have hf' : b10 = false := hf
              subst hf'
              have d9 : b9 = true := hd ⟨9, .data⟩ (by simp) rfl
              subst d9
              have d5 : b5 = true := hd ⟨5, .guard⟩ (by simp) rfl
              subst d5
              obtain rfl := cd9.out rfl
              obtain rfl := cd5.out rfl
              clear hf hd
              try simp only [List.setIfInBounds_toArray, List.set_cons_zero, List.set_cons_succ]
              intro K hK
              rw [if_pos (by rfl)]
              go_simp
              exact hK.out _ _ ⟨b0, b1, b2, b3, b4, true, b6, b7, b8, true, true, b11, x78, x79, x80, x81, x82, .bool false, x84, x85, x86, .bool true, (.bool false), x89, ao, an, ac, bo, bn, bc, co, cn, cc, mo, mn, mc, (by simp only [Act.put, List.setIfInBounds_toArray, List.set_cons_zero, List.set_cons_succ]), (by simp only [Act.put, List.setIfInBounds_toArray, List.set_cons_zero, List.set_cons_succ]), hb, cd0, cd1, cd2, cd3, cd4, (fun _ => rfl), cd6, cd7, cd8, (fun _ => rfl), (fun _ => rfl), cd11, f_r1, f_r7⟩
            · rintro L a w ⟨b0, b1, b2, b3, b4, b5, b6, b7, b8, b9, b10, b11, x78, x79, x80, x81, x82, x83, x84, x85, x86, x87, x88, x89, ao, an, ac, bo, bn, bc, co, cn, cc, mo, mn, mc, rfl, rfl, hb, cd0, cd1, cd2, cd3, cd4, cd5, cd6, cd7, cd8, cd9, cd10, cd11, f_r1, f_r7⟩ hf hd
              have hf' : b11 = false := hf
              subst hf'
              have d5 : b5 = true := hd ⟨5, .data⟩ (by simp) rfl
              subst d5
              have d10 : b10 = true := hd ⟨10, .data⟩ (by simp) rfl
              subst d10
              obtain rfl := cd5.out rfl
              obtain rfl := cd10.out rfl
              clear hf hd
              try simp only [List.setIfInBounds_toArray, List.set_cons_zero, List.set_cons_succ]
              intro K hK
              rw [if_pos (by rfl)]
              go_simp
              exact hK.out _ _ ⟨b0, b1, b2, b3, b4, true, b6, b7, b8, b9, true, true, x78, x79, x80, x81, x82, .bool false, x84, x85, x86, x87, .bool false, (.bool false), ao, an, ac, bo, bn, bc, co, cn, cc, mo, mn, mc, (by simp only [Act.put, List.setIfInBounds_toArray, List.set_cons_zero, List.set_cons_succ]), (by simp only [Act.put, List.setIfInBounds_toArray, List.set_cons_zero, List.set_cons_succ]), hb, cd0, cd1, cd2, cd3, cd4, (fun _ => rfl), cd6, cd7, cd8, cd9, (fun _ => rfl), (fun _ => rfl), f_r1, f_r7⟩
          · rintro act V ⟨b0, b1, b2, b3, b4, b5, b6, b7, b8, b9, b10, b11, x78, x79, x80, x81, x82, x83, x84, x85, x86, x87, x88, x89, ao, an, ac, bo, bn, bc, co, cn, cc, mo, mn, mc, hL, rfl, hb, cd0, cd1, cd2, cd3, cd4, cd5, cd6, cd7, cd8, cd9, cd10, cd11, f_r1, f_r7⟩
            have hL' : [true, true, true, true, true, true, true, true, true, true, true, true] = [b0, b1, b2, b3, b4, b5, b6, b7, b8, b9, b10, b11] := congrArg Array.toList hL
            simp only [List.cons.injEq, and_true] at hL'
            obtain ⟨rfl, rfl, rfl, rfl, rfl, rfl, rfl, rfl, rfl, rfl, rfl, rfl⟩ := hL'
            obtain rfl := cd0.out rfl
            obtain rfl := cd1.out rfl
            obtain rfl := cd2.out rfl
            obtain rfl := cd3.out rfl
            obtain rfl := cd4.out rfl
            obtain rfl := cd5.out rfl
            obtain rfl := cd6.out rfl
            obtain rfl := cd7.out rfl
            obtain rfl := cd8.out rfl
            obtain rfl := cd9.out rfl
            obtain rfl := cd10.out rfl
            obtain rfl := cd11.out rfl
            have W_r1 := f_r1.out rfl
            have W_r7 := f_r7.out rfl
            clear hL f_r1 f_r7 cd0 cd1 cd2 cd3 cd4 cd5 cd6 cd7 cd8 cd9 cd10 cd11
            simp only [List.setIfInBounds_toArray, List.set_cons_zero, List.set_cons_succ]
            have BV9 : Below W9.heap.size W9 V := (Below.refl _ _).drew.trans hb
            clear hb W_r1 W_r7 HTA HTB HSA HSB c0_ c1_ d0_ d1_ e0_ e1_ f0_ f1_
            have D2 := DW.past BV9
            have BV := B.trans (BV9.mono hpW)
            clear DW BV9 B
            have hpU : p0 ≤ V.heap.size := Nat.le_trans hp0 BV.size
            generalize V = U at D2 BV hpU ⊢
            have BU0 : Below U.heap.size U U := Below.refl _ _
            go_wp2_with fail
            go_loopw [13] (fun zs wr => ∃ j : Nat, j ≤ 8 ∧ zs = .int .i64 (j : Nat) ∧ Below U.heap.size U wr) (fun zs _ => 8 - (intOf zs).toNat)
            case atStart => exact ⟨0, by omega, rfl, BU0⟩
            case round =>
              clear BU0
              obtain ⟨j, hj, rfl, BU⟩ := hrel
              by_cases hlt : j < 8
              · have hlti : (j : Int) < 8 := by omega
                have DJ := D2.past BU
                obtain ⟨c0_, c1_⟩ := DJ.X.c
                have HV := victim_any wr (lkV qo qn qc ro rn rc) H1 W1 ⟨_, _, _, _, _, _, rfl, DJ.RD.h, DJ.RD.w⟩ (by omega) (by omega) (fun y hy => wf_sm2 (hGG.out.smH y hy)) (fun y hy => wf_sm2 (hGG.out.smW y hy)) (j : Int) (wf_sm2 (by omega))
                unfold lkV at HV
                go_upto_region 23 with (go_at_call 58; refine HV.mono ?_; rintro e v1 ⟨vv_, ok, rfl, hV1, b1⟩)
                have DJ := DJ.past b1
                clear c0_ c1_ HV
                obtain ⟨d0_, d1_⟩ := DJ.Y.c
                have HV2 := rvictim_any v1 eo en ec fo fn fc H1 W1 DJ.RE.h DJ.RE.w (by have := DJ.RE.h.len; omega) (by have := DJ.RE.w.len; omega) (j : Int)
                go_upto_region 24 with (go_at_call 59; refine HV2.mono ?_; rintro e v2 ⟨vv2, ok2, rfl, hV2, b2⟩)
                obtain ⟨rfl, rfl⟩ := Vic.unique hV1 hV2
                have f1 : (vv_ != vv_) = false := by simp
                have f2 : (ok != ok) = false := by simp
                have BJ := (BU.trans (b1.mono BU.size)).trans (b2.mono (Nat.le_trans BU.size b1.size))
                clear hV1 hV2 HV2 d0_ d1_
                go_wp2_with fail
                go_roundw
                case rel => exact ⟨j + 1, by omega, by go_num, BJ⟩
                case measure => simp [intOf]; omega
              · have hlti : ¬ ((j : Int) < 8) := by omega
                have DJ : DuoAt wr p q H1 W1 := ⟨_, _, _, _, _, _, _, _, _, _, _, _, D2.past BU⟩
                have BJ := BV.trans (BU.mono hpU)
                go_wp2_with fail
                go_roundw
                case rel => exact ⟨i + 1, H1, W1, by omega, by omega, by go_num, DJ, hGG, BJ⟩
                case measure => simp [intOf]; omega
    · by_cases hlt : i < n
      · have hlti : (i : Int) < (n : Int) := by omega
        have hlt3i : ¬ ((i : Int) < 60) := by omega
        go_wp2_with fail
        go_ret
        exact ⟨rfl, by rw [HP.out]; exact B⟩
      · have hlti : ¬ ((i : Int) < (n : Int)) := by omega
        go_wp2_with fail
        go_ret
        exact ⟨rfl, by rw [HP.out]; exact B⟩
end Go.Proofs.Ytllijeciodmckaa
