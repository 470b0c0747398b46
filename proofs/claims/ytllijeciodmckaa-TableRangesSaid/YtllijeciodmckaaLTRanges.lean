/-
  TableRanges, walked (by gen_tranges.py).
-/
import Derived.Test.YtllijeciodmckaaRngAll
import Derived.Test.YtllijeciodmckaaTakeU
import Derived.Test.YtllijeciodmckaaGood
import Derived.Test.YtllijeciodmckaaEI
import Derived.Deep.CutRange
import Derived.Deep.CutBlock
namespace Go.Proofs.Ytllijeciodmckaa
open Go.RowKit
set_option linter.unusedSimpArgs false
theorem of_any (w : World) (l : List UInt8) (co : Option Addr) (cn cc : Nat) (ky : Nat) (only : Bool) (ro : Option Addr) (rn rc : Nat) :
    Calls Try.prog 28 #[tbV l co cn cc (ky : Nat) only ro rn rc] w fun e w' => e = .returned (tbV l co cn cc (ky : Nat) only ro rn rc) ∧ Below w.heap.size w w' := by
  unfold tbV
  have B0 : Below w.heap.size w ((w.alloc (.cells #[.string (bsOf l), .slice co cn cc, .int .i64 (ky : Nat), .bool only, .slice ro rn rc] 48)).alloc (.cells #[.string ⟨#[]⟩, .slice none 0 0, .int .i64 0, .bool false, .slice none 0 0] 47)) := ((Below.refl _ _).alloc (Nat.le_refl _) _).alloc (by simp) _
  have hT : Bk ((w.alloc (.cells #[.string (bsOf l), .slice co cn cc, .int .i64 (ky : Nat), .bool only, .slice ro rn rc] 48)).alloc (.cells #[.string ⟨#[]⟩, .slice none 0 0, .int .i64 0, .bool false, .slice none 0 0] 47)) w.heap.size (tbC l co cn cc (ky : Nat) only ro rn rc) 48 := (Bk.new w _ _).alloc _
  have hR : Bk ((w.alloc (.cells #[.string (bsOf l), .slice co cn cc, .int .i64 (ky : Nat), .bool only, .slice ro rn rc] 48)).alloc (.cells #[.string ⟨#[]⟩, .slice none 0 0, .int .i64 0, .bool false, .slice none 0 0] 47)) (w.heap.size + 1) (tbC [] none 0 0 0 false none 0 0) 47 := by
    have := Bk.new (w.alloc (.cells #[.string (bsOf l), .slice co cn cc, .int .i64 (ky : Nat), .bool only, .slice ro rn rc] 48)) #[.string ⟨#[]⟩, .slice none 0 0, .int .i64 0, .bool false, .slice none 0 0] 47
    rwa [World.size_alloc] at this
  go_enter Try.func28, Try.ntmps28
  go_upto_region 1 with fail
  generalize (w.alloc (.cells #[.string (bsOf l), .slice co cn cc, .int .i64 (ky : Nat), .bool only, .slice ro rn rc] 48)).alloc (.cells #[.string ⟨#[]⟩, .slice none 0 0, .int .i64 0, .bool false, .slice none 0 0] 47) = W at B0 hT hR ⊢
  obtain ⟨p, hp⟩ : ∃ p, w.heap.size = p := ⟨_, rfl⟩
  obtain ⟨r, hr⟩ : ∃ r, p + 1 = r := ⟨_, rfl⟩
  rw [hp] at hT hR
  rw [hr] at hR
  simp only [hp, hr]
  have HP := Lib.hid hp
  have hpr : p ≤ r := by omega
  clear hp hr
  obtain ⟨t0, t1, t2, t3, t4⟩ := tb_cells hT
  have hRh := Lib.hid (show W.heap[r]? = some (.cells (tbC [] none 0 0 0 false none 0 0) 47 (0, 0)) from hR)
  go_wp2_with ((with_reducible refine wpList_store_blk (o := ⟨none, _, _, _, _, _⟩) rfl 47 (.tmp 2) (.tmp 7) rfl r _ (tbC l co cn cc (ky : Nat) only ro rn rc) ?_ ?_ _ hRh 5 szTb (tbC_size ..) (tbC_size ..) (tbC_all ..) ?_); (rfl); (rfl); (intro w6 h6 g6))
  have hR6 : Bk w6 r (tbC l co cn cc (ky : Nat) only ro rn rc) 47 := h6.out
  obtain ⟨r0, r1, r2, r3, r4⟩ := tb_cells hR6
  refine bodyPost_ret (v := tbV l co cn cc (ky : Nat) only ro rn rc) (by simp [results, Try.results28, go_sem, tbV, r0, r1, r2, r3, r4]) rfl ?_
  exact ⟨rfl, B0.grown g6 B0.size (fun z hz => by cases hz; rw [HP.out]; exact hpr)⟩
theorem fit_kval {F : List Co} {N K : Nat} (hl : F.length = N) (hK : K < N) (n : Int) : Val (kOf K (fitRow F n)).k (kOf K (fitRow F n)).n (kOf K (fitRow F n)).s := by
  obtain ⟨c, hc⟩ : ∃ c, F[K]? = some c := ⟨F[K]'(by omega), List.getElem?_eq_getElem _⟩
  rw [kOf_fit hc]
  exact fit_val n K c
theorem fits_val {F : List Co} {N K : Nat} (hl : F.length = N) (hK : K < N) {rs : List (List V)} (h : Fits F K rs) {y : List V} (hy : y ∈ rs) : K < y.length ∧ Val (kOf K y).k (kOf K y).n (kOf K y).s := by
  obtain ⟨n, rfl⟩ := h.mem y hy
  exact ⟨by rw [fitRow_len, hl]; exact hK, fit_kval hl hK n⟩
theorem val_vok {k n : Int} {s : ByteArray} (h : Val k n s) (h2 : -9223372036854775808 ≤ n ∧ n ≤ 9223372036854775807) : Vok ⟨k, n, s⟩ := by
  cases h with
  | none => exact .none
  | bool n h3 h4 => exact .bool _ (by omega)
  | int n => exact .int _ h2
  | text s h => exact .text _ h
theorem fit_rng (n : Int) (i : Nat) (c : Co) : -9223372036854775808 ≤ (fitVal n i c).n ∧ (fitVal n i c).n ≤ 9223372036854775807 := by
  have h1 := wth_lo (n.tdiv (1 + 3 * (i : Int))) 40 (by omega)
  have h2 := wth_hi (n.tdiv (1 + 3 * (i : Int))) 40 (by omega)
  have h3 := wth_lo (fitN n i) 2 (by omega)
  have h4 := wth_hi (fitN n i) 2 (by omega)
  unfold fitVal
  split
  · exact ⟨by decide, by decide⟩
  split
  · simp only; omega
  split
  · simp only; unfold fitN; omega
  · simp only; omega
theorem fit_vok (n : Int) (i : Nat) (c : Co) : Vok (fitVal n i c) := val_vok (fit_val n i c) (fit_rng n i c)
theorem fits_at {F : List Co} {N K C : Nat} (hl : F.length = N) (hC : C < N) {rs : List (List V)} (h : Fits F K rs) {y : List V} (hy : y ∈ rs) : C < y.length ∧ ∃ n c, F[C]? = some c ∧ kOf C y = fitVal n C c := by
  obtain ⟨n, rfl⟩ := h.mem y hy
  obtain ⟨c, hc⟩ : ∃ c, F[C]? = some c := ⟨F[C]'(by omega), List.getElem?_eq_getElem _⟩
  exact ⟨by rw [fitRow_len, hl]; exact hC, n, c, hc, kOf_fit hc⟩
theorem fits_vok {F : List Co} {N K C : Nat} (hl : F.length = N) (hK : K < N) (hC : C < N) {rs : List (List V)} (h : Fits F K rs) : ∀ r ∈ rs, C < r.length ∧ K < r.length ∧ Vok (kOf C r) ∧ Vok (kOf K r) := fun r hr => by
  obtain ⟨h1, n, c, -, e1⟩ := fits_at hl hC h hr
  obtain ⟨h2, m, d, -, e2⟩ := fits_at hl hK h hr
  exact ⟨h1, h2, by rw [e1]; exact fit_vok .., by rw [e2]; exact fit_vok ..⟩
def VCell (w : World) (b o : Nat) (k m : Int) (s : ByteArray) : Prop := b < w.heap.size ∧ w.cell? ⟨b, o, none⟩ = some (.int .i64 k) ∧ w.cell? ⟨b, o + 1, none⟩ = some (.int .i64 m) ∧ w.cell? ⟨b, o + 2, none⟩ = some (.string s)
theorem VCell.past {w w' : World} {b o : Nat} {k m : Int} {s : ByteArray} (h : VCell w b o k m s) (bx : Below w.heap.size w w') : VCell w' b o k m s := by
  obtain ⟨h1, h2, h3, h4⟩ := h
  exact ⟨Nat.lt_of_lt_of_le h1 bx.size, (bx.cell h1).trans h2, (bx.cell h1).trans h3, (bx.cell h1).trans h4⟩
theorem VCell.grown {w w' : World} {b o x : Nat} {k m : Int} {s : ByteArray} (h : VCell w b o k m s) (g : w.grownBy w' (some x)) (hne : b ≠ x) : VCell w' b o k m s := by
  obtain ⟨h1, h2, h3, h4⟩ := h
  have q : ∀ i, (some (⟨b, i, none⟩ : Addr).block) ≠ some x := fun i e => hne (Option.some.inj e)
  exact ⟨Nat.lt_of_lt_of_le h1 g.size, g.cell h2 (q _), g.cell h3 (q _), g.cell h4 (q _)⟩
def LtV (w : World) (g : Nat) : Prop := g < w.heap.size
theorem LtV.past {w w' : World} {g : Nat} (h : LtV w g) (b : Below w.heap.size w w') : LtV w' g := Nat.lt_of_lt_of_le h b.size
def vC (k m : Int) (s : ByteArray) : Array Value := #[.int .i64 k, .int .i64 m, .string s]
theorem vC_all (k m : Int) (s : ByteArray) : (vC k m s).all (·.oneCell') = true := by simp [vC, Value.oneCell']
theorem vC_c {w : World} {p : Nat} {k m : Int} {s : ByteArray} {t : TypeId} (h : Bk w p (vC k m s) t) : w.cell? ⟨p, 0, none⟩ = some (.int .i64 k) ∧ w.cell? ⟨p, 1, none⟩ = some (.int .i64 m) ∧ w.cell? ⟨p, 2, none⟩ = some (.string s) := ⟨h.c rfl, h.c rfl, h.c rfl⟩
theorem szVl : (Try.prog.info? 55).map (·.size) = some 3 := by kernel_rfl
theorem fit_own {w : World} {e : TypeId} {B : Nat} {ao : Option Addr} {n c : Nat} {l : List V} (h : TxtR EV w e B ao n c l) (hn : 0 < n) (K : Nat) (x : V) (hx : l[K]? = some x) : ∃ g o, ao = some ⟨g, o, none⟩ ∧ VCell w g (o + K * 3) x.k x.n x.s ∧ B ≤ g := by
  obtain ⟨g, rfl, oO, hg⟩ := h.own hn
  exact ⟨g, 0, rfl, ⟨oO.lt, cells_v (off := 0) (fun i u hu => by rw [Nat.zero_add]; exact oO.cell i u hu) K x hx⟩, hg⟩
theorem wf_range {n : Int} (h : (Lit.int .i64 n).wf = true) : -9223372036854775808 ≤ n ∧ n ≤ 9223372036854775807 := by
  have := bounds_i64 h
  omega
theorem gd_ok (v : V) (h : (Lit.int .i64 v.n).wf = true) : Vok (gd v) := by
  have l3 := wth_lo v.n 2 (by omega)
  have l4 := wth_hi v.n 2 (by omega)
  unfold gd
  split
  · exact .bool _ (by omega)
  split
  · exact .int _ (wf_range h)
  split
  · exact .text _ (by rw [ByteArray.size_extract]; omega)
  · exact .none
/-- The table x as the loop leaves it. -/
def TrR (w : World) (p0 gs gt : Nat) (NM : List UInt8) (g N cg KI : Nat) (only : Bool) (F : List Co) (wx : World) : Prop :=
  ∃ (ro : Option Addr) (rn rc : Nat) (rs : List (List V)), Bk wx gs (scC NM (some ⟨g, 0, none⟩) N cg (KI : Nat) only) 40 ∧ IsR encCo wx (some ⟨g, 0, none⟩) N cg F ∧ Bk wx gt (tbC NM (some ⟨g, 0, none⟩) N cg (KI : Nat) only ro rn rc) 48 ∧ IsRR EV wx (gt + 1) ro rn rc rs ∧ Fits F KI rs ∧ rn ≤ 40 ∧ Below p0 w wx
/-- Rows, wherever they lie. -/
def RRx (w : World) (ao : Option Addr) (n c : Nat) (R : List (List V)) : Prop := ∃ B, IsRR EV w B ao n c R
theorem RRx.past {w w' : World} {ao : Option Addr} {n c : Nat} {R : List (List V)} (h : RRx w ao n c R) (b : Below w.heap.size w w') : RRx w' ao n c R := by
  obtain ⟨B, h⟩ := h
  exact ⟨B, h.past b⟩
def RgPost (w : World) (n : Nat) (R : List (List V)) (e : Ending) (w' : World) : Prop := ∃ ao c, e = .returned (.slice ao n c) ∧ RRx w' ao n c R ∧ Below w.heap.size w w'
theorem range_rg (w : World) (l : List UInt8) (co : Option Addr) (cn cc : Nat) (ky : Nat) (only : Bool) (ro : Option Addr) (rn rc : Nat) (B : Nat) (rs : List (List V)) (h : IsRR EV w B ro rn rc rs) (lo hi : V) (hS : Srt ky rs) (hn : rn ≤ 300) (hfl : ∀ x ∈ rs, x.length ≤ 100) :
    Calls Try.prog 33 #[tbV l co cn cc (ky : Nat) only ro rn rc, vv lo.k lo.n lo.s, vv hi.k hi.n hi.s] w (RgPost w (rngN ky lo hi rs).length (rngN ky lo hi rs)) :=
  (range_any w l co cn cc ky only ro rn rc B rs h lo hi hS hn hfl).mono fun _ _ ⟨ao, c, h1, h2, h3⟩ => ⟨ao, c, h1, ⟨_, h2.rr⟩, h3⟩
theorem rrange_rg (w : World) (l : List UInt8) (co : Option Addr) (cn cc : Nat) (ky : Nat) (only : Bool) (ro : Option Addr) (rn rc : Nat) (B : Nat) (rs : List (List V)) (h : IsRR EV w B ro rn rc rs) (lo hi : V) (hlo : Vok lo) (hhi : Vok hi) (hS : Srt ky rs) (hV : ∀ r ∈ rs, ky < r.length ∧ Vok (kOf ky r) ∧ r.length ≤ 1000) (hn : rn ≤ 300) :
    Calls Try.prog 34 #[tbV l co cn cc (ky : Nat) only ro rn rc, vv lo.k lo.n lo.s, vv hi.k hi.n hi.s] w (RgPost w (rngN ky lo hi rs).length (rngN ky lo hi rs)) := by
  have H := rrange_any w l co cn cc ky only ro rn rc B rs h lo hi hlo hhi hV hn
  rw [rng_eq hS lo hi hlo fun r hr => (hV r hr).2.1] at H
  exact H.mono fun _ _ ⟨_, ao, c, h1, h2, h3⟩ => ⟨ao, c, h1, ⟨_, h2⟩, h3⟩
theorem rows_rg (w : World) (a : Option Addr) (n c : Nat) (a' : Option Addr) (c' : Nat) (R : List (List V)) (h : RRx w a n c R) (h' : RRx w a' n c' R) (hn : n ≤ 1000) :
    Calls Try.prog 32 #[.slice a n c, .slice a' n c'] w (Told w true) := by
  obtain ⟨B, h⟩ := h
  obtain ⟨B', h'⟩ := h'
  exact rows10_any w B B' a n c a' c' R h h' hn
theorem rng_all {ky : Nat} {rs : List (List V)} (hS : Srt ky rs) (hV : ∀ r ∈ rs, Vok (kOf ky r)) : rngN ky ⟨0, 0, ⟨#[]⟩⟩ ⟨0, 0, ⟨#[]⟩⟩ rs = rs := by
  rw [← rng_eq hS (⟨0, 0, ⟨#[]⟩⟩ : V) (⟨0, 0, ⟨#[]⟩⟩ : V) Vok.none hV]
  unfold rngF
  exact List.filter_eq_self.2 fun r _ => by simp [inN]
/-- What stands while the region's operations come up. -/
inductive Rng10 (B : Nat) (gs : Nat) (NM : List UInt8) (g : Nat) (N : Nat) (cg : Nat) (KI : Nat) (only : Bool) (ro : Option Addr) (rn : Nat) (rc : Nat) (nb : Nat) (noff : Nat) (nl : Nat) (nc : Nat) (j : Nat) (x : Int) (F : List Co) (E : Int) (rs : List (List V)) (rs2 : List (List V)) (a0 : Act) (w0 : World) (L : Array Bool) (a : Act) (w : World) : Prop
  | mk (b0 b1 b2 b3 b4 b5 b6 b7 b8 b9 b10 b11 : Bool) (x53 x54 x55 x56 x57 x58 x59 x60 x52 x61 x62 : Value) (ra : Option Addr) (rca : Nat) (ro2 : Option Addr) (rn2 : Nat) (rc2 : Nat) (hL : L = #[b0, b1, b2, b3, b4, b5, b6, b7, b8, b9, b10, b11]) (ha : a = ⟨(((((((((((a0.tmps.setIfInBounds 53 x53).setIfInBounds 54 x54).setIfInBounds 55 x55).setIfInBounds 56 x56).setIfInBounds 57 x57).setIfInBounds 58 x58).setIfInBounds 59 x59).setIfInBounds 60 x60).setIfInBounds 52 x52).setIfInBounds 61 x61).setIfInBounds 62 x62), a0.defers⟩) (hb : Below B w0 w) (cd0 : Hid (b0 = true → x53 = .agg #[.string (bsOf NM), .slice (some ⟨g, 0, none⟩) N cg, .int .i64 (KI : Nat), .bool only, .slice ro rn rc])) (cd1 : Hid (b1 = true → x54 = .agg #[.string (bsOf NM), .slice (some ⟨g, 0, none⟩) N cg, .int .i64 (KI : Nat), .bool only])) (cd2 : Hid (b2 = true → x55 = .slice (some ⟨nb, noff, none⟩) nl nc)) (cd3 : Hid (b3 = true → x56 = .int .i64 (j : Nat))) (cd4 : Hid (b4 = true → x57 = .pointer (some ⟨nb, noff + j, none⟩))) (cd5 : Hid (b5 = true → x58 = .int .i64 x)) (cd6 : Hid (b6 = true → x59 = .slice ra N rca)) (cd7 : Hid (b7 = true → x60 = .tuple #[.agg #[.string (bsOf NM), .slice (some ⟨g, 0, none⟩) N cg, .int .i64 (KI : Nat), .bool only, .slice ro2 rn2 rc2], .int .i64 E])) (cd8 : Hid (b8 = true → x52 = .tuple #[.agg #[.string (bsOf NM), .slice (some ⟨g, 0, none⟩) N cg, .int .i64 (KI : Nat), .bool only, .slice ro2 rn2 rc2], .int .i64 E])) (cd9 : Hid (b9 = true → x61 = .agg #[.string (bsOf NM), .slice (some ⟨g, 0, none⟩) N cg, .int .i64 (KI : Nat), .bool only, .slice ro2 rn2 rc2])) (cd10 : Hid (b10 = true → x62 = .int .i64 E)) (f_it : Hid (b7 = false → IsRR EV w (B + 1) ro rn rc rs)) (f_t : Hid (b11 = false → Bk w B (tbC NM (some ⟨g, 0, none⟩) N cg (KI : Nat) only ro rn rc) 48)) (f_o11 : Hid (b11 = true → b0 = true)) (f_o11b : Hid (b11 = true → b7 = true)) (f_r : Hid (b6 = true → b7 = false → TxtR EV w 55 w0.heap.size ra N rca (fitRow F x))) (f_tt : Hid (b7 = true → IsRR EV w (B + 1) ro2 rn2 rc2 rs2)) (f_ts : Hid (b11 = true → Bk w B (tbC NM (some ⟨g, 0, none⟩) N cg (KI : Nat) only ro2 rn2 rc2) 48)) (w_8_7 : Hid (b8 = true → b7 = true)) (w_9_7 : Hid (b9 = true → b7 = true)) : Rng10 B gs NM g N cg KI only ro rn rc nb noff nl nc j x F E rs rs2 a0 w0 L a w

/-- What stands while the region's operations come up. -/
inductive Rng15 (B : Nat) (go_ : Nat) (gt : Nat) (gp : Nat) (gq : Nat) (gn : Nat) (gv : Nat) (cv : Nat) (NM : List UInt8) (g : Nat) (N : Nat) (cg : Nat) (KI : Nat) (only : Bool) (ro : Option Addr) (rn : Nat) (rc : Nat) (pk : Int) (pm : Int) (ps : ByteArray) (qk : Int) (qm : Int) (qs : ByteArray) (uk : Int) (um : Int) (us : ByteArray) (vk : Int) (vm : Int) (vs : ByteArray) (n1 : Nat) (n2 : Nat) (n3 : Nat) (R1 : List (List V)) (R2 : List (List V)) (R3 : List (List V)) (rs : List (List V)) (a0 : Act) (w0 : World) (L : Array Bool) (a : Act) (w : World) : Prop
  | mk (b0 b1 b2 b3 b4 b5 b6 b7 b8 b9 b10 b11 b12 b13 b14 b15 b16 b17 b18 b19 b20 b21 b22 b23 b24 b25 b26 b27 b28 b29 b30 b31 b32 b33 b34 b35 b36 b37 b38 b39 b40 b41 b42 b43 b44 b45 b46 b47 b48 : Bool) (x84 x85 x86 x87 x88 x89 x90 x91 x92 x93 x94 x95 x96 x97 x98 x99 x100 x101 x102 x103 x104 x105 x106 x107 x108 x109 x110 x111 x112 x113 x114 x115 x116 x117 x118 x119 x120 x121 x122 x123 x124 x125 x126 x127 x128 x129 x130 x131 x12 : Value) (a1 : Option Addr) (c1_ : Nat) (a2 : Option Addr) (c2_ : Nat) (a3 : Option Addr) (c3_ : Nat) (a4 : Option Addr) (c4_ : Nat) (a5 : Option Addr) (c5_ : Nat) (a6 : Option Addr) (c6_ : Nat) (a7 : Option Addr) (c7_ : Nat) (hL : L = #[b0, b1, b2, b3, b4, b5, b6, b7, b8, b9, b10, b11, b12, b13, b14, b15, b16, b17, b18, b19, b20, b21, b22, b23, b24, b25, b26, b27, b28, b29, b30, b31, b32, b33, b34, b35, b36, b37, b38, b39, b40, b41, b42, b43, b44, b45, b46, b47, b48]) (ha : a = ⟨(((((((((((((((((((((((((((((((((((((((((((((((((a0.tmps.setIfInBounds 84 x84).setIfInBounds 85 x85).setIfInBounds 86 x86).setIfInBounds 87 x87).setIfInBounds 88 x88).setIfInBounds 89 x89).setIfInBounds 90 x90).setIfInBounds 91 x91).setIfInBounds 92 x92).setIfInBounds 93 x93).setIfInBounds 94 x94).setIfInBounds 95 x95).setIfInBounds 96 x96).setIfInBounds 97 x97).setIfInBounds 98 x98).setIfInBounds 99 x99).setIfInBounds 100 x100).setIfInBounds 101 x101).setIfInBounds 102 x102).setIfInBounds 103 x103).setIfInBounds 104 x104).setIfInBounds 105 x105).setIfInBounds 106 x106).setIfInBounds 107 x107).setIfInBounds 108 x108).setIfInBounds 109 x109).setIfInBounds 110 x110).setIfInBounds 111 x111).setIfInBounds 112 x112).setIfInBounds 113 x113).setIfInBounds 114 x114).setIfInBounds 115 x115).setIfInBounds 116 x116).setIfInBounds 117 x117).setIfInBounds 118 x118).setIfInBounds 119 x119).setIfInBounds 120 x120).setIfInBounds 121 x121).setIfInBounds 122 x122).setIfInBounds 123 x123).setIfInBounds 124 x124).setIfInBounds 125 x125).setIfInBounds 126 x126).setIfInBounds 127 x127).setIfInBounds 128 x128).setIfInBounds 129 x129).setIfInBounds 130 x130).setIfInBounds 131 x131).setIfInBounds 12 x12), a0.defers⟩) (hb : Below B w0 w) (cd0 : Hid (b0 = true → x84 = .agg #[.string (bsOf NM), .slice (some ⟨g, 0, none⟩) N cg, .int .i64 (KI : Nat), .bool only, .slice ro rn rc])) (cd1 : Hid (b1 = true → x85 = .agg #[.int .i64 pk, .int .i64 pm, .string ps])) (cd2 : Hid (b2 = true → x86 = .agg #[.int .i64 qk, .int .i64 qm, .string qs])) (cd3 : Hid (b3 = true → x87 = .slice a1 n1 c1_)) (cd4 : Hid (b4 = true → x88 = .agg #[.string (bsOf NM), .slice (some ⟨g, 0, none⟩) N cg, .int .i64 (KI : Nat), .bool only, .slice ro rn rc])) (cd5 : Hid (b5 = true → x89 = .agg #[.int .i64 pk, .int .i64 pm, .string ps])) (cd6 : Hid (b6 = true → x90 = .agg #[.int .i64 qk, .int .i64 qm, .string qs])) (cd7 : Hid (b7 = true → x91 = .slice a2 n1 c2_)) (cd8 : Hid (b8 = true → x92 = .bool true)) (cd9 : Hid (b9 = true → x93 = .bool true)) (cd10 : Hid (b10 = true → x94 = .agg #[.string (bsOf NM), .slice (some ⟨g, 0, none⟩) N cg, .int .i64 (KI : Nat), .bool only, .slice ro rn rc])) (cd11 : Hid (b11 = true → x95 = .slice (some ⟨gv, 0, none⟩) 2 cv)) (cd12 : Hid (b12 = true → x96 = .pointer (some ⟨gv, 0, none⟩))) (cd13 : Hid (b13 = true → x97 = .agg #[.int .i64 uk, .int .i64 um, .string us])) (cd14 : Hid (b14 = true → x98 = .slice (some ⟨gv, 0, none⟩) 2 cv)) (cd15 : Hid (b15 = true → x99 = .pointer (some ⟨gv, 3, none⟩))) (cd16 : Hid (b16 = true → x100 = .agg #[.int .i64 vk, .int .i64 vm, .string vs])) (cd17 : Hid (b17 = true → x101 = .slice a3 n2 c3_)) (cd18 : Hid (b18 = true → x102 = .agg #[.string (bsOf NM), .slice (some ⟨g, 0, none⟩) N cg, .int .i64 (KI : Nat), .bool only, .slice ro rn rc])) (cd19 : Hid (b19 = true → x103 = .slice (some ⟨gv, 0, none⟩) 2 cv)) (cd20 : Hid (b20 = true → x104 = .pointer (some ⟨gv, 0, none⟩))) (cd21 : Hid (b21 = true → x105 = .agg #[.int .i64 uk, .int .i64 um, .string us])) (cd22 : Hid (b22 = true → x106 = .slice (some ⟨gv, 0, none⟩) 2 cv)) (cd23 : Hid (b23 = true → x107 = .pointer (some ⟨gv, 3, none⟩))) (cd24 : Hid (b24 = true → x108 = .agg #[.int .i64 vk, .int .i64 vm, .string vs])) (cd25 : Hid (b25 = true → x109 = .slice a4 n2 c4_)) (cd26 : Hid (b26 = true → x110 = .bool true)) (cd27 : Hid (b27 = true → x111 = .bool true)) (cd28 : Hid (b28 = true → x112 = .bool true)) (cd29 : Hid (b29 = true → x113 = .agg #[.string (bsOf NM), .slice (some ⟨g, 0, none⟩) N cg, .int .i64 (KI : Nat), .bool only, .slice ro rn rc])) (cd30 : Hid (b30 = true → x114 = .agg #[.int .i64 0, .int .i64 0, .string ⟨#[]⟩])) (cd31 : Hid (b31 = true → x115 = .agg #[.int .i64 qk, .int .i64 qm, .string qs])) (cd32 : Hid (b32 = true → x116 = .slice a5 n3 c5_)) (cd33 : Hid (b33 = true → x117 = .agg #[.string (bsOf NM), .slice (some ⟨g, 0, none⟩) N cg, .int .i64 (KI : Nat), .bool only, .slice ro rn rc])) (cd34 : Hid (b34 = true → x118 = .agg #[.int .i64 0, .int .i64 0, .string ⟨#[]⟩])) (cd35 : Hid (b35 = true → x119 = .agg #[.int .i64 qk, .int .i64 qm, .string qs])) (cd36 : Hid (b36 = true → x120 = .slice a6 n3 c6_)) (cd37 : Hid (b37 = true → x121 = .bool true)) (cd38 : Hid (b38 = true → x122 = .bool true)) (cd39 : Hid (b39 = true → x123 = .bool true)) (cd40 : Hid (b40 = true → x124 = .agg #[.string (bsOf NM), .slice (some ⟨g, 0, none⟩) N cg, .int .i64 (KI : Nat), .bool only, .slice ro rn rc])) (cd41 : Hid (b41 = true → x125 = .agg #[.int .i64 0, .int .i64 0, .string ⟨#[]⟩])) (cd42 : Hid (b42 = true → x126 = .agg #[.int .i64 0, .int .i64 0, .string ⟨#[]⟩])) (cd43 : Hid (b43 = true → x127 = .slice a7 rn c7_)) (cd44 : Hid (b44 = true → x128 = .pointer (some ⟨gt, 4, none⟩))) (cd45 : Hid (b45 = true → x129 = .slice ro rn rc)) (cd46 : Hid (b46 = true → x130 = .bool true)) (cd47 : Hid (b47 = true → x131 = .bool true)) (cd48 : Hid (b48 = true → x12 = .bool true)) (f_r3 : Hid (b3 = true → RRx w a1 n1 c1_ R1)) (f_r7 : Hid (b7 = true → RRx w a2 n1 c2_ R1)) (f_r17 : Hid (b17 = true → RRx w a3 n2 c3_ R2)) (f_r25 : Hid (b25 = true → RRx w a4 n2 c4_ R2)) (f_r32 : Hid (b32 = true → RRx w a5 n3 c5_ R3)) (f_r36 : Hid (b36 = true → RRx w a6 n3 c6_ R3)) (f_r43 : Hid (b43 = true → RRx w a7 rn c7_ rs)) : Rng15 B go_ gt gp gq gn gv cv NM g N cg KI only ro rn rc pk pm ps qk qm qs uk um us vk vm vs n1 n2 n3 R1 R2 R3 rs a0 w0 L a w

/-- What stands while the region's operations come up. -/
inductive Rng12 (B : Nat) (gs : Nat) (NM : List UInt8) (g : Nat) (N : Nat) (cg : Nat) (KI : Nat) (only : Bool) (aa : Int) (bb : Int) (pk : Int) (pm : Int) (ps : ByteArray) (qk : Int) (qm : Int) (qs : ByteArray) (a0 : Act) (w0 : World) (L : Array Bool) (a : Act) (w : World) : Prop
  | mk (b0 b1 b2 b3 b4 b5 b6 b7 b8 b9 b10 b11 b12 b13 b14 b15 b16 b17 : Bool) (x65 x66 x67 x68 x69 x70 x71 x72 x73 x74 x75 x76 x77 x78 x17 x18 : Value) (fa : Nat) (fo : Nat) (fc : Nat) (fb : Nat) (fp : Nat) (fd : Nat) (gp : Nat) (gq : Nat) (hL : L = #[b0, b1, b2, b3, b4, b5, b6, b7, b8, b9, b10, b11, b12, b13, b14, b15, b16, b17]) (ha : a = ⟨((((((((((((((((a0.tmps.setIfInBounds 65 x65).setIfInBounds 66 x66).setIfInBounds 67 x67).setIfInBounds 68 x68).setIfInBounds 69 x69).setIfInBounds 70 x70).setIfInBounds 71 x71).setIfInBounds 72 x72).setIfInBounds 73 x73).setIfInBounds 74 x74).setIfInBounds 75 x75).setIfInBounds 76 x76).setIfInBounds 77 x77).setIfInBounds 78 x78).setIfInBounds 17 x17).setIfInBounds 18 x18), a0.defers⟩) (hb : Below B w0 w) (cd0 : Hid (b0 = true → x65 = .agg #[.string (bsOf NM), .slice (some ⟨g, 0, none⟩) N cg, .int .i64 (KI : Nat), .bool only])) (cd1 : Hid (b1 = true → x66 = .int .i64 aa)) (cd2 : Hid (b2 = true → x67 = .slice (some ⟨fa, fo, none⟩) N fc)) (cd3 : Hid (b3 = true → x68 = .pointer (some ⟨gs, 2, none⟩))) (cd4 : Hid (b4 = true → x69 = .int .i64 (KI : Nat))) (cd5 : Hid (b5 = true → x70 = .pointer (some ⟨fa, fo + KI * 3, none⟩))) (cd6 : Hid (b6 = true → x71 = .agg #[.int .i64 pk, .int .i64 pm, .string ps])) (cd7 : Hid (b7 = true → x72 = .agg #[.string (bsOf NM), .slice (some ⟨g, 0, none⟩) N cg, .int .i64 (KI : Nat), .bool only])) (cd8 : Hid (b8 = true → x73 = .int .i64 bb)) (cd9 : Hid (b9 = true → x74 = .slice (some ⟨fb, fp, none⟩) N fd)) (cd10 : Hid (b10 = true → x75 = .pointer (some ⟨gs, 2, none⟩))) (cd11 : Hid (b11 = true → x76 = .int .i64 (KI : Nat))) (cd12 : Hid (b12 = true → x77 = .pointer (some ⟨fb, fp + KI * 3, none⟩))) (cd13 : Hid (b13 = true → x78 = .agg #[.int .i64 qk, .int .i64 qm, .string qs])) (cd14 : Hid (b14 = true → x17 = .pointer (some ⟨gp, 0, none⟩))) (cd15 : Hid (b15 = true → x18 = .pointer (some ⟨gq, 0, none⟩))) (f_va : Hid (b2 = true → b6 = false → VCell w fa (fo + KI * 3) pk pm ps)) (f_vb : Hid (b9 = true → b13 = false → VCell w fb (fp + KI * 3) qk qm qs)) (f_tb : Hid (b9 = true → LtV w fb)) (f_zp : Hid (b14 = true → b16 = false → Bk w gp (vC 0 0 ⟨#[]⟩) 55)) (f_zq : Hid (b15 = true → b17 = false → Bk w gq (vC 0 0 ⟨#[]⟩) 55)) (f_lp : Hid (b14 = true → B ≤ gp)) (f_lq : Hid (b15 = true → B ≤ gq)) (f_tp : Hid (b14 = true → LtV w gp)) (f_tq : Hid (b15 = true → LtV w gq)) (f_ne : Hid (b9 = true → (b14 = true → fb ≠ gp))) (f_n2 : Hid (b14 = true → (b15 = true → gp ≠ gq))) (f_sp : Hid (b16 = true → Bk w gp (vC pk pm ps) 55)) (f_qp : Hid (b16 = true → b14 = true)) (f_sq : Hid (b17 = true → Bk w gq (vC qk qm qs) 55)) (f_qq : Hid (b17 = true → b15 = true)) (w_5_2 : Hid (b5 = true → b2 = true)) (w_12_9 : Hid (b12 = true → b9 = true)) : Rng12 B gs NM g N cg KI only aa bb pk pm ps qk qm qs a0 w0 L a w
set_option maxRecDepth 100000 in
set_option maxHeartbeats 8000000 in
theorem tableRanges_walk (l : List UInt8) (ao : Option Addr) (n c : Nat) (key : Int) (only : Bool) (cs : List Co) (na : Option Addr) (nl nc : Nat) (ns : List Int) (k8 m8 : Int) (s8 : ByteArray) (k9 m9 : Int) (s9 : ByteArray) (aa bb : Int) (wz : World) (_hl : l.length ≤ maxLen) (_hkey : (Lit.int .i64 key).wf = true) (hz : IsR encCo wz ao n c cs) (_hcs : ∀ x ∈ cs, (Lit.int .i64 x.kind).wf = true ∧ x.name.length ≤ maxLen) (hIz : IsR EI wz na nl nc ns) (hIw : ∀ x ∈ ns, (Lit.int .i64 x).wf = true) (_hk8 : (Lit.int .i64 k8).wf = true) (hm8 : (Lit.int .i64 m8).wf = true) (_hs8 : s8.size ≤ maxLen) (_hk9 : (Lit.int .i64 k9).wf = true) (hm9 : (Lit.int .i64 m9).wf = true) (_hs9 : s9.size ≤ maxLen) (haw : (Lit.int .i64 aa).wf = true) (hbw : (Lit.int .i64 bb).wf = true) :
    Calls Try.prog 5 #[scV l ao n c key only, .slice na nl nc, vv k8 m8 s8, vv k9 m9 s9, .int .i64 aa, .int .i64 bb] wz (Told wz true) := by
  unfold scV
  have BZ : Below wz.heap.size wz (((wz.alloc (.cells #[.string (bsOf l), .slice ao n c, .int .i64 key, .bool only] 40)).alloc (.cells #[.int .i64 k8, .int .i64 m8, .string s8] 55)).alloc (.cells #[.int .i64 k9, .int .i64 m9, .string s9] 55)) := (((Below.refl _ _).alloc (Nat.le_refl _) _).alloc (by simp) _).alloc (by simp; omega) _
  have X0 := (ScB.new wz l ao n c key only).past (((Below.refl (wz.alloc (.cells #[.string (bsOf l), .slice ao n c, .int .i64 key, .bool only] 40)).heap.size (wz.alloc (.cells #[.string (bsOf l), .slice ao n c, .int .i64 key, .bool only] 40))).alloc (Nat.le_refl _) (.cells #[.int .i64 k8, .int .i64 m8, .string s8] 55)).alloc (by simp) (.cells #[.int .i64 k9, .int .i64 m9, .string s9] 55))
  have V8 : VAt (((wz.alloc (.cells #[.string (bsOf l), .slice ao n c, .int .i64 key, .bool only] 40)).alloc (.cells #[.int .i64 k8, .int .i64 m8, .string s8] 55)).alloc (.cells #[.int .i64 k9, .int .i64 m9, .string s9] 55)) (wz.heap.size + 1) k8 m8 s8 := by
    have := (VAt.new (wz.alloc (.cells #[.string (bsOf l), .slice ao n c, .int .i64 key, .bool only] 40)) k8 m8 s8).alloc (.cells #[.int .i64 k9, .int .i64 m9, .string s9] 55)
    rwa [World.size_alloc] at this
  have V9 : VAt (((wz.alloc (.cells #[.string (bsOf l), .slice ao n c, .int .i64 key, .bool only] 40)).alloc (.cells #[.int .i64 k8, .int .i64 m8, .string s8] 55)).alloc (.cells #[.int .i64 k9, .int .i64 m9, .string s9] 55)) (wz.heap.size + 1 + 1) k9 m9 s9 := by
    have := VAt.new ((wz.alloc (.cells #[.string (bsOf l), .slice ao n c, .int .i64 key, .bool only] 40)).alloc (.cells #[.int .i64 k8, .int .i64 m8, .string s8] 55)) k9 m9 s9
    rwa [World.size_alloc, World.size_alloc] at this
  go_enter Try.func5, Try.ntmps5
  go_upto_region 1 with fail
  generalize (((wz.alloc (.cells #[.string (bsOf l), .slice ao n c, .int .i64 key, .bool only] 40)).alloc (.cells #[.int .i64 k8, .int .i64 m8, .string s8] 55)).alloc (.cells #[.int .i64 k9, .int .i64 m9, .string s9] 55)) = w at X0 V8 V9 BZ ⊢
  obtain ⟨ps_, hps⟩ : ∃ z_, wz.heap.size = z_ := ⟨_, rfl⟩
  have HBZ0 : Hid (∀ w', Below w.heap.size w w' → Below wz.heap.size wz w') := Lib.hid fun w' b => BZ.trans (b.mono BZ.size)
  rw [hps] at X0 V8 V9
  simp only [hps]
  have h : IsR encCo w ao n c cs := hz.past BZ
  have hI : IsR EI w na nl nc ns := hIz.past BZ
  obtain ⟨p8, hp8⟩ : ∃ z_, ps_ + 1 = z_ := ⟨_, rfl⟩
  obtain ⟨p9, hp9⟩ : ∃ z_, p8 + 1 = z_ := ⟨_, rfl⟩
  rw [hp8] at V8 V9
  rw [hp9] at V9
  simp only [hp8, hp9]
  clear hz hIz hps hp8 hp9 BZ
  obtain ⟨p0, hp0⟩ : ∃ p0, w.heap.size = p0 := ⟨_, rfl⟩
  have HP := Lib.hid hp0
  have HBZ : Hid (∀ w', Below p0 w w' → Below wz.heap.size wz w') := Lib.hid fun w' b => HBZ0.out w' (by rw [HP.out]; exact b)
  have B0 : Below p0 w w := Below.refl _ _
  have hW0 : p0 ≤ w.heap.size := by omega
  clear hp0 HBZ0
  go_upto_region 3 with (go_at_call 14; refine (known10 _).mono ?_; rintro e w1 ⟨rfl, b1⟩)
  have X1 := X0.past b1
  have B1 : Below p0 w w1 := B0.trans (b1.mono hW0)
  have hW1 := Nat.le_trans hW0 b1.size
  have h1 : IsR encCo w1 ao n c cs := h.past b1
  have HFw := few9_any w1 l ao n c cs key only h1
  unfold scV at HFw
  have y0 : w1.cell? ⟨ps_, 0, none⟩ = some (.string (bsOf l)) := cell_blk X1 rfl
  have y1 : w1.cell? ⟨ps_, 1, none⟩ = some (.slice ao n c) := cell_blk X1 rfl
  have y2 : w1.cell? ⟨ps_, 2, none⟩ = some (.int .i64 key) := cell_blk X1 rfl
  have y3 : w1.cell? ⟨ps_, 3, none⟩ = some (.bool only) := cell_blk X1 rfl
  have V8' := V8.past b1
  have V9' := V9.past b1
  cases hfw : fewS l cs
  · rw [hfw] at HFw
    go_wp2_with (go_at_call 15; refine HFw.mono ?_; rintro e w2 ⟨rfl, b2⟩)
    go_ret
    exact ⟨rfl, HBZ.out _ (B1.trans (b2.mono hW1))⟩
  rw [hfw] at HFw
  have hn9 : n ≤ 9 := by
    unfold fewS at hfw
    simp only [Bool.and_eq_true, decide_eq_true_eq] at hfw
    have := h.len
    omega
  clear hfw
  by_cases q8 : (60 : Int) < (s8.size : Int)
  · go_wp2_with (go_at_call 15; refine HFw.mono ?_; rintro e w2 ⟨rfl, b2⟩; obtain ⟨c80, c81, c82, -, -, -, -⟩ := V8'.past b2; obtain ⟨c90, c91, c92, -, -, -, -⟩ := V9'.past b2)
    go_ret
    exact ⟨rfl, HBZ.out _ (B1.trans (b2.mono hW1))⟩
  by_cases q9 : (60 : Int) < (s9.size : Int)
  · go_wp2_with (go_at_call 15; refine HFw.mono ?_; rintro e w2 ⟨rfl, b2⟩; obtain ⟨c80, c81, c82, -, -, -, -⟩ := V8'.past b2; obtain ⟨c90, c91, c92, -, -, -, -⟩ := V9'.past b2)
    go_ret
    exact ⟨rfl, HBZ.out _ (B1.trans (b2.mono hW1))⟩
  go_upto_region 5 with (go_at_call 15; refine HFw.mono ?_; rintro e w2 ⟨rfl, b2⟩; obtain ⟨c80, c81, c82, -, -, -, -⟩ := V8'.past b2; obtain ⟨c90, c91, c92, -, -, -, -⟩ := V9'.past b2)
  have X2 := X1.past b2
  have B2 := B1.trans (b2.mono hW1)
  have hW2 := Nat.le_trans hW1 b2.size
  have h2 := h1.past b2
  clear y0 y1 y2 y3 HFw
  have y0 : w2.cell? ⟨ps_, 0, none⟩ = some (.string (bsOf l)) := cell_blk X2 rfl
  have y1 : w2.cell? ⟨ps_, 1, none⟩ = some (.slice ao n c) := cell_blk X2 rfl
  have y2 : w2.cell? ⟨ps_, 2, none⟩ = some (.int .i64 key) := cell_blk X2 rfl
  have y3 : w2.cell? ⟨ps_, 3, none⟩ = some (.bool only) := cell_blk X2 rfl
  have HG := good9_any w2 l ao n c cs key 3 only h2 (by omega)
  unfold GoodIs scV at HG
  have hNp := gN_pos cs
  have hKl := (gKey_lt cs key).1
  have hFl := gFin_len cs key
  have hFk := gFin_kinds cs key
  have hFn := gFin_keyN cs key
  obtain ⟨N, hN⟩ : ∃ N, gN cs = N := ⟨_, rfl⟩
  obtain ⟨KI, hKI⟩ : ∃ KI, gKey cs key = KI := ⟨_, rfl⟩
  obtain ⟨F, hF⟩ : ∃ F, gFin cs key = F := ⟨_, rfl⟩
  obtain ⟨NM, hNM⟩ : ∃ NM, gNm 3 = NM := ⟨_, rfl⟩
  simp only [hN, hKI, hF, hNM] at HG hNp hKl hFl hFk hFn
  clear hN hKI hF hNM
  go_upto_region 6 with (go_at_call 17; refine HG.mono ?_; rintro e w3 ⟨g, cg, rfl, og, b3, q3⟩)
  have hW3 := Nat.le_trans hW2 b3.size
  have B3 : Below p0 w (w3.alloc (.cells #[.string (bsOf NM), .slice (some ⟨g, 0, none⟩) N cg, .int .i64 (KI : Nat), .bool only] 40)) := (B2.trans (b3.mono hW2)).alloc hW3 _
  have XS : Bk (w3.alloc (.cells #[.string (bsOf NM), .slice (some ⟨g, 0, none⟩) N cg, .int .i64 (KI : Nat), .bool only] 40)) w3.heap.size (scC NM (some ⟨g, 0, none⟩) N cg (KI : Nat) only) 40 := Bk.new w3 _ _
  have oG := og.alloc (.cells #[.string (bsOf NM), .slice (some ⟨g, 0, none⟩) N cg, .int .i64 (KI : Nat), .bool only] 40)
  have hgl := og.lt
  have hg0 : p0 ≤ g := Nat.le_trans hW2 q3
  generalize w3.alloc (.cells #[.string (bsOf NM), .slice (some ⟨g, 0, none⟩) N cg, .int .i64 (KI : Nat), .bool only] 40) = W at B3 XS oG ⊢
  obtain ⟨gs, hgs⟩ : ∃ gs, w3.heap.size = gs := ⟨_, rfl⟩
  rw [hgs] at XS hgl hW3
  simp only [hgs]
  obtain ⟨z0, z1, z2, z3⟩ := sc_cells XS
  have hgsW : gs < W.heap.size := XS.lt
  have iG := oG.isR
  clear hgs og b3 q3 HG y0 y1 y2 y3 X2 X1 X0 B2 B1 B0 b1 b2 h2 h1 hW2 hW1 hW0
  clear c80 c81 c82 c90 c91 c92 V8' V9' q8 q9
  have hgsW2 : gs ≤ W.heap.size := Nat.le_of_lt hgsW
  go_upto_region 7 with fail
  have B4 : Below p0 w (W.alloc (.cells #[.string (bsOf NM), .slice (some ⟨g, 0, none⟩) N cg, .int .i64 (KI : Nat), .bool only, .slice none 0 0] 48)) := B3.alloc (Nat.le_trans hW3 hgsW2) _
  have XS' := XS.alloc (.cells #[.string (bsOf NM), .slice (some ⟨g, 0, none⟩) N cg, .int .i64 (KI : Nat), .bool only, .slice none 0 0] 48)
  have iG' := iG.alloc (.cells #[.string (bsOf NM), .slice (some ⟨g, 0, none⟩) N cg, .int .i64 (KI : Nat), .bool only, .slice none 0 0] 48)
  have hTn : Bk (W.alloc (.cells #[.string (bsOf NM), .slice (some ⟨g, 0, none⟩) N cg, .int .i64 (KI : Nat), .bool only, .slice none 0 0] 48)) W.heap.size (tbC NM (some ⟨g, 0, none⟩) N cg (KI : Nat) only none 0 0) 48 := Bk.new W _ _
  generalize W.alloc (.cells #[.string (bsOf NM), .slice (some ⟨g, 0, none⟩) N cg, .int .i64 (KI : Nat), .bool only, .slice none 0 0] 48) = U at B4 XS' iG' hTn ⊢
  obtain ⟨gt, hgt⟩ : ∃ gt, W.heap.size = gt := ⟨_, rfl⟩
  rw [hgt] at hTn hgsW
  simp only [hgt]
  have hggt : g < gt := by omega
  have hp0t : p0 ≤ gt := by omega
  clear hgt XS iG oG B3 z0 z1 z2 z3 hgsW2
  have iT0 : IsRR EV U (gt + 1) none 0 0 [] := IsRR.nil U _
  go_upto_block 0 with fail
  go_cut [15] from 42 to 62 (fun _s15 wx => TrR w p0 gs gt NM g N cg KI only F wx)
  case first =>
    go_wp2_with fail
    go_loopw [15] (fun i wr => ∃ (j : Nat) (ro : Option Addr) (rn rc : Nat) (rs : List (List V)), j ≤ nl ∧ j ≤ 40 ∧ i = .int .i64 (j : Nat) ∧ Bk wr gs (scC NM (some ⟨g, 0, none⟩) N cg (KI : Nat) only) 40 ∧ IsR encCo wr (some ⟨g, 0, none⟩) N cg F ∧ Bk wr gt (tbC NM (some ⟨g, 0, none⟩) N cg (KI : Nat) only ro rn rc) 48 ∧ IsRR EV wr (gt + 1) ro rn rc rs ∧ Fits F KI rs ∧ rn ≤ j ∧ Below p0 w wr) (fun i _ => nl - (intOf i).toNat)
    case atStart => exact ⟨0, none, 0, 0, [], Nat.zero_le _, by omega, rfl, XS', iG', hTn, iT0, Fits.nil F KI, Nat.le_refl _, B4⟩
    case round =>
      clear XS' iG' hTn B4
      obtain ⟨j, ro, rn, rc, rs, hj, hj60, rfl, XS0, iG0, hT0, iT, hFi, hrj, BB⟩ := hrel
      obtain ⟨z0, z1, z2, z3⟩ := sc_cells XS0
      obtain ⟨t0, t1, t2, t3, t4⟩ := tb_cells hT0
      have hpw : p0 ≤ wr.heap.size := by have := BB.size; rw [HP.out] at this; exact this
      have hgsB : gs < gt := by omega
      have hgtw := hT0.lt
      by_cases hlt : j < nl ∧ j < 40
      · have hlti : (j : Int) < (nl : Int) := by omega
        have hlt6 : (j : Int) < 40 := by omega
        obtain ⟨x, hx⟩ : ∃ x, ns[j]? = some x := ⟨ns[j]'(by have := hI.len; omega), List.getElem?_eq_getElem _⟩
        have hxw := hIw x (List.mem_of_getElem? hx)
        obtain ⟨nb, noff, rfl, hnb, hncl⟩ := hI.open (by omega) (by decide)
        have hnbp : nb < p0 := by rw [← HP.out]; exact hnb
        have cx : wr.cell? ⟨nb, noff + j, none⟩ = some (.int .i64 x) := by
          rw [BB.cell (show nb < p0 from hnbp)]
          exact hncl j _ (by have := EI.all_get ns j 0 x hx (by decide); simpa [EI] using this)
        have hnbB : nb < gt := by omega
        have iGk : ∀ w', Below gt wr.drew w' → IsR encCo w' (some ⟨g, 0, none⟩) N cg F := fun w' hb => ⟨iG0.len, iG0.le, iG0.max, iG0.nil, fun a ha k u hu => by
          have := iG0.cell a ha k u hu
          cases ha
          rw [Addr.add_lit] at this ⊢
          rw [hb.cell (show g < gt from hggt)]
          exact this⟩
        have hln := iT.len
        have HFit := fun (w' : World) (hb : Below gt wr.drew w') => fit_any w' NM (some ⟨g, 0, none⟩) N cg F (KI : Nat) only (iGk w' hb) (by omega) hFk x hxw
        unfold scV at HFit
        have HC := put_fit F hFk KI x rs (by omega)
        obtain ⟨E, hEe⟩ : ∃ E, putE F KI (fitRow F x) rs = E := ⟨_, rfl⟩
        obtain ⟨rs2, hrs2⟩ : ∃ rs2, putR F KI (fitRow F x) rs = rs2 := ⟨_, rfl⟩
        have hnx : Hid (Fits F KI rs2) := by
          show Fits F KI rs2
          rw [← hrs2]
          exact hFi.putR x
        have hl2 : rs2.length ≤ rn + 1 := by
          rw [← hrs2]
          rcases HC with ⟨-, -, h3⟩ | ⟨-, -, h3⟩
          · rw [h3, put_len, hln]
            omega
          · rw [h3, hln]
            omega
        have HPt0 := fun (w' : World) (hb : Below gt wr.drew w') (hit : IsRR EV w' (gt + 1) ro rn rc rs) (ra : Option Addr) (rca : Nat) (hr : IsR EV w' ra N rca (fitRow F x)) => rput_any w' NM (some ⟨g, 0, none⟩) N cg KI only ro rn rc (gt + 1) (Nat.le_trans hgtw hb.size) F (iGk w' hb) rs hit ra N rca _ hr (fun y hy => fits_val hFl hKl hFi hy) (fun _ => ⟨hKl, fit_kval hFl hKl x⟩) (by omega) (fun y hy => by have := hFi.len y hy; omega) (by omega)
        simp only [hEe, hrs2] at HPt0
        unfold tbV at HPt0
        have HPt := HPt0
        have hB0 : gt ≤ wr.heap.size := Nat.le_of_lt hgtw
        clear HPt0 hEe hrs2 HC
        go_upto_region 10 with fail
        clear t0 t1 t2 t3 t4
        refine region_inv (Rng10 gt gs NM g N cg KI only ro rn rc nb noff nl nc j x F E rs rs2) (by kernel_rfl) (by kernel_rfl) ?_ ?_ ?_
        · exact ⟨false, false, false, false, false, false, false, false, false, false, false, false, u53, u54, u55, u56, u57, u58, u59, u60, u52, u61, u62, none, 0, none, 0, 0, rfl, (by simp only [Act.put, List.setIfInBounds_toArray, List.set_cons_zero, List.set_cons_succ]), Below.refl _ _, (fun h => by cases h), (fun h => by cases h), (fun h => by cases h), (fun h => by cases h), (fun h => by cases h), (fun h => by cases h), (fun h => by cases h), (fun h => by cases h), (fun h => by cases h), (fun h => by cases h), (fun h => by cases h), (fun h1 => iT.past (Below.refl _ _).drew), (fun h1 => hT0.past (Below.refl _ _).drew), (fun h => by cases h), (fun h => by cases h), (fun h => by cases h), (fun h => by cases h), (fun h => by cases h), (fun h => by cases h), (fun h => by cases h)⟩
        · refine ⟨?_, ?_, ?_, ?_, ?_, ?_, ?_, ?_, ?_, ?_, ?_, ?_, trivial⟩
          · rintro L a w ⟨b0, b1, b2, b3, b4, b5, b6, b7, b8, b9, b10, b11, x53, x54, x55, x56, x57, x58, x59, x60, x52, x61, x62, ra, rca, ro2, rn2, rc2, rfl, rfl, hb, cd0, cd1, cd2, cd3, cd4, cd5, cd6, cd7, cd8, cd9, cd10, f_it, f_t, f_o11, f_o11b, f_r, f_tt, f_ts, w_8_7, w_9_7⟩ hf hd
            have hf' : b0 = false := hf
            subst hf'
            clear hf hd
            have e11 : b11 = false := by cases hq : b11 with | false => rfl | true => exact absurd (f_o11.out hq) (by simp)
            subst e11
            have W_t := f_t.out rfl
            try simp only [List.setIfInBounds_toArray, List.set_cons_zero, List.set_cons_succ]
            obtain ⟨z0, z1, z2, z3, z4⟩ := tb_cells W_t
            intro K hK
            rw [if_pos (by rfl)]
            go_simp
            exact hK.out _ _ ⟨true, b1, b2, b3, b4, b5, b6, b7, b8, b9, b10, false, (.agg #[.string (bsOf NM), .slice (some ⟨g, 0, none⟩) N cg, .int .i64 (KI : Nat), .bool only, .slice ro rn rc]), x54, x55, x56, x57, x58, x59, x60, x52, x61, x62, ra, rca, ro2, rn2, rc2, (by simp only [Act.put, List.setIfInBounds_toArray, List.set_cons_zero, List.set_cons_succ]), (by simp only [Act.put, List.setIfInBounds_toArray, List.set_cons_zero, List.set_cons_succ]), hb, (fun _ => rfl), cd1, cd2, cd3, cd4, cd5, cd6, cd7, cd8, cd9, cd10, f_it, f_t, (fun _ => rfl), f_o11b, f_r, f_tt, f_ts, w_8_7, w_9_7⟩
          · rintro L a w ⟨b0, b1, b2, b3, b4, b5, b6, b7, b8, b9, b10, b11, x53, x54, x55, x56, x57, x58, x59, x60, x52, x61, x62, ra, rca, ro2, rn2, rc2, rfl, rfl, hb, cd0, cd1, cd2, cd3, cd4, cd5, cd6, cd7, cd8, cd9, cd10, f_it, f_t, f_o11, f_o11b, f_r, f_tt, f_ts, w_8_7, w_9_7⟩ hf hd
            have hf' : b1 = false := hf
            subst hf'
            clear hf hd
            try simp only [List.setIfInBounds_toArray, List.set_cons_zero, List.set_cons_succ]
            have z0 := (hb.cell hgsB).trans z0
            have z1 := (hb.cell hgsB).trans z1
            have z2 := (hb.cell hgsB).trans z2
            have z3 := (hb.cell hgsB).trans z3
            intro K hK
            rw [if_pos (by rfl)]
            go_simp
            exact hK.out _ _ ⟨b0, true, b2, b3, b4, b5, b6, b7, b8, b9, b10, b11, x53, (.agg #[.string (bsOf NM), .slice (some ⟨g, 0, none⟩) N cg, .int .i64 (KI : Nat), .bool only]), x55, x56, x57, x58, x59, x60, x52, x61, x62, ra, rca, ro2, rn2, rc2, (by simp only [Act.put, List.setIfInBounds_toArray, List.set_cons_zero, List.set_cons_succ]), (by simp only [Act.put, List.setIfInBounds_toArray, List.set_cons_zero, List.set_cons_succ]), hb, cd0, (fun _ => rfl), cd2, cd3, cd4, cd5, cd6, cd7, cd8, cd9, cd10, f_it, f_t, f_o11, f_o11b, f_r, f_tt, f_ts, w_8_7, w_9_7⟩
          · rintro L a w ⟨b0, b1, b2, b3, b4, b5, b6, b7, b8, b9, b10, b11, x53, x54, x55, x56, x57, x58, x59, x60, x52, x61, x62, ra, rca, ro2, rn2, rc2, rfl, rfl, hb, cd0, cd1, cd2, cd3, cd4, cd5, cd6, cd7, cd8, cd9, cd10, f_it, f_t, f_o11, f_o11b, f_r, f_tt, f_ts, w_8_7, w_9_7⟩ hf hd
            have hf' : b2 = false := hf
            subst hf'
            clear hf hd
            try simp only [List.setIfInBounds_toArray, List.set_cons_zero, List.set_cons_succ]
            intro K hK
            rw [if_pos (by rfl)]
            go_simp
            exact hK.out _ _ ⟨b0, b1, true, b3, b4, b5, b6, b7, b8, b9, b10, b11, x53, x54, (.slice (some ⟨nb, noff, none⟩) nl nc), x56, x57, x58, x59, x60, x52, x61, x62, ra, rca, ro2, rn2, rc2, (by simp only [Act.put, List.setIfInBounds_toArray, List.set_cons_zero, List.set_cons_succ]), (by simp only [Act.put, List.setIfInBounds_toArray, List.set_cons_zero, List.set_cons_succ]), hb, cd0, cd1, (fun _ => rfl), cd3, cd4, cd5, cd6, cd7, cd8, cd9, cd10, f_it, f_t, f_o11, f_o11b, f_r, f_tt, f_ts, w_8_7, w_9_7⟩
          · rintro L a w ⟨b0, b1, b2, b3, b4, b5, b6, b7, b8, b9, b10, b11, x53, x54, x55, x56, x57, x58, x59, x60, x52, x61, x62, ra, rca, ro2, rn2, rc2, rfl, rfl, hb, cd0, cd1, cd2, cd3, cd4, cd5, cd6, cd7, cd8, cd9, cd10, f_it, f_t, f_o11, f_o11b, f_r, f_tt, f_ts, w_8_7, w_9_7⟩ hf hd
            have hf' : b3 = false := hf
            subst hf'
            clear hf hd
            try simp only [List.setIfInBounds_toArray, List.set_cons_zero, List.set_cons_succ]
            intro K hK
            rw [if_pos (by rfl)]
            go_simp
            exact hK.out _ _ ⟨b0, b1, b2, true, b4, b5, b6, b7, b8, b9, b10, b11, x53, x54, x55, (.int .i64 (j : Nat)), x57, x58, x59, x60, x52, x61, x62, ra, rca, ro2, rn2, rc2, (by simp only [Act.put, List.setIfInBounds_toArray, List.set_cons_zero, List.set_cons_succ]), (by simp only [Act.put, List.setIfInBounds_toArray, List.set_cons_zero, List.set_cons_succ]), hb, cd0, cd1, cd2, (fun _ => rfl), cd4, cd5, cd6, cd7, cd8, cd9, cd10, f_it, f_t, f_o11, f_o11b, f_r, f_tt, f_ts, w_8_7, w_9_7⟩
          · rintro L a w ⟨b0, b1, b2, b3, b4, b5, b6, b7, b8, b9, b10, b11, x53, x54, x55, x56, x57, x58, x59, x60, x52, x61, x62, ra, rca, ro2, rn2, rc2, rfl, rfl, hb, cd0, cd1, cd2, cd3, cd4, cd5, cd6, cd7, cd8, cd9, cd10, f_it, f_t, f_o11, f_o11b, f_r, f_tt, f_ts, w_8_7, w_9_7⟩ hf hd
            have hf' : b4 = false := hf
            subst hf'
            have d2 : b2 = true := hd ⟨2, .data⟩ (by simp) rfl
            subst d2
            have d3 : b3 = true := hd ⟨3, .data⟩ (by simp) rfl
            subst d3
            obtain rfl := cd2.out rfl
            obtain rfl := cd3.out rfl
            clear hf hd
            try simp only [List.setIfInBounds_toArray, List.set_cons_zero, List.set_cons_succ]
            intro K hK
            rw [if_pos (by rfl)]
            go_simp
            exact hK.out _ _ ⟨b0, b1, true, true, true, b5, b6, b7, b8, b9, b10, b11, x53, x54, .slice (some ⟨nb, noff, none⟩) nl nc, .int .i64 (j : Nat), (.pointer (some ⟨nb, noff + j, none⟩)), x58, x59, x60, x52, x61, x62, ra, rca, ro2, rn2, rc2, (by simp only [Act.put, List.setIfInBounds_toArray, List.set_cons_zero, List.set_cons_succ]), (by simp only [Act.put, List.setIfInBounds_toArray, List.set_cons_zero, List.set_cons_succ]), hb, cd0, cd1, (fun _ => rfl), (fun _ => rfl), (fun _ => rfl), cd5, cd6, cd7, cd8, cd9, cd10, f_it, f_t, f_o11, f_o11b, f_r, f_tt, f_ts, w_8_7, w_9_7⟩
          · rintro L a w ⟨b0, b1, b2, b3, b4, b5, b6, b7, b8, b9, b10, b11, x53, x54, x55, x56, x57, x58, x59, x60, x52, x61, x62, ra, rca, ro2, rn2, rc2, rfl, rfl, hb, cd0, cd1, cd2, cd3, cd4, cd5, cd6, cd7, cd8, cd9, cd10, f_it, f_t, f_o11, f_o11b, f_r, f_tt, f_ts, w_8_7, w_9_7⟩ hf hd
            have hf' : b5 = false := hf
            subst hf'
            have d4 : b4 = true := hd ⟨4, .data⟩ (by simp) rfl
            subst d4
            obtain rfl := cd4.out rfl
            clear hf hd
            try simp only [List.setIfInBounds_toArray, List.set_cons_zero, List.set_cons_succ]
            have z0 := (hb.cell hnbB).trans cx
            intro K hK
            rw [if_pos (by rfl)]
            go_simp
            exact hK.out _ _ ⟨b0, b1, b2, b3, true, true, b6, b7, b8, b9, b10, b11, x53, x54, x55, x56, .pointer (some ⟨nb, noff + j, none⟩), (.int .i64 x), x59, x60, x52, x61, x62, ra, rca, ro2, rn2, rc2, (by simp only [Act.put, List.setIfInBounds_toArray, List.set_cons_zero, List.set_cons_succ]), (by simp only [Act.put, List.setIfInBounds_toArray, List.set_cons_zero, List.set_cons_succ]), hb, cd0, cd1, cd2, cd3, (fun _ => rfl), (fun _ => rfl), cd6, cd7, cd8, cd9, cd10, f_it, f_t, f_o11, f_o11b, f_r, f_tt, f_ts, w_8_7, w_9_7⟩
          · rintro L a w ⟨b0, b1, b2, b3, b4, b5, b6, b7, b8, b9, b10, b11, x53, x54, x55, x56, x57, x58, x59, x60, x52, x61, x62, ra, rca, ro2, rn2, rc2, rfl, rfl, hb, cd0, cd1, cd2, cd3, cd4, cd5, cd6, cd7, cd8, cd9, cd10, f_it, f_t, f_o11, f_o11b, f_r, f_tt, f_ts, w_8_7, w_9_7⟩ hf hd
            have hf' : b6 = false := hf
            subst hf'
            have d1 : b1 = true := hd ⟨1, .data⟩ (by simp) rfl
            subst d1
            have d5 : b5 = true := hd ⟨5, .data⟩ (by simp) rfl
            subst d5
            obtain rfl := cd1.out rfl
            obtain rfl := cd5.out rfl
            clear hf hd
            try simp only [List.setIfInBounds_toArray, List.set_cons_zero, List.set_cons_succ]
            intro K hK
            rw [if_pos (by rfl)]
            go_simp
            go_at_call 18
            refine (HFit _ hb).mono ?_
            rintro e w' ⟨ra2, rca2, rfl, oT, bx⟩
            exact hK.out _ _ ⟨b0, true, b2, b3, b4, true, true, b7, b8, b9, b10, b11, x53, .agg #[.string (bsOf NM), .slice (some ⟨g, 0, none⟩) N cg, .int .i64 (KI : Nat), .bool only], x55, x56, x57, .int .i64 x, (.slice ra2 N rca2), x60, x52, x61, x62, ra2, rca2, ro2, rn2, rc2, (by simp only [Act.put, List.setIfInBounds_toArray, List.set_cons_zero, List.set_cons_succ]), (by simp only [Act.put, List.setIfInBounds_toArray, List.set_cons_zero, List.set_cons_succ]), hb.trans (bx.mono (Nat.le_trans hB0 hb.size)), cd0, (fun _ => rfl), cd2, cd3, cd4, (fun _ => rfl), (fun _ => rfl), cd7, cd8, cd9, cd10, (fun h1 => (f_it.out h1).past bx), (fun h1 => (f_t.out h1).past bx), f_o11, f_o11b, (fun _ _ => oT.lower hb.size), (fun h0 => (f_tt.out h0).past bx), (fun h0 => (f_ts.out h0).past bx), w_8_7, w_9_7⟩
          · rintro L a w ⟨b0, b1, b2, b3, b4, b5, b6, b7, b8, b9, b10, b11, x53, x54, x55, x56, x57, x58, x59, x60, x52, x61, x62, ra, rca, ro2, rn2, rc2, rfl, rfl, hb, cd0, cd1, cd2, cd3, cd4, cd5, cd6, cd7, cd8, cd9, cd10, f_it, f_t, f_o11, f_o11b, f_r, f_tt, f_ts, w_8_7, w_9_7⟩ hf hd
            have hf' : b7 = false := hf
            subst hf'
            have d0 : b0 = true := hd ⟨0, .data⟩ (by simp) rfl
            subst d0
            have d6 : b6 = true := hd ⟨6, .data⟩ (by simp) rfl
            subst d6
            obtain rfl := cd0.out rfl
            obtain rfl := cd6.out rfl
            clear hf hd
            have W_it := f_it.out rfl
            have W_r := f_r.out rfl rfl
            try simp only [List.setIfInBounds_toArray, List.set_cons_zero, List.set_cons_succ]
            intro K hK
            rw [if_pos (by rfl)]
            go_simp
            go_at_call 21
            refine (HPt _ hb W_it _ _ W_r.isR).mono ?_
            rintro e w' ⟨ro3, rn3, rc3, rfl, i1, bx⟩
            unfold tbV
            have e_8 : b8 = false := by cases hq : b8 with | false => rfl | true => exact absurd (w_8_7.out hq) (by simp)
            subst e_8
            have e_9 : b9 = false := by cases hq : b9 with | false => rfl | true => exact absurd (w_9_7.out hq) (by simp)
            subst e_9
            exact hK.out _ _ ⟨true, b1, b2, b3, b4, b5, true, true, false, false, b10, b11, .agg #[.string (bsOf NM), .slice (some ⟨g, 0, none⟩) N cg, .int .i64 (KI : Nat), .bool only, .slice ro rn rc], x54, x55, x56, x57, x58, .slice ra N rca, (.tuple #[.agg #[.string (bsOf NM), .slice (some ⟨g, 0, none⟩) N cg, .int .i64 (KI : Nat), .bool only, .slice ro3 rn3 rc3], .int .i64 E]), x52, x61, x62, ra, rca, ro3, rn3, rc3, (by simp only [Act.put, List.setIfInBounds_toArray, List.set_cons_zero, List.set_cons_succ]), (by simp only [Act.put, List.setIfInBounds_toArray, List.set_cons_zero, List.set_cons_succ]), hb.trans (bx.mono (Nat.le_trans hB0 hb.size)), (fun _ => rfl), cd1, cd2, cd3, cd4, cd5, (fun _ => rfl), (fun _ => rfl), (fun h => by cases h), (fun h => by cases h), cd10, (fun h => by cases h), (fun h1 => (f_t.out h1).past bx), f_o11, (fun _ => rfl), (fun _ h => by cases h), (fun _ => i1), (fun h0 => absurd (f_o11b.out h0) (by simp)), (fun _ => rfl), (fun _ => rfl)⟩
          · rintro L a w ⟨b0, b1, b2, b3, b4, b5, b6, b7, b8, b9, b10, b11, x53, x54, x55, x56, x57, x58, x59, x60, x52, x61, x62, ra, rca, ro2, rn2, rc2, rfl, rfl, hb, cd0, cd1, cd2, cd3, cd4, cd5, cd6, cd7, cd8, cd9, cd10, f_it, f_t, f_o11, f_o11b, f_r, f_tt, f_ts, w_8_7, w_9_7⟩ hf hd
            have hf' : b8 = false := hf
            subst hf'
            have d7 : b7 = true := hd ⟨7, .data⟩ (by simp) rfl
            subst d7
            obtain rfl := cd7.out rfl
            clear hf hd
            have W_tt := f_tt.out rfl
            try simp only [List.setIfInBounds_toArray, List.set_cons_zero, List.set_cons_succ]
            intro K hK
            rw [if_pos (by rfl)]
            go_simp
            exact hK.out _ _ ⟨b0, b1, b2, b3, b4, b5, b6, true, true, b9, b10, b11, x53, x54, x55, x56, x57, x58, x59, .tuple #[.agg #[.string (bsOf NM), .slice (some ⟨g, 0, none⟩) N cg, .int .i64 (KI : Nat), .bool only, .slice ro2 rn2 rc2], .int .i64 E], (.tuple #[.agg #[.string (bsOf NM), .slice (some ⟨g, 0, none⟩) N cg, .int .i64 (KI : Nat), .bool only, .slice ro2 rn2 rc2], .int .i64 E]), x61, x62, ra, rca, ro2, rn2, rc2, (by simp only [Act.put, List.setIfInBounds_toArray, List.set_cons_zero, List.set_cons_succ]), (by simp only [Act.put, List.setIfInBounds_toArray, List.set_cons_zero, List.set_cons_succ]), hb, cd0, cd1, cd2, cd3, cd4, cd5, cd6, (fun _ => rfl), (fun _ => rfl), cd9, cd10, (fun h => by cases h), f_t, f_o11, f_o11b, (fun _ h => by cases h), f_tt, f_ts, (fun _ => rfl), (fun _ => rfl)⟩
          · rintro L a w ⟨b0, b1, b2, b3, b4, b5, b6, b7, b8, b9, b10, b11, x53, x54, x55, x56, x57, x58, x59, x60, x52, x61, x62, ra, rca, ro2, rn2, rc2, rfl, rfl, hb, cd0, cd1, cd2, cd3, cd4, cd5, cd6, cd7, cd8, cd9, cd10, f_it, f_t, f_o11, f_o11b, f_r, f_tt, f_ts, w_8_7, w_9_7⟩ hf hd
            have hf' : b9 = false := hf
            subst hf'
            have d8 : b8 = true := hd ⟨8, .data⟩ (by simp) rfl
            subst d8
            obtain rfl := cd8.out rfl
            clear hf hd
            try simp only [List.setIfInBounds_toArray, List.set_cons_zero, List.set_cons_succ]
            intro K hK
            rw [if_pos (by rfl)]
            go_simp
            exact hK.out _ _ ⟨b0, b1, b2, b3, b4, b5, b6, b7, true, true, b10, b11, x53, x54, x55, x56, x57, x58, x59, x60, .tuple #[.agg #[.string (bsOf NM), .slice (some ⟨g, 0, none⟩) N cg, .int .i64 (KI : Nat), .bool only, .slice ro2 rn2 rc2], .int .i64 E], (.agg #[.string (bsOf NM), .slice (some ⟨g, 0, none⟩) N cg, .int .i64 (KI : Nat), .bool only, .slice ro2 rn2 rc2]), x62, ra, rca, ro2, rn2, rc2, (by simp only [Act.put, List.setIfInBounds_toArray, List.set_cons_zero, List.set_cons_succ]), (by simp only [Act.put, List.setIfInBounds_toArray, List.set_cons_zero, List.set_cons_succ]), hb, cd0, cd1, cd2, cd3, cd4, cd5, cd6, cd7, (fun _ => rfl), (fun _ => rfl), cd10, f_it, f_t, f_o11, f_o11b, f_r, f_tt, f_ts, w_8_7, (fun _ => w_8_7.out rfl)⟩
          · rintro L a w ⟨b0, b1, b2, b3, b4, b5, b6, b7, b8, b9, b10, b11, x53, x54, x55, x56, x57, x58, x59, x60, x52, x61, x62, ra, rca, ro2, rn2, rc2, rfl, rfl, hb, cd0, cd1, cd2, cd3, cd4, cd5, cd6, cd7, cd8, cd9, cd10, f_it, f_t, f_o11, f_o11b, f_r, f_tt, f_ts, w_8_7, w_9_7⟩ hf hd
            have hf' : b10 = false := hf
            subst hf'
            have d8 : b8 = true := hd ⟨8, .data⟩ (by simp) rfl
            subst d8
            obtain rfl := cd8.out rfl
            clear hf hd
            try simp only [List.setIfInBounds_toArray, List.set_cons_zero, List.set_cons_succ]
            intro K hK
            rw [if_pos (by rfl)]
            go_simp
            exact hK.out _ _ ⟨b0, b1, b2, b3, b4, b5, b6, b7, true, b9, true, b11, x53, x54, x55, x56, x57, x58, x59, x60, .tuple #[.agg #[.string (bsOf NM), .slice (some ⟨g, 0, none⟩) N cg, .int .i64 (KI : Nat), .bool only, .slice ro2 rn2 rc2], .int .i64 E], x61, (.int .i64 E), ra, rca, ro2, rn2, rc2, (by simp only [Act.put, List.setIfInBounds_toArray, List.set_cons_zero, List.set_cons_succ]), (by simp only [Act.put, List.setIfInBounds_toArray, List.set_cons_zero, List.set_cons_succ]), hb, cd0, cd1, cd2, cd3, cd4, cd5, cd6, cd7, (fun _ => rfl), cd9, (fun _ => rfl), f_it, f_t, f_o11, f_o11b, f_r, f_tt, f_ts, w_8_7, w_9_7⟩
          · rintro L a w ⟨b0, b1, b2, b3, b4, b5, b6, b7, b8, b9, b10, b11, x53, x54, x55, x56, x57, x58, x59, x60, x52, x61, x62, ra, rca, ro2, rn2, rc2, rfl, rfl, hb, cd0, cd1, cd2, cd3, cd4, cd5, cd6, cd7, cd8, cd9, cd10, f_it, f_t, f_o11, f_o11b, f_r, f_tt, f_ts, w_8_7, w_9_7⟩ hf hd
            have hf' : b11 = false := hf
            subst hf'
            have d9 : b9 = true := hd ⟨9, .data⟩ (by simp) rfl
            subst d9
            have d7 : b7 = true := hd ⟨7, .chain⟩ (by simp) rfl
            subst d7
            have d0 : b0 = true := hd ⟨0, .phase⟩ (by simp) rfl
            subst d0
            have d1 : b1 = true := hd ⟨1, .phase⟩ (by simp) rfl
            subst d1
            have d2 : b2 = true := hd ⟨2, .phase⟩ (by simp) rfl
            subst d2
            have d3 : b3 = true := hd ⟨3, .phase⟩ (by simp) rfl
            subst d3
            have d4 : b4 = true := hd ⟨4, .phase⟩ (by simp) rfl
            subst d4
            have d5 : b5 = true := hd ⟨5, .phase⟩ (by simp) rfl
            subst d5
            have d6 : b6 = true := hd ⟨6, .phase⟩ (by simp) rfl
            subst d6
            have d8 : b8 = true := hd ⟨8, .phase⟩ (by simp) rfl
            subst d8
            obtain rfl := cd9.out rfl
            obtain rfl := cd7.out rfl
            obtain rfl := cd0.out rfl
            obtain rfl := cd1.out rfl
            obtain rfl := cd2.out rfl
            obtain rfl := cd3.out rfl
            obtain rfl := cd4.out rfl
            obtain rfl := cd5.out rfl
            obtain rfl := cd6.out rfl
            obtain rfl := cd8.out rfl
            clear hf hd
            have W_t := f_t.out rfl
            have W_tt := f_tt.out rfl
            try simp only [List.setIfInBounds_toArray, List.set_cons_zero, List.set_cons_succ]
            intro K hK
            rw [if_pos (by rfl)]
            refine wp_store_blkT 48 _ _ rfl gt _ (tbC NM (some ⟨g, 0, none⟩) N cg (KI : Nat) only ro2 rn2 rc2) rfl rfl _ (Lib.hid W_t) 5 szRT (tbC_size ..) (tbC_size ..) (tbC_all ..) fun w2 h8 g8 => ?_
            have hb2 := hb.grown g8 (Nat.le_trans hB0 hb.size) (fun z hz => by cases hz; exact Nat.le_refl _)
            exact hK.out _ _ ⟨true, true, true, true, true, true, true, true, true, true, b10, true, .agg #[.string (bsOf NM), .slice (some ⟨g, 0, none⟩) N cg, .int .i64 (KI : Nat), .bool only, .slice ro rn rc], .agg #[.string (bsOf NM), .slice (some ⟨g, 0, none⟩) N cg, .int .i64 (KI : Nat), .bool only], .slice (some ⟨nb, noff, none⟩) nl nc, .int .i64 (j : Nat), .pointer (some ⟨nb, noff + j, none⟩), .int .i64 x, .slice ra N rca, .tuple #[.agg #[.string (bsOf NM), .slice (some ⟨g, 0, none⟩) N cg, .int .i64 (KI : Nat), .bool only, .slice ro2 rn2 rc2], .int .i64 E], .tuple #[.agg #[.string (bsOf NM), .slice (some ⟨g, 0, none⟩) N cg, .int .i64 (KI : Nat), .bool only, .slice ro2 rn2 rc2], .int .i64 E], .agg #[.string (bsOf NM), .slice (some ⟨g, 0, none⟩) N cg, .int .i64 (KI : Nat), .bool only, .slice ro2 rn2 rc2], x62, ra, rca, ro2, rn2, rc2, (by simp only [Act.put, List.setIfInBounds_toArray, List.set_cons_zero, List.set_cons_succ]), (by simp only [Act.put, List.setIfInBounds_toArray, List.set_cons_zero, List.set_cons_succ]), hb2, (fun _ => rfl), (fun _ => rfl), (fun _ => rfl), (fun _ => rfl), (fun _ => rfl), (fun _ => rfl), (fun _ => rfl), (fun _ => rfl), (fun _ => rfl), (fun _ => rfl), cd10, (fun h => by cases h), (fun h => by cases h), (fun _ => rfl), (fun _ => rfl), (fun _ h => by cases h), (fun h0 => IsRR.grown (f_tt.out h0) g8 (Nat.lt_succ_self _)), (fun _ => h8.out), (fun _ => rfl), (fun _ => rfl)⟩
        · rintro act V3 ⟨b0, b1, b2, b3, b4, b5, b6, b7, b8, b9, b10, b11, x53, x54, x55, x56, x57, x58, x59, x60, x52, x61, x62, ra, rca, ro2, rn2, rc2, hL, rfl, hb, cd0, cd1, cd2, cd3, cd4, cd5, cd6, cd7, cd8, cd9, cd10, f_it, f_t, f_o11, f_o11b, f_r, f_tt, f_ts, w_8_7, w_9_7⟩
          have hL' : [true, true, true, true, true, true, true, true, true, true, true, true] = [b0, b1, b2, b3, b4, b5, b6, b7, b8, b9, b10, b11] := congrArg Array.toList hL
          simp only [List.cons.injEq, and_true] at hL'
          obtain ⟨rfl, rfl, rfl, rfl, rfl, rfl, rfl, rfl, rfl, rfl, rfl, rfl⟩ := hL'
          obtain rfl := cd0.out rfl
          obtain rfl := cd1.out rfl
          obtain rfl := cd2.out rfl
          obtain rfl := cd3.out rfl
          obtain rfl := cd4.out rfl
          obtain rfl := cd5.out rfl
          obtain rfl := cd6.out rfl
          obtain rfl := cd7.out rfl
          obtain rfl := cd8.out rfl
          obtain rfl := cd9.out rfl
          obtain rfl := cd10.out rfl
          have W_o11 := f_o11.out rfl
          have W_o11b := f_o11b.out rfl
          have W_tt := f_tt.out rfl
          have W_ts := f_ts.out rfl
          clear hL f_it f_t f_o11 f_o11b f_r f_tt f_ts cd0 cd1 cd2 cd3 cd4 cd5 cd6 cd7 cd8 cd9 cd10 w_8_7 w_9_7
          simp only [List.setIfInBounds_toArray, List.set_cons_zero, List.set_cons_succ]
          have hln2 := W_tt.len
          have BV3 : Below p0 w V3 := BB.trans (((Below.refl _ _).drew.trans (hb.mono hp0t)))
          have XS3 : Bk V3 gs (scC NM (some ⟨g, 0, none⟩) N cg (KI : Nat) only) 40 := (hb.block gs hgsB).trans XS0
          have iG3 : IsR encCo V3 (some ⟨g, 0, none⟩) N cg F := iGk V3 hb
          clear hb
          go_wp2_with fail
          go_roundw
          case rel => exact ⟨j + 1, ro2, rn2, rc2, rs2, by omega, by omega, by go_num, XS3, iG3, W_ts, W_tt, hnx.out, by omega, BV3⟩
          case measure => simp [intOf]; omega
      · by_cases hjn : j < nl
        · have hjni : (j : Int) < (nl : Int) := by omega
          have hj6 : ¬ ((j : Int) < 40) := by omega
          go_wp2_with fail
          go_meet
          exact ⟨ro, rn, rc, rs, XS0, iG0, hT0, iT, hFi, by omega, BB⟩
        · have hjni : ¬ ((j : Int) < (nl : Int)) := by omega
          go_wp2_with fail
          go_meet
          exact ⟨ro, rn, rc, rs, XS0, iG0, hT0, iT, hFi, by omega, BB⟩
  case rest =>
    clear B4 XS' iG' hTn iT0
    obtain ⟨ro, rn, rc, rs, XS, iG, hT, iR, hFi, hrn, BB⟩ := hcut
    obtain ⟨t0, t1, t2, t3, t4⟩ := tb_cells hT
    have hpc : p0 ≤ wc.heap.size := by have := BB.size; rw [HP.out] at this; exact this
    have HO := of_any wc NM (some ⟨g, 0, none⟩) N cg KI only ro rn rc
    unfold tbV at HO
    go_upto_region 12 with (go_at_call 28; refine HO.mono ?_; rintro e w7 ⟨rfl, b7⟩)
    have bT := b7.alloc b7.size (.cells #[.string (bsOf NM), .slice (some ⟨g, 0, none⟩) N cg, .int .i64 (KI : Nat), .bool only, .slice ro rn rc] 47)
    have hO : Bk (w7.alloc (.cells #[.string (bsOf NM), .slice (some ⟨g, 0, none⟩) N cg, .int .i64 (KI : Nat), .bool only, .slice ro rn rc] 47)) w7.heap.size (tbC NM (some ⟨g, 0, none⟩) N cg (KI : Nat) only ro rn rc) 47 := Bk.new w7 _ _
    have XS := XS.past bT
    have iG := iG.past bT
    have hT := hT.past bT
    have iR := iR.past bT
    have V8 := V8.past ((show Below w.heap.size w wc by rw [HP.out]; exact BB).trans (bT.mono (by rw [HP.out]; exact hpc)))
    have V9 := V9.past ((show Below w.heap.size w wc by rw [HP.out]; exact BB).trans (bT.mono (by rw [HP.out]; exact hpc)))
    have B := BB.trans (bT.mono hpc)
    have hpZ := Nat.le_trans hpc bT.size
    clear BB t0 t1 t2 t3 t4 HO b7 hpc bT
    generalize w7.alloc (.cells #[.string (bsOf NM), .slice (some ⟨g, 0, none⟩) N cg, .int .i64 (KI : Nat), .bool only, .slice ro rn rc] 47) = Z1 at XS iG hT hO iR V8 V9 B hpZ ⊢
    obtain ⟨go_, hgo⟩ : ∃ z_, w7.heap.size = z_ := ⟨_, rfl⟩
    rw [hgo] at hO
    simp only [hgo]
    clear hgo
    obtain ⟨z0, z1, z2, z3⟩ := sc_cells XS
    have hgsB := XS.lt
    have hNp1 : 0 < N := by omega
    have HFa := fun (w' : World) (hb : Below Z1.heap.size Z1.drew w') => fit_any w' NM (some ⟨g, 0, none⟩) N cg F (KI : Nat) only ((iG.past (Below.refl _ _).drew).past hb) (by omega) hFk aa haw
    have HFb := fun (w' : World) (hb : Below Z1.heap.size Z1.drew w') => fit_any w' NM (some ⟨g, 0, none⟩) N cg F (KI : Nat) only ((iG.past (Below.refl _ _).drew).past hb) (by omega) hFk bb hbw
    unfold scV at HFa HFb
    obtain ⟨cK, hcK⟩ : ∃ x, F[KI]? = some x := ⟨F[KI]'(by omega), List.getElem?_eq_getElem _⟩
    have hka := fitRow_get (n := aa) hcK
    have hkb := fitRow_get (n := bb) hcK
    have hvp := fit_vok aa KI cK
    have hvq := fit_vok bb KI cK
    generalize fitVal aa KI cK = vp at hka hvp
    generalize fitVal bb KI cK = vq at hkb hvq
    obtain ⟨pk, pm, ps⟩ := vp
    obtain ⟨qk, qm, qs⟩ := vq
    have hKi : (KI : Int) < (N : Int) := by omega
    have hB0 : Z1.heap.size ≤ Z1.heap.size := Nat.le_refl _
    clear hcK
    refine region_inv (Rng12 Z1.heap.size gs NM g N cg KI only aa bb pk pm ps qk qm qs) (by kernel_rfl) (by kernel_rfl) ?_ ?_ ?_
    · exact ⟨false, false, false, false, false, false, false, false, false, false, false, false, false, false, false, false, false, false, undef, undef, undef, undef, undef, undef, undef, undef, undef, undef, undef, undef, undef, undef, undef, undef, 0, 0, 0, 0, 0, 0, 0, 0, rfl, (by simp only [Act.put, List.setIfInBounds_toArray, List.set_cons_zero, List.set_cons_succ]), Below.refl _ _, (fun h => by cases h), (fun h => by cases h), (fun h => by cases h), (fun h => by cases h), (fun h => by cases h), (fun h => by cases h), (fun h => by cases h), (fun h => by cases h), (fun h => by cases h), (fun h => by cases h), (fun h => by cases h), (fun h => by cases h), (fun h => by cases h), (fun h => by cases h), (fun h => by cases h), (fun h => by cases h), (fun h => by cases h), (fun h => by cases h), (fun h => by cases h), (fun h => by cases h), (fun h => by cases h), (fun h => by cases h), (fun h => by cases h), (fun h => by cases h), (fun h => by cases h), (fun h => by cases h), (fun h => by cases h), (fun h => by cases h), (fun h => by cases h), (fun h => by cases h), (fun h => by cases h), (fun h => by cases h), (fun h => by cases h)⟩
    · refine ⟨?_, ?_, ?_, ?_, ?_, ?_, ?_, ?_, ?_, ?_, ?_, ?_, ?_, ?_, ?_, ?_, ?_, ?_, trivial⟩
      · rintro L a w ⟨b0, b1, b2, b3, b4, b5, b6, b7, b8, b9, b10, b11, b12, b13, b14, b15, b16, b17, x65, x66, x67, x68, x69, x70, x71, x72, x73, x74, x75, x76, x77, x78, x17, x18, fa, fo, fc, fb, fp, fd, gp, gq, rfl, rfl, hb, cd0, cd1, cd2, cd3, cd4, cd5, cd6, cd7, cd8, cd9, cd10, cd11, cd12, cd13, cd14, cd15, f_va, f_vb, f_tb, f_zp, f_zq, f_lp, f_lq, f_tp, f_tq, f_ne, f_n2, f_sp, f_qp, f_sq, f_qq, w_5_2, w_12_9⟩ hf hd
        have hf' : b0 = false := hf
        subst hf'
        clear hf hd
        try simp only [List.setIfInBounds_toArray, List.set_cons_zero, List.set_cons_succ]
        have z0 := (hb.cell hgsB).trans z0
        have z1 := (hb.cell hgsB).trans z1
        have z2 := (hb.cell hgsB).trans z2
        have z3 := (hb.cell hgsB).trans z3
        intro K hK
        rw [if_pos (by rfl)]
        go_simp
        exact hK.out _ _ ⟨true, b1, b2, b3, b4, b5, b6, b7, b8, b9, b10, b11, b12, b13, b14, b15, b16, b17, (.agg #[.string (bsOf NM), .slice (some ⟨g, 0, none⟩) N cg, .int .i64 (KI : Nat), .bool only]), x66, x67, x68, x69, x70, x71, x72, x73, x74, x75, x76, x77, x78, x17, x18, fa, fo, fc, fb, fp, fd, gp, gq, (by simp only [Act.put, List.setIfInBounds_toArray, List.set_cons_zero, List.set_cons_succ]), (by simp only [Act.put, List.setIfInBounds_toArray, List.set_cons_zero, List.set_cons_succ]), hb, (fun _ => rfl), cd1, cd2, cd3, cd4, cd5, cd6, cd7, cd8, cd9, cd10, cd11, cd12, cd13, cd14, cd15, f_va, f_vb, f_tb, f_zp, f_zq, f_lp, f_lq, f_tp, f_tq, f_ne, f_n2, f_sp, f_qp, f_sq, f_qq, w_5_2, w_12_9⟩
      · rintro L a w ⟨b0, b1, b2, b3, b4, b5, b6, b7, b8, b9, b10, b11, b12, b13, b14, b15, b16, b17, x65, x66, x67, x68, x69, x70, x71, x72, x73, x74, x75, x76, x77, x78, x17, x18, fa, fo, fc, fb, fp, fd, gp, gq, rfl, rfl, hb, cd0, cd1, cd2, cd3, cd4, cd5, cd6, cd7, cd8, cd9, cd10, cd11, cd12, cd13, cd14, cd15, f_va, f_vb, f_tb, f_zp, f_zq, f_lp, f_lq, f_tp, f_tq, f_ne, f_n2, f_sp, f_qp, f_sq, f_qq, w_5_2, w_12_9⟩ hf hd
        have hf' : b1 = false := hf
        subst hf'
        clear hf hd
        try simp only [List.setIfInBounds_toArray, List.set_cons_zero, List.set_cons_succ]
        intro K hK
        rw [if_pos (by rfl)]
        go_simp
        exact hK.out _ _ ⟨b0, true, b2, b3, b4, b5, b6, b7, b8, b9, b10, b11, b12, b13, b14, b15, b16, b17, x65, (.int .i64 aa), x67, x68, x69, x70, x71, x72, x73, x74, x75, x76, x77, x78, x17, x18, fa, fo, fc, fb, fp, fd, gp, gq, (by simp only [Act.put, List.setIfInBounds_toArray, List.set_cons_zero, List.set_cons_succ]), (by simp only [Act.put, List.setIfInBounds_toArray, List.set_cons_zero, List.set_cons_succ]), hb, cd0, (fun _ => rfl), cd2, cd3, cd4, cd5, cd6, cd7, cd8, cd9, cd10, cd11, cd12, cd13, cd14, cd15, f_va, f_vb, f_tb, f_zp, f_zq, f_lp, f_lq, f_tp, f_tq, f_ne, f_n2, f_sp, f_qp, f_sq, f_qq, w_5_2, w_12_9⟩
      · rintro L a w ⟨b0, b1, b2, b3, b4, b5, b6, b7, b8, b9, b10, b11, b12, b13, b14, b15, b16, b17, x65, x66, x67, x68, x69, x70, x71, x72, x73, x74, x75, x76, x77, x78, x17, x18, fa, fo, fc, fb, fp, fd, gp, gq, rfl, rfl, hb, cd0, cd1, cd2, cd3, cd4, cd5, cd6, cd7, cd8, cd9, cd10, cd11, cd12, cd13, cd14, cd15, f_va, f_vb, f_tb, f_zp, f_zq, f_lp, f_lq, f_tp, f_tq, f_ne, f_n2, f_sp, f_qp, f_sq, f_qq, w_5_2, w_12_9⟩ hf hd
        have hf' : b2 = false := hf
        subst hf'
        have d0 : b0 = true := hd ⟨0, .data⟩ (by simp) rfl
        subst d0
        have d1 : b1 = true := hd ⟨1, .data⟩ (by simp) rfl
        subst d1
        obtain rfl := cd0.out rfl
        obtain rfl := cd1.out rfl
        clear hf hd
        try simp only [List.setIfInBounds_toArray, List.set_cons_zero, List.set_cons_succ]
        intro K hK
        rw [if_pos (by rfl)]
        go_simp
        go_at_call 18
        refine (HFa _ hb).mono ?_
        rintro e w' ⟨ra2, rca2, rfl, oT, bx⟩
        obtain ⟨fa2, fo2, rfl, vc, hfa2⟩ := fit_own oT hNp1 KI _ hka
        have e_5 : b5 = false := by cases hq : b5 with | false => rfl | true => exact absurd (w_5_2.out hq) (by simp)
        subst e_5
        exact hK.out _ _ ⟨true, true, true, b3, b4, false, b6, b7, b8, b9, b10, b11, b12, b13, b14, b15, b16, b17, .agg #[.string (bsOf NM), .slice (some ⟨g, 0, none⟩) N cg, .int .i64 (KI : Nat), .bool only], .int .i64 aa, (.slice (some ⟨fa2, fo2, none⟩) N rca2), x68, x69, x70, x71, x72, x73, x74, x75, x76, x77, x78, x17, x18, fa2, fo2, rca2, fb, fp, fd, gp, gq, (by simp only [Act.put, List.setIfInBounds_toArray, List.set_cons_zero, List.set_cons_succ]), (by simp only [Act.put, List.setIfInBounds_toArray, List.set_cons_zero, List.set_cons_succ]), hb.trans (bx.mono (Nat.le_trans hB0 hb.size)), (fun _ => rfl), (fun _ => rfl), (fun _ => rfl), cd3, cd4, (fun h => by cases h), cd6, cd7, cd8, cd9, cd10, cd11, cd12, cd13, cd14, cd15, (fun _ _ => vc), (fun h0 h1 => (f_vb.out h0 h1).past bx), (fun h0 => (f_tb.out h0).past bx), (fun h0 h1 => (f_zp.out h0 h1).past bx), (fun h0 h1 => (f_zq.out h0 h1).past bx), f_lp, f_lq, (fun h0 => (f_tp.out h0).past bx), (fun h0 => (f_tq.out h0).past bx), f_ne, f_n2, (fun h0 => (f_sp.out h0).past bx), f_qp, (fun h0 => (f_sq.out h0).past bx), f_qq, (fun _ => rfl), w_12_9⟩
      · rintro L a w ⟨b0, b1, b2, b3, b4, b5, b6, b7, b8, b9, b10, b11, b12, b13, b14, b15, b16, b17, x65, x66, x67, x68, x69, x70, x71, x72, x73, x74, x75, x76, x77, x78, x17, x18, fa, fo, fc, fb, fp, fd, gp, gq, rfl, rfl, hb, cd0, cd1, cd2, cd3, cd4, cd5, cd6, cd7, cd8, cd9, cd10, cd11, cd12, cd13, cd14, cd15, f_va, f_vb, f_tb, f_zp, f_zq, f_lp, f_lq, f_tp, f_tq, f_ne, f_n2, f_sp, f_qp, f_sq, f_qq, w_5_2, w_12_9⟩ hf hd
        have hf' : b3 = false := hf
        subst hf'
        clear hf hd
        try simp only [List.setIfInBounds_toArray, List.set_cons_zero, List.set_cons_succ]
        intro K hK
        rw [if_pos (by rfl)]
        go_simp
        exact hK.out _ _ ⟨b0, b1, b2, true, b4, b5, b6, b7, b8, b9, b10, b11, b12, b13, b14, b15, b16, b17, x65, x66, x67, (.pointer (some ⟨gs, 2, none⟩)), x69, x70, x71, x72, x73, x74, x75, x76, x77, x78, x17, x18, fa, fo, fc, fb, fp, fd, gp, gq, (by simp only [Act.put, List.setIfInBounds_toArray, List.set_cons_zero, List.set_cons_succ]), (by simp only [Act.put, List.setIfInBounds_toArray, List.set_cons_zero, List.set_cons_succ]), hb, cd0, cd1, cd2, (fun _ => rfl), cd4, cd5, cd6, cd7, cd8, cd9, cd10, cd11, cd12, cd13, cd14, cd15, f_va, f_vb, f_tb, f_zp, f_zq, f_lp, f_lq, f_tp, f_tq, f_ne, f_n2, f_sp, f_qp, f_sq, f_qq, w_5_2, w_12_9⟩
      · rintro L a w ⟨b0, b1, b2, b3, b4, b5, b6, b7, b8, b9, b10, b11, b12, b13, b14, b15, b16, b17, x65, x66, x67, x68, x69, x70, x71, x72, x73, x74, x75, x76, x77, x78, x17, x18, fa, fo, fc, fb, fp, fd, gp, gq, rfl, rfl, hb, cd0, cd1, cd2, cd3, cd4, cd5, cd6, cd7, cd8, cd9, cd10, cd11, cd12, cd13, cd14, cd15, f_va, f_vb, f_tb, f_zp, f_zq, f_lp, f_lq, f_tp, f_tq, f_ne, f_n2, f_sp, f_qp, f_sq, f_qq, w_5_2, w_12_9⟩ hf hd
        have hf' : b4 = false := hf
        subst hf'
        have d3 : b3 = true := hd ⟨3, .data⟩ (by simp) rfl
        subst d3
        obtain rfl := cd3.out rfl
        clear hf hd
        try simp only [List.setIfInBounds_toArray, List.set_cons_zero, List.set_cons_succ]
        have z0 := (hb.cell hgsB).trans z2
        intro K hK
        rw [if_pos (by rfl)]
        go_simp
        exact hK.out _ _ ⟨b0, b1, b2, true, true, b5, b6, b7, b8, b9, b10, b11, b12, b13, b14, b15, b16, b17, x65, x66, x67, .pointer (some ⟨gs, 2, none⟩), (.int .i64 (KI : Nat)), x70, x71, x72, x73, x74, x75, x76, x77, x78, x17, x18, fa, fo, fc, fb, fp, fd, gp, gq, (by simp only [Act.put, List.setIfInBounds_toArray, List.set_cons_zero, List.set_cons_succ]), (by simp only [Act.put, List.setIfInBounds_toArray, List.set_cons_zero, List.set_cons_succ]), hb, cd0, cd1, cd2, (fun _ => rfl), (fun _ => rfl), cd5, cd6, cd7, cd8, cd9, cd10, cd11, cd12, cd13, cd14, cd15, f_va, f_vb, f_tb, f_zp, f_zq, f_lp, f_lq, f_tp, f_tq, f_ne, f_n2, f_sp, f_qp, f_sq, f_qq, w_5_2, w_12_9⟩
      · rintro L a w ⟨b0, b1, b2, b3, b4, b5, b6, b7, b8, b9, b10, b11, b12, b13, b14, b15, b16, b17, x65, x66, x67, x68, x69, x70, x71, x72, x73, x74, x75, x76, x77, x78, x17, x18, fa, fo, fc, fb, fp, fd, gp, gq, rfl, rfl, hb, cd0, cd1, cd2, cd3, cd4, cd5, cd6, cd7, cd8, cd9, cd10, cd11, cd12, cd13, cd14, cd15, f_va, f_vb, f_tb, f_zp, f_zq, f_lp, f_lq, f_tp, f_tq, f_ne, f_n2, f_sp, f_qp, f_sq, f_qq, w_5_2, w_12_9⟩ hf hd
        have hf' : b5 = false := hf
        subst hf'
        have d2 : b2 = true := hd ⟨2, .data⟩ (by simp) rfl
        subst d2
        have d4 : b4 = true := hd ⟨4, .data⟩ (by simp) rfl
        subst d4
        obtain rfl := cd2.out rfl
        obtain rfl := cd4.out rfl
        clear hf hd
        try simp only [List.setIfInBounds_toArray, List.set_cons_zero, List.set_cons_succ]
        intro K hK
        rw [if_pos (by rfl)]
        go_simp
        exact hK.out _ _ ⟨b0, b1, true, b3, true, true, b6, b7, b8, b9, b10, b11, b12, b13, b14, b15, b16, b17, x65, x66, .slice (some ⟨fa, fo, none⟩) N fc, x68, .int .i64 (KI : Nat), (.pointer (some ⟨fa, fo + KI * 3, none⟩)), x71, x72, x73, x74, x75, x76, x77, x78, x17, x18, fa, fo, fc, fb, fp, fd, gp, gq, (by simp only [Act.put, List.setIfInBounds_toArray, List.set_cons_zero, List.set_cons_succ]), (by simp only [Act.put, List.setIfInBounds_toArray, List.set_cons_zero, List.set_cons_succ]), hb, cd0, cd1, (fun _ => rfl), cd3, (fun _ => rfl), (fun _ => rfl), cd6, cd7, cd8, cd9, cd10, cd11, cd12, cd13, cd14, cd15, f_va, f_vb, f_tb, f_zp, f_zq, f_lp, f_lq, f_tp, f_tq, f_ne, f_n2, f_sp, f_qp, f_sq, f_qq, (fun _ => rfl), w_12_9⟩
      · rintro L a w ⟨b0, b1, b2, b3, b4, b5, b6, b7, b8, b9, b10, b11, b12, b13, b14, b15, b16, b17, x65, x66, x67, x68, x69, x70, x71, x72, x73, x74, x75, x76, x77, x78, x17, x18, fa, fo, fc, fb, fp, fd, gp, gq, rfl, rfl, hb, cd0, cd1, cd2, cd3, cd4, cd5, cd6, cd7, cd8, cd9, cd10, cd11, cd12, cd13, cd14, cd15, f_va, f_vb, f_tb, f_zp, f_zq, f_lp, f_lq, f_tp, f_tq, f_ne, f_n2, f_sp, f_qp, f_sq, f_qq, w_5_2, w_12_9⟩ hf hd
        have hf' : b6 = false := hf
        subst hf'
        have d5 : b5 = true := hd ⟨5, .data⟩ (by simp) rfl
        subst d5
        obtain rfl := cd5.out rfl
        clear hf hd
        try simp only [List.setIfInBounds_toArray, List.set_cons_zero, List.set_cons_succ]
        have W_va := f_va.out (w_5_2.out rfl) rfl
        obtain ⟨-, z0, z1, z2⟩ := W_va
        intro K hK
        rw [if_pos (by rfl)]
        go_simp
        exact hK.out _ _ ⟨b0, b1, b2, b3, b4, true, true, b7, b8, b9, b10, b11, b12, b13, b14, b15, b16, b17, x65, x66, x67, x68, x69, .pointer (some ⟨fa, fo + KI * 3, none⟩), (.agg #[.int .i64 pk, .int .i64 pm, .string ps]), x72, x73, x74, x75, x76, x77, x78, x17, x18, fa, fo, fc, fb, fp, fd, gp, gq, (by simp only [Act.put, List.setIfInBounds_toArray, List.set_cons_zero, List.set_cons_succ]), (by simp only [Act.put, List.setIfInBounds_toArray, List.set_cons_zero, List.set_cons_succ]), hb, cd0, cd1, cd2, cd3, cd4, (fun _ => rfl), (fun _ => rfl), cd7, cd8, cd9, cd10, cd11, cd12, cd13, cd14, cd15, (fun _ h => by cases h), f_vb, f_tb, f_zp, f_zq, f_lp, f_lq, f_tp, f_tq, f_ne, f_n2, f_sp, f_qp, f_sq, f_qq, w_5_2, w_12_9⟩
      · rintro L a w ⟨b0, b1, b2, b3, b4, b5, b6, b7, b8, b9, b10, b11, b12, b13, b14, b15, b16, b17, x65, x66, x67, x68, x69, x70, x71, x72, x73, x74, x75, x76, x77, x78, x17, x18, fa, fo, fc, fb, fp, fd, gp, gq, rfl, rfl, hb, cd0, cd1, cd2, cd3, cd4, cd5, cd6, cd7, cd8, cd9, cd10, cd11, cd12, cd13, cd14, cd15, f_va, f_vb, f_tb, f_zp, f_zq, f_lp, f_lq, f_tp, f_tq, f_ne, f_n2, f_sp, f_qp, f_sq, f_qq, w_5_2, w_12_9⟩ hf hd
        have hf' : b7 = false := hf
        subst hf'
        clear hf hd
        try simp only [List.setIfInBounds_toArray, List.set_cons_zero, List.set_cons_succ]
        have z0 := (hb.cell hgsB).trans z0
        have z1 := (hb.cell hgsB).trans z1
        have z2 := (hb.cell hgsB).trans z2
        have z3 := (hb.cell hgsB).trans z3
        intro K hK
        rw [if_pos (by rfl)]
        go_simp
        exact hK.out _ _ ⟨b0, b1, b2, b3, b4, b5, b6, true, b8, b9, b10, b11, b12, b13, b14, b15, b16, b17, x65, x66, x67, x68, x69, x70, x71, (.agg #[.string (bsOf NM), .slice (some ⟨g, 0, none⟩) N cg, .int .i64 (KI : Nat), .bool only]), x73, x74, x75, x76, x77, x78, x17, x18, fa, fo, fc, fb, fp, fd, gp, gq, (by simp only [Act.put, List.setIfInBounds_toArray, List.set_cons_zero, List.set_cons_succ]), (by simp only [Act.put, List.setIfInBounds_toArray, List.set_cons_zero, List.set_cons_succ]), hb, cd0, cd1, cd2, cd3, cd4, cd5, cd6, (fun _ => rfl), cd8, cd9, cd10, cd11, cd12, cd13, cd14, cd15, f_va, f_vb, f_tb, f_zp, f_zq, f_lp, f_lq, f_tp, f_tq, f_ne, f_n2, f_sp, f_qp, f_sq, f_qq, w_5_2, w_12_9⟩
      · rintro L a w ⟨b0, b1, b2, b3, b4, b5, b6, b7, b8, b9, b10, b11, b12, b13, b14, b15, b16, b17, x65, x66, x67, x68, x69, x70, x71, x72, x73, x74, x75, x76, x77, x78, x17, x18, fa, fo, fc, fb, fp, fd, gp, gq, rfl, rfl, hb, cd0, cd1, cd2, cd3, cd4, cd5, cd6, cd7, cd8, cd9, cd10, cd11, cd12, cd13, cd14, cd15, f_va, f_vb, f_tb, f_zp, f_zq, f_lp, f_lq, f_tp, f_tq, f_ne, f_n2, f_sp, f_qp, f_sq, f_qq, w_5_2, w_12_9⟩ hf hd
        have hf' : b8 = false := hf
        subst hf'
        clear hf hd
        try simp only [List.setIfInBounds_toArray, List.set_cons_zero, List.set_cons_succ]
        intro K hK
        rw [if_pos (by rfl)]
        go_simp
        exact hK.out _ _ ⟨b0, b1, b2, b3, b4, b5, b6, b7, true, b9, b10, b11, b12, b13, b14, b15, b16, b17, x65, x66, x67, x68, x69, x70, x71, x72, (.int .i64 bb), x74, x75, x76, x77, x78, x17, x18, fa, fo, fc, fb, fp, fd, gp, gq, (by simp only [Act.put, List.setIfInBounds_toArray, List.set_cons_zero, List.set_cons_succ]), (by simp only [Act.put, List.setIfInBounds_toArray, List.set_cons_zero, List.set_cons_succ]), hb, cd0, cd1, cd2, cd3, cd4, cd5, cd6, cd7, (fun _ => rfl), cd9, cd10, cd11, cd12, cd13, cd14, cd15, f_va, f_vb, f_tb, f_zp, f_zq, f_lp, f_lq, f_tp, f_tq, f_ne, f_n2, f_sp, f_qp, f_sq, f_qq, w_5_2, w_12_9⟩
      · rintro L a w ⟨b0, b1, b2, b3, b4, b5, b6, b7, b8, b9, b10, b11, b12, b13, b14, b15, b16, b17, x65, x66, x67, x68, x69, x70, x71, x72, x73, x74, x75, x76, x77, x78, x17, x18, fa, fo, fc, fb, fp, fd, gp, gq, rfl, rfl, hb, cd0, cd1, cd2, cd3, cd4, cd5, cd6, cd7, cd8, cd9, cd10, cd11, cd12, cd13, cd14, cd15, f_va, f_vb, f_tb, f_zp, f_zq, f_lp, f_lq, f_tp, f_tq, f_ne, f_n2, f_sp, f_qp, f_sq, f_qq, w_5_2, w_12_9⟩ hf hd
        have hf' : b9 = false := hf
        subst hf'
        have d7 : b7 = true := hd ⟨7, .data⟩ (by simp) rfl
        subst d7
        have d8 : b8 = true := hd ⟨8, .data⟩ (by simp) rfl
        subst d8
        have d2 : b2 = true := hd ⟨2, .chain⟩ (by simp) rfl
        subst d2
        obtain rfl := cd7.out rfl
        obtain rfl := cd8.out rfl
        obtain rfl := cd2.out rfl
        clear hf hd
        try simp only [List.setIfInBounds_toArray, List.set_cons_zero, List.set_cons_succ]
        intro K hK
        rw [if_pos (by rfl)]
        go_simp
        go_at_call 18
        refine (HFb _ hb).mono ?_
        rintro e w' ⟨ra2, rca2, rfl, oT, bx⟩
        obtain ⟨fa2, fo2, rfl, vc, hfa2⟩ := fit_own oT hNp1 KI _ hkb
        have e_12 : b12 = false := by cases hq : b12 with | false => rfl | true => exact absurd (w_12_9.out hq) (by simp)
        subst e_12
        exact hK.out _ _ ⟨b0, b1, true, b3, b4, b5, b6, true, true, true, b10, b11, false, b13, b14, b15, b16, b17, x65, x66, .slice (some ⟨fa, fo, none⟩) N fc, x68, x69, x70, x71, .agg #[.string (bsOf NM), .slice (some ⟨g, 0, none⟩) N cg, .int .i64 (KI : Nat), .bool only], .int .i64 bb, (.slice (some ⟨fa2, fo2, none⟩) N rca2), x75, x76, x77, x78, x17, x18, fa, fo, fc, fa2, fo2, rca2, gp, gq, (by simp only [Act.put, List.setIfInBounds_toArray, List.set_cons_zero, List.set_cons_succ]), (by simp only [Act.put, List.setIfInBounds_toArray, List.set_cons_zero, List.set_cons_succ]), hb.trans (bx.mono (Nat.le_trans hB0 hb.size)), cd0, cd1, (fun _ => rfl), cd3, cd4, cd5, cd6, (fun _ => rfl), (fun _ => rfl), (fun _ => rfl), cd10, cd11, (fun h => by cases h), cd13, cd14, cd15, (fun h0 h1 => (f_va.out h0 h1).past bx), (fun _ _ => vc), (fun _ => vc.1), (fun h0 h1 => (f_zp.out h0 h1).past bx), (fun h0 h1 => (f_zq.out h0 h1).past bx), f_lp, f_lq, (fun h0 => (f_tp.out h0).past bx), (fun h0 => (f_tq.out h0).past bx), (fun _ => fun h => Nat.ne_of_gt (Nat.lt_of_lt_of_le (f_tp.out h) hfa2)), f_n2, (fun h0 => (f_sp.out h0).past bx), f_qp, (fun h0 => (f_sq.out h0).past bx), f_qq, (fun _ => rfl), (fun _ => rfl)⟩
      · rintro L a w ⟨b0, b1, b2, b3, b4, b5, b6, b7, b8, b9, b10, b11, b12, b13, b14, b15, b16, b17, x65, x66, x67, x68, x69, x70, x71, x72, x73, x74, x75, x76, x77, x78, x17, x18, fa, fo, fc, fb, fp, fd, gp, gq, rfl, rfl, hb, cd0, cd1, cd2, cd3, cd4, cd5, cd6, cd7, cd8, cd9, cd10, cd11, cd12, cd13, cd14, cd15, f_va, f_vb, f_tb, f_zp, f_zq, f_lp, f_lq, f_tp, f_tq, f_ne, f_n2, f_sp, f_qp, f_sq, f_qq, w_5_2, w_12_9⟩ hf hd
        have hf' : b10 = false := hf
        subst hf'
        clear hf hd
        try simp only [List.setIfInBounds_toArray, List.set_cons_zero, List.set_cons_succ]
        intro K hK
        rw [if_pos (by rfl)]
        go_simp
        exact hK.out _ _ ⟨b0, b1, b2, b3, b4, b5, b6, b7, b8, b9, true, b11, b12, b13, b14, b15, b16, b17, x65, x66, x67, x68, x69, x70, x71, x72, x73, x74, (.pointer (some ⟨gs, 2, none⟩)), x76, x77, x78, x17, x18, fa, fo, fc, fb, fp, fd, gp, gq, (by simp only [Act.put, List.setIfInBounds_toArray, List.set_cons_zero, List.set_cons_succ]), (by simp only [Act.put, List.setIfInBounds_toArray, List.set_cons_zero, List.set_cons_succ]), hb, cd0, cd1, cd2, cd3, cd4, cd5, cd6, cd7, cd8, cd9, (fun _ => rfl), cd11, cd12, cd13, cd14, cd15, f_va, f_vb, f_tb, f_zp, f_zq, f_lp, f_lq, f_tp, f_tq, f_ne, f_n2, f_sp, f_qp, f_sq, f_qq, w_5_2, w_12_9⟩
      · rintro L a w ⟨b0, b1, b2, b3, b4, b5, b6, b7, b8, b9, b10, b11, b12, b13, b14, b15, b16, b17, x65, x66, x67, x68, x69, x70, x71, x72, x73, x74, x75, x76, x77, x78, x17, x18, fa, fo, fc, fb, fp, fd, gp, gq, rfl, rfl, hb, cd0, cd1, cd2, cd3, cd4, cd5, cd6, cd7, cd8, cd9, cd10, cd11, cd12, cd13, cd14, cd15, f_va, f_vb, f_tb, f_zp, f_zq, f_lp, f_lq, f_tp, f_tq, f_ne, f_n2, f_sp, f_qp, f_sq, f_qq, w_5_2, w_12_9⟩ hf hd
        have hf' : b11 = false := hf
        subst hf'
        have d10 : b10 = true := hd ⟨10, .data⟩ (by simp) rfl
        subst d10
        obtain rfl := cd10.out rfl
        clear hf hd
        try simp only [List.setIfInBounds_toArray, List.set_cons_zero, List.set_cons_succ]
        have z0 := (hb.cell hgsB).trans z2
        intro K hK
        rw [if_pos (by rfl)]
        go_simp
        exact hK.out _ _ ⟨b0, b1, b2, b3, b4, b5, b6, b7, b8, b9, true, true, b12, b13, b14, b15, b16, b17, x65, x66, x67, x68, x69, x70, x71, x72, x73, x74, .pointer (some ⟨gs, 2, none⟩), (.int .i64 (KI : Nat)), x77, x78, x17, x18, fa, fo, fc, fb, fp, fd, gp, gq, (by simp only [Act.put, List.setIfInBounds_toArray, List.set_cons_zero, List.set_cons_succ]), (by simp only [Act.put, List.setIfInBounds_toArray, List.set_cons_zero, List.set_cons_succ]), hb, cd0, cd1, cd2, cd3, cd4, cd5, cd6, cd7, cd8, cd9, (fun _ => rfl), (fun _ => rfl), cd12, cd13, cd14, cd15, f_va, f_vb, f_tb, f_zp, f_zq, f_lp, f_lq, f_tp, f_tq, f_ne, f_n2, f_sp, f_qp, f_sq, f_qq, w_5_2, w_12_9⟩
      · rintro L a w ⟨b0, b1, b2, b3, b4, b5, b6, b7, b8, b9, b10, b11, b12, b13, b14, b15, b16, b17, x65, x66, x67, x68, x69, x70, x71, x72, x73, x74, x75, x76, x77, x78, x17, x18, fa, fo, fc, fb, fp, fd, gp, gq, rfl, rfl, hb, cd0, cd1, cd2, cd3, cd4, cd5, cd6, cd7, cd8, cd9, cd10, cd11, cd12, cd13, cd14, cd15, f_va, f_vb, f_tb, f_zp, f_zq, f_lp, f_lq, f_tp, f_tq, f_ne, f_n2, f_sp, f_qp, f_sq, f_qq, w_5_2, w_12_9⟩ hf hd
        have hf' : b12 = false := hf
        subst hf'
        have d9 : b9 = true := hd ⟨9, .data⟩ (by simp) rfl
        subst d9
        have d11 : b11 = true := hd ⟨11, .data⟩ (by simp) rfl
        subst d11
        obtain rfl := cd9.out rfl
        obtain rfl := cd11.out rfl
        clear hf hd
        have W_tb := f_tb.out rfl
        have W_ne := f_ne.out rfl
        try simp only [List.setIfInBounds_toArray, List.set_cons_zero, List.set_cons_succ]
        intro K hK
        rw [if_pos (by rfl)]
        go_simp
        exact hK.out _ _ ⟨b0, b1, b2, b3, b4, b5, b6, b7, b8, true, b10, true, true, b13, b14, b15, b16, b17, x65, x66, x67, x68, x69, x70, x71, x72, x73, .slice (some ⟨fb, fp, none⟩) N fd, x75, .int .i64 (KI : Nat), (.pointer (some ⟨fb, fp + KI * 3, none⟩)), x78, x17, x18, fa, fo, fc, fb, fp, fd, gp, gq, (by simp only [Act.put, List.setIfInBounds_toArray, List.set_cons_zero, List.set_cons_succ]), (by simp only [Act.put, List.setIfInBounds_toArray, List.set_cons_zero, List.set_cons_succ]), hb, cd0, cd1, cd2, cd3, cd4, cd5, cd6, cd7, cd8, (fun _ => rfl), cd10, (fun _ => rfl), (fun _ => rfl), cd13, cd14, cd15, f_va, f_vb, f_tb, f_zp, f_zq, f_lp, f_lq, f_tp, f_tq, f_ne, f_n2, f_sp, f_qp, f_sq, f_qq, w_5_2, (fun _ => rfl)⟩
      · rintro L a w ⟨b0, b1, b2, b3, b4, b5, b6, b7, b8, b9, b10, b11, b12, b13, b14, b15, b16, b17, x65, x66, x67, x68, x69, x70, x71, x72, x73, x74, x75, x76, x77, x78, x17, x18, fa, fo, fc, fb, fp, fd, gp, gq, rfl, rfl, hb, cd0, cd1, cd2, cd3, cd4, cd5, cd6, cd7, cd8, cd9, cd10, cd11, cd12, cd13, cd14, cd15, f_va, f_vb, f_tb, f_zp, f_zq, f_lp, f_lq, f_tp, f_tq, f_ne, f_n2, f_sp, f_qp, f_sq, f_qq, w_5_2, w_12_9⟩ hf hd
        have hf' : b13 = false := hf
        subst hf'
        have d12 : b12 = true := hd ⟨12, .data⟩ (by simp) rfl
        subst d12
        obtain rfl := cd12.out rfl
        clear hf hd
        try simp only [List.setIfInBounds_toArray, List.set_cons_zero, List.set_cons_succ]
        have W_vb := f_vb.out (w_12_9.out rfl) rfl
        obtain ⟨-, z0, z1, z2⟩ := W_vb
        intro K hK
        rw [if_pos (by rfl)]
        go_simp
        exact hK.out _ _ ⟨b0, b1, b2, b3, b4, b5, b6, b7, b8, b9, b10, b11, true, true, b14, b15, b16, b17, x65, x66, x67, x68, x69, x70, x71, x72, x73, x74, x75, x76, .pointer (some ⟨fb, fp + KI * 3, none⟩), (.agg #[.int .i64 qk, .int .i64 qm, .string qs]), x17, x18, fa, fo, fc, fb, fp, fd, gp, gq, (by simp only [Act.put, List.setIfInBounds_toArray, List.set_cons_zero, List.set_cons_succ]), (by simp only [Act.put, List.setIfInBounds_toArray, List.set_cons_zero, List.set_cons_succ]), hb, cd0, cd1, cd2, cd3, cd4, cd5, cd6, cd7, cd8, cd9, cd10, cd11, (fun _ => rfl), (fun _ => rfl), cd14, cd15, f_va, (fun _ h => by cases h), f_tb, f_zp, f_zq, f_lp, f_lq, f_tp, f_tq, f_ne, f_n2, f_sp, f_qp, f_sq, f_qq, w_5_2, w_12_9⟩
      · rintro L a w ⟨b0, b1, b2, b3, b4, b5, b6, b7, b8, b9, b10, b11, b12, b13, b14, b15, b16, b17, x65, x66, x67, x68, x69, x70, x71, x72, x73, x74, x75, x76, x77, x78, x17, x18, fa, fo, fc, fb, fp, fd, gp, gq, rfl, rfl, hb, cd0, cd1, cd2, cd3, cd4, cd5, cd6, cd7, cd8, cd9, cd10, cd11, cd12, cd13, cd14, cd15, f_va, f_vb, f_tb, f_zp, f_zq, f_lp, f_lq, f_tp, f_tq, f_ne, f_n2, f_sp, f_qp, f_sq, f_qq, w_5_2, w_12_9⟩ hf hd
        have hf' : b14 = false := hf
        subst hf'
        clear hf hd
        try simp only [List.setIfInBounds_toArray, List.set_cons_zero, List.set_cons_succ]
        intro K hK
        rw [if_pos (by rfl)]
        go_simp
        have bx : Below w.heap.size w (w.alloc (.cells #[.int .i64 0, .int .i64 0, .string ⟨#[]⟩] 55)) := (Below.refl _ _).alloc (Nat.le_refl _) _
        exact hK.out _ _ ⟨b0, b1, b2, b3, b4, b5, b6, b7, b8, b9, b10, b11, b12, b13, true, b15, b16, b17, x65, x66, x67, x68, x69, x70, x71, x72, x73, x74, x75, x76, x77, x78, (.pointer (some ⟨(w.heap.size), 0, none⟩)), x18, fa, fo, fc, fb, fp, fd, w.heap.size, gq, (by simp only [Act.put, List.setIfInBounds_toArray, List.set_cons_zero, List.set_cons_succ]), (by simp only [Act.put, List.setIfInBounds_toArray, List.set_cons_zero, List.set_cons_succ]), hb.trans (bx.mono (Nat.le_trans hB0 hb.size)), cd0, cd1, cd2, cd3, cd4, cd5, cd6, cd7, cd8, cd9, cd10, cd11, cd12, cd13, (fun _ => rfl), cd15, (fun h0 h1 => (f_va.out h0 h1).past bx), (fun h0 h1 => (f_vb.out h0 h1).past bx), (fun h0 => (f_tb.out h0).past bx), (fun _ _ => Bk.new w _ _), (fun h0 h1 => (f_zq.out h0 h1).past bx), (fun _ => hb.size), f_lq, (fun _ => (by show _ < _; rw [World.size_alloc]; omega)), (fun h0 => (f_tq.out h0).past bx), (fun h0 _ => Nat.ne_of_lt (f_tb.out h0)), (fun _ => fun h e => Nat.ne_of_gt (f_tq.out h) e), (fun h0 => absurd (f_qp.out h0) (by simp)), (fun _ => rfl), (fun h0 => (f_sq.out h0).past bx), f_qq, w_5_2, w_12_9⟩
      · rintro L a w ⟨b0, b1, b2, b3, b4, b5, b6, b7, b8, b9, b10, b11, b12, b13, b14, b15, b16, b17, x65, x66, x67, x68, x69, x70, x71, x72, x73, x74, x75, x76, x77, x78, x17, x18, fa, fo, fc, fb, fp, fd, gp, gq, rfl, rfl, hb, cd0, cd1, cd2, cd3, cd4, cd5, cd6, cd7, cd8, cd9, cd10, cd11, cd12, cd13, cd14, cd15, f_va, f_vb, f_tb, f_zp, f_zq, f_lp, f_lq, f_tp, f_tq, f_ne, f_n2, f_sp, f_qp, f_sq, f_qq, w_5_2, w_12_9⟩ hf hd
        have hf' : b15 = false := hf
        subst hf'
        clear hf hd
        try simp only [List.setIfInBounds_toArray, List.set_cons_zero, List.set_cons_succ]
        intro K hK
        rw [if_pos (by rfl)]
        go_simp
        have bx : Below w.heap.size w (w.alloc (.cells #[.int .i64 0, .int .i64 0, .string ⟨#[]⟩] 55)) := (Below.refl _ _).alloc (Nat.le_refl _) _
        exact hK.out _ _ ⟨b0, b1, b2, b3, b4, b5, b6, b7, b8, b9, b10, b11, b12, b13, b14, true, b16, b17, x65, x66, x67, x68, x69, x70, x71, x72, x73, x74, x75, x76, x77, x78, x17, (.pointer (some ⟨(w.heap.size), 0, none⟩)), fa, fo, fc, fb, fp, fd, gp, w.heap.size, (by simp only [Act.put, List.setIfInBounds_toArray, List.set_cons_zero, List.set_cons_succ]), (by simp only [Act.put, List.setIfInBounds_toArray, List.set_cons_zero, List.set_cons_succ]), hb.trans (bx.mono (Nat.le_trans hB0 hb.size)), cd0, cd1, cd2, cd3, cd4, cd5, cd6, cd7, cd8, cd9, cd10, cd11, cd12, cd13, cd14, (fun _ => rfl), (fun h0 h1 => (f_va.out h0 h1).past bx), (fun h0 h1 => (f_vb.out h0 h1).past bx), (fun h0 => (f_tb.out h0).past bx), (fun h0 h1 => (f_zp.out h0 h1).past bx), (fun _ _ => Bk.new w _ _), f_lp, (fun _ => hb.size), (fun h0 => (f_tp.out h0).past bx), (fun _ => (by show _ < _; rw [World.size_alloc]; omega)), f_ne, (fun h0 _ e => Nat.ne_of_gt (f_tp.out h0) e.symm), (fun h0 => (f_sp.out h0).past bx), f_qp, (fun h0 => absurd (f_qq.out h0) (by simp)), (fun _ => rfl), w_5_2, w_12_9⟩
      · rintro L a w ⟨b0, b1, b2, b3, b4, b5, b6, b7, b8, b9, b10, b11, b12, b13, b14, b15, b16, b17, x65, x66, x67, x68, x69, x70, x71, x72, x73, x74, x75, x76, x77, x78, x17, x18, fa, fo, fc, fb, fp, fd, gp, gq, rfl, rfl, hb, cd0, cd1, cd2, cd3, cd4, cd5, cd6, cd7, cd8, cd9, cd10, cd11, cd12, cd13, cd14, cd15, f_va, f_vb, f_tb, f_zp, f_zq, f_lp, f_lq, f_tp, f_tq, f_ne, f_n2, f_sp, f_qp, f_sq, f_qq, w_5_2, w_12_9⟩ hf hd
        have hf' : b16 = false := hf
        subst hf'
        have d14 : b14 = true := hd ⟨14, .data⟩ (by simp) rfl
        subst d14
        have d6 : b6 = true := hd ⟨6, .data⟩ (by simp) rfl
        subst d6
        have d9 : b9 = true := hd ⟨9, .chain⟩ (by simp) rfl
        subst d9
        have d0 : b0 = true := hd ⟨0, .phase⟩ (by simp) rfl
        subst d0
        have d1 : b1 = true := hd ⟨1, .phase⟩ (by simp) rfl
        subst d1
        have d2 : b2 = true := hd ⟨2, .phase⟩ (by simp) rfl
        subst d2
        have d3 : b3 = true := hd ⟨3, .phase⟩ (by simp) rfl
        subst d3
        have d4 : b4 = true := hd ⟨4, .phase⟩ (by simp) rfl
        subst d4
        have d5 : b5 = true := hd ⟨5, .phase⟩ (by simp) rfl
        subst d5
        have d15 : b15 = true := hd ⟨15, .phase⟩ (by simp) rfl
        subst d15
        obtain rfl := cd14.out rfl
        obtain rfl := cd6.out rfl
        obtain rfl := cd9.out rfl
        obtain rfl := cd0.out rfl
        obtain rfl := cd1.out rfl
        obtain rfl := cd2.out rfl
        obtain rfl := cd3.out rfl
        obtain rfl := cd4.out rfl
        obtain rfl := cd5.out rfl
        obtain rfl := cd15.out rfl
        clear hf hd
        have W_tb := f_tb.out rfl
        have W_zp := f_zp.out rfl rfl
        have W_lp := f_lp.out rfl
        have W_lq := f_lq.out rfl
        have W_tp := f_tp.out rfl
        have W_tq := f_tq.out rfl
        have W_ne := f_ne.out rfl
        have W_n2 := f_n2.out rfl
        try simp only [List.setIfInBounds_toArray, List.set_cons_zero, List.set_cons_succ]
        intro K hK
        rw [if_pos (by rfl)]
        refine wp_store_blkT 55 _ _ rfl gp (vC 0 0 ⟨#[]⟩) (vC pk pm ps) rfl rfl _ (Lib.hid W_zp) 3 szVl rfl rfl (vC_all ..) fun w2 h8 g8 => ?_
        have hb2 := hb.grown g8 (Nat.le_trans hB0 hb.size) (fun z hz => by cases hz; exact W_lp)
        exact hK.out _ _ ⟨true, true, true, true, true, true, true, b7, b8, true, b10, b11, b12, b13, true, true, true, b17, .agg #[.string (bsOf NM), .slice (some ⟨g, 0, none⟩) N cg, .int .i64 (KI : Nat), .bool only], .int .i64 aa, .slice (some ⟨fa, fo, none⟩) N fc, .pointer (some ⟨gs, 2, none⟩), .int .i64 (KI : Nat), .pointer (some ⟨fa, fo + KI * 3, none⟩), .agg #[.int .i64 pk, .int .i64 pm, .string ps], x72, x73, .slice (some ⟨fb, fp, none⟩) N fd, x75, x76, x77, x78, .pointer (some ⟨gp, 0, none⟩), .pointer (some ⟨gq, 0, none⟩), fa, fo, fc, fb, fp, fd, gp, gq, (by simp only [Act.put, List.setIfInBounds_toArray, List.set_cons_zero, List.set_cons_succ]), (by simp only [Act.put, List.setIfInBounds_toArray, List.set_cons_zero, List.set_cons_succ]), hb2, (fun _ => rfl), (fun _ => rfl), (fun _ => rfl), (fun _ => rfl), (fun _ => rfl), (fun _ => rfl), (fun _ => rfl), cd7, cd8, (fun _ => rfl), cd10, cd11, cd12, cd13, (fun _ => rfl), (fun _ => rfl), (fun _ h => by cases h), (fun h0 h1 => ((f_vb.out h0 h1)).grown g8 (f_ne.out h0 rfl)), (fun h0 => Nat.lt_of_lt_of_le ((f_tb.out h0)) g8.size), (fun _ h => by cases h), (fun h0 h1 => ((f_zq.out h0 h1)).grown g8 (fun e => f_n2.out rfl h0 (Option.some.inj e).symm)), f_lp, f_lq, (fun h0 => Nat.lt_of_lt_of_le ((f_tp.out h0)) g8.size), (fun h0 => Nat.lt_of_lt_of_le ((f_tq.out h0)) g8.size), f_ne, f_n2, (fun _ => h8.out), (fun _ => rfl), (fun h0 => ((f_sq.out h0)).grown g8 (fun e => f_n2.out rfl rfl (Option.some.inj e).symm)), f_qq, (fun _ => rfl), (fun _ => rfl)⟩
      · rintro L a w ⟨b0, b1, b2, b3, b4, b5, b6, b7, b8, b9, b10, b11, b12, b13, b14, b15, b16, b17, x65, x66, x67, x68, x69, x70, x71, x72, x73, x74, x75, x76, x77, x78, x17, x18, fa, fo, fc, fb, fp, fd, gp, gq, rfl, rfl, hb, cd0, cd1, cd2, cd3, cd4, cd5, cd6, cd7, cd8, cd9, cd10, cd11, cd12, cd13, cd14, cd15, f_va, f_vb, f_tb, f_zp, f_zq, f_lp, f_lq, f_tp, f_tq, f_ne, f_n2, f_sp, f_qp, f_sq, f_qq, w_5_2, w_12_9⟩ hf hd
        have hf' : b17 = false := hf
        subst hf'
        have d15 : b15 = true := hd ⟨15, .data⟩ (by simp) rfl
        subst d15
        have d13 : b13 = true := hd ⟨13, .data⟩ (by simp) rfl
        subst d13
        have d16 : b16 = true := hd ⟨16, .chain⟩ (by simp) rfl
        subst d16
        have d0 : b0 = true := hd ⟨0, .phase⟩ (by simp) rfl
        subst d0
        have d1 : b1 = true := hd ⟨1, .phase⟩ (by simp) rfl
        subst d1
        have d2 : b2 = true := hd ⟨2, .phase⟩ (by simp) rfl
        subst d2
        have d3 : b3 = true := hd ⟨3, .phase⟩ (by simp) rfl
        subst d3
        have d4 : b4 = true := hd ⟨4, .phase⟩ (by simp) rfl
        subst d4
        have d5 : b5 = true := hd ⟨5, .phase⟩ (by simp) rfl
        subst d5
        have d6 : b6 = true := hd ⟨6, .phase⟩ (by simp) rfl
        subst d6
        have d7 : b7 = true := hd ⟨7, .phase⟩ (by simp) rfl
        subst d7
        have d8 : b8 = true := hd ⟨8, .phase⟩ (by simp) rfl
        subst d8
        have d9 : b9 = true := hd ⟨9, .phase⟩ (by simp) rfl
        subst d9
        have d10 : b10 = true := hd ⟨10, .phase⟩ (by simp) rfl
        subst d10
        have d11 : b11 = true := hd ⟨11, .phase⟩ (by simp) rfl
        subst d11
        have d12 : b12 = true := hd ⟨12, .phase⟩ (by simp) rfl
        subst d12
        have d14 : b14 = true := hd ⟨14, .phase⟩ (by simp) rfl
        subst d14
        obtain rfl := cd15.out rfl
        obtain rfl := cd13.out rfl
        obtain rfl := cd0.out rfl
        obtain rfl := cd1.out rfl
        obtain rfl := cd2.out rfl
        obtain rfl := cd3.out rfl
        obtain rfl := cd4.out rfl
        obtain rfl := cd5.out rfl
        obtain rfl := cd6.out rfl
        obtain rfl := cd7.out rfl
        obtain rfl := cd8.out rfl
        obtain rfl := cd9.out rfl
        obtain rfl := cd10.out rfl
        obtain rfl := cd11.out rfl
        obtain rfl := cd12.out rfl
        obtain rfl := cd14.out rfl
        clear hf hd
        have W_tb := f_tb.out rfl
        have W_zq := f_zq.out rfl rfl
        have W_lp := f_lp.out rfl
        have W_lq := f_lq.out rfl
        have W_tp := f_tp.out rfl
        have W_tq := f_tq.out rfl
        have W_ne := f_ne.out rfl
        have W_n2 := f_n2.out rfl
        have W_sp := f_sp.out rfl
        have W_qp := f_qp.out rfl
        try simp only [List.setIfInBounds_toArray, List.set_cons_zero, List.set_cons_succ]
        intro K hK
        rw [if_pos (by rfl)]
        refine wp_store_blkT 55 _ _ rfl gq (vC 0 0 ⟨#[]⟩) (vC qk qm qs) rfl rfl _ (Lib.hid W_zq) 3 szVl rfl rfl (vC_all ..) fun w2 h8 g8 => ?_
        have hb2 := hb.grown g8 (Nat.le_trans hB0 hb.size) (fun z hz => by cases hz; exact W_lq)
        exact hK.out _ _ ⟨true, true, true, true, true, true, true, true, true, true, true, true, true, true, true, true, true, true, .agg #[.string (bsOf NM), .slice (some ⟨g, 0, none⟩) N cg, .int .i64 (KI : Nat), .bool only], .int .i64 aa, .slice (some ⟨fa, fo, none⟩) N fc, .pointer (some ⟨gs, 2, none⟩), .int .i64 (KI : Nat), .pointer (some ⟨fa, fo + KI * 3, none⟩), .agg #[.int .i64 pk, .int .i64 pm, .string ps], .agg #[.string (bsOf NM), .slice (some ⟨g, 0, none⟩) N cg, .int .i64 (KI : Nat), .bool only], .int .i64 bb, .slice (some ⟨fb, fp, none⟩) N fd, .pointer (some ⟨gs, 2, none⟩), .int .i64 (KI : Nat), .pointer (some ⟨fb, fp + KI * 3, none⟩), .agg #[.int .i64 qk, .int .i64 qm, .string qs], .pointer (some ⟨gp, 0, none⟩), .pointer (some ⟨gq, 0, none⟩), fa, fo, fc, fb, fp, fd, gp, gq, (by simp only [Act.put, List.setIfInBounds_toArray, List.set_cons_zero, List.set_cons_succ]), (by simp only [Act.put, List.setIfInBounds_toArray, List.set_cons_zero, List.set_cons_succ]), hb2, (fun _ => rfl), (fun _ => rfl), (fun _ => rfl), (fun _ => rfl), (fun _ => rfl), (fun _ => rfl), (fun _ => rfl), (fun _ => rfl), (fun _ => rfl), (fun _ => rfl), (fun _ => rfl), (fun _ => rfl), (fun _ => rfl), (fun _ => rfl), (fun _ => rfl), (fun _ => rfl), (fun _ h => by cases h), (fun _ h => by cases h), (fun h0 => Nat.lt_of_lt_of_le ((f_tb.out h0)) g8.size), (fun _ h => by cases h), (fun _ h => by cases h), f_lp, f_lq, (fun h0 => Nat.lt_of_lt_of_le ((f_tp.out h0)) g8.size), (fun h0 => Nat.lt_of_lt_of_le ((f_tq.out h0)) g8.size), f_ne, f_n2, (fun h0 => ((f_sp.out h0)).grown g8 (fun e => f_n2.out rfl rfl (Option.some.inj e))), f_qp, (fun _ => h8.out), (fun _ => rfl), (fun _ => rfl), (fun _ => rfl)⟩
    · rintro act V12 ⟨b0, b1, b2, b3, b4, b5, b6, b7, b8, b9, b10, b11, b12, b13, b14, b15, b16, b17, x65, x66, x67, x68, x69, x70, x71, x72, x73, x74, x75, x76, x77, x78, x17, x18, fa, fo, fc, fb, fp, fd, gp, gq, hL, rfl, hb, cd0, cd1, cd2, cd3, cd4, cd5, cd6, cd7, cd8, cd9, cd10, cd11, cd12, cd13, cd14, cd15, f_va, f_vb, f_tb, f_zp, f_zq, f_lp, f_lq, f_tp, f_tq, f_ne, f_n2, f_sp, f_qp, f_sq, f_qq, w_5_2, w_12_9⟩
      have hL' : [true, true, true, true, true, true, true, true, true, true, true, true, true, true, true, true, true, true] = [b0, b1, b2, b3, b4, b5, b6, b7, b8, b9, b10, b11, b12, b13, b14, b15, b16, b17] := congrArg Array.toList hL
      simp only [List.cons.injEq, and_true] at hL'
      obtain ⟨rfl, rfl, rfl, rfl, rfl, rfl, rfl, rfl, rfl, rfl, rfl, rfl, rfl, rfl, rfl, rfl, rfl, rfl⟩ := hL'
      obtain rfl := cd0.out rfl
      obtain rfl := cd1.out rfl
      obtain rfl := cd2.out rfl
      obtain rfl := cd3.out rfl
      obtain rfl := cd4.out rfl
      obtain rfl := cd5.out rfl
      obtain rfl := cd6.out rfl
      obtain rfl := cd7.out rfl
      obtain rfl := cd8.out rfl
      obtain rfl := cd9.out rfl
      obtain rfl := cd10.out rfl
      obtain rfl := cd11.out rfl
      obtain rfl := cd12.out rfl
      obtain rfl := cd13.out rfl
      obtain rfl := cd14.out rfl
      obtain rfl := cd15.out rfl
      have W_tb := f_tb.out rfl
      have W_lp := f_lp.out rfl
      have W_lq := f_lq.out rfl
      have W_tp := f_tp.out rfl
      have W_tq := f_tq.out rfl
      have W_ne := f_ne.out rfl
      have W_n2 := f_n2.out rfl
      have W_sp := f_sp.out rfl
      have W_qp := f_qp.out rfl
      have W_sq := f_sq.out rfl
      have W_qq := f_qq.out rfl
      clear hL f_va f_vb f_tb f_zp f_zq f_lp f_lq f_tp f_tq f_ne f_n2 f_sp f_qp f_sq f_qq cd0 cd1 cd2 cd3 cd4 cd5 cd6 cd7 cd8 cd9 cd10 cd11 cd12 cd13 cd14 cd15 w_5_2 w_12_9
      simp only [List.setIfInBounds_toArray, List.set_cons_zero, List.set_cons_succ]
      have bV : Below Z1.heap.size Z1 V12 := (Below.refl _ _).drew.trans hb
      have BV := B.trans (bV.mono hpZ)
      have hpV := Nat.le_trans hpZ bV.size
      have VP := W_sp
      have VQ := W_sq
      have XS := XS.past bV
      have hT := hT.past bV
      have hO := hO.past bV
      have iR := iR.past bV
      have V8 := V8.past bV
      have V9 := V9.past bV
      clear hb W_lp W_lq W_tp W_tq W_tb W_ne W_n2 W_sp W_qp W_sq W_qq bV z0 z1 z2 z3 hgsB hB0 HFa HFb hka hkb iG B hpZ
      generalize V12 = Z2 at XS hT hO iR V8 V9 VP VQ BV hpV ⊢
      go_upto_region 14 with fail
      have bN : Below Z2.heap.size Z2 (Z2.alloc (.cells #[.int .i64 0, .int .i64 0, .string ⟨#[]⟩] 55)) := (Below.refl _ _).alloc (Nat.le_refl _) _
      have VN : Bk (Z2.alloc (.cells #[.int .i64 0, .int .i64 0, .string ⟨#[]⟩] 55)) Z2.heap.size (vC 0 0 ⟨#[]⟩) 55 := Bk.new Z2 _ _
      have XS := XS.past bN
      have hT := hT.past bN
      have hO := hO.past bN
      have iR := iR.past bN
      have V8 := V8.past bN
      have V9 := V9.past bN
      have VP := VP.past bN
      have VQ := VQ.past bN
      have BN := BV.trans (bN.mono hpV)
      have hpN := Nat.le_trans hpV bN.size
      clear BV hpV bN
      generalize Z2.alloc (.cells #[.int .i64 0, .int .i64 0, .string ⟨#[]⟩] 55) = Z3 at XS hT hO iR V8 V9 VP VQ VN BN hpN ⊢
      obtain ⟨gn, hgn⟩ : ∃ z_, Z2.heap.size = z_ := ⟨_, rfl⟩
      rw [hgn] at VN
      simp only [hgn]
      clear hgn
      obtain ⟨c80, c81, c82, -, -, -, -⟩ := id V8
      obtain ⟨c90, c91, c92, -, -, -, -⟩ := id V9
      have bL : Below Z3.heap.size Z3 (Z3.alloc (.cells #[.int .i64 k8, .int .i64 m8, .string s8, .int .i64 k9, .int .i64 m9, .string s9] 55)) := (Below.refl _ _).alloc (Nat.le_refl _) _
      have oL : OwnR EV (Z3.alloc (.cells #[.int .i64 k8, .int .i64 m8, .string s8, .int .i64 k9, .int .i64 m9, .string s9] 55)) 55 Z3.heap.size 2 2 [⟨k8, m8, s8⟩, ⟨k9, m9, s9⟩] := OwnR.ofBlk (heap_alloc_new Z3 _) rfl rfl (by omega)
      have HG := good5_any (some ⟨Z3.heap.size, 0, none⟩) 2 2 [⟨k8, m8, s8⟩, ⟨k9, m9, s9⟩] _ oL.isR (by omega)
      go_upto_region 15 with (go_at_call 31; refine HG.mono ?_; rintro e Y ⟨av, cv, rfl, bG, hG⟩)
      obtain ⟨gv, rfl, oV, hgv0⟩ : ∃ g, av = some ⟨g, 0, none⟩ ∧ OwnR EV Y 55 g 2 cv ([(⟨k8, m8, s8⟩ : V), ⟨k9, m9, s9⟩].map gd) ∧ _ ≤ g := by
        rcases hG with ⟨h1, -⟩ | ⟨g, h1, h2, h3⟩
        · omega
        · exact ⟨g, h1, h2, h3⟩
      have bY := bL.trans (bG.mono bL.size)
      have XS := XS.past bY
      have hT := hT.past bY
      have hO := hO.past bY
      have iR := iR.past bY
      have VP := VP.past bY
      have VQ := VQ.past bY
      have VN := VN.past bY
      have BY := BN.trans (bY.mono hpN)
      have hpY := Nat.le_trans hpN bY.size
      clear BN hpN bL oL HG bG hgv0 bY c80 c81 c82 c90 c91 c92 V8 V9
      have hvu := gd_ok ⟨k8, m8, s8⟩ hm8
      have hvv := gd_ok ⟨k9, m9, s9⟩ hm9
      have hgu : ([(⟨k8, m8, s8⟩ : V), ⟨k9, m9, s9⟩].map gd)[0]? = some (gd ⟨k8, m8, s8⟩) := rfl
      have hgv : ([(⟨k8, m8, s8⟩ : V), ⟨k9, m9, s9⟩].map gd)[1]? = some (gd ⟨k9, m9, s9⟩) := rfl
      have U0 := own_vcells oV 0 _ hgu
      have V0_ := own_vcells oV 1 _ hgv
      obtain ⟨U0, U1, U2⟩ := U0
      obtain ⟨V0_, V1_, V2_⟩ := V0_
      simp only [Nat.zero_mul, Nat.zero_add, Nat.one_mul] at U0 U1 U2 V0_ V1_ V2_
      have hgvB := oV.lt
      generalize gd ⟨k8, m8, s8⟩ = gu8 at hvu U0 U1 U2
      generalize gd ⟨k9, m9, s9⟩ = gu9 at hvv V0_ V1_ V2_
      clear oV hgu hgv
      obtain ⟨uk, um, us⟩ := gu8
      obtain ⟨vk, vm, vs⟩ := gu9
      simp only at U0 U1 U2 V0_ V1_ V2_
      have hlr := iR.len
      have hVs : ∀ r ∈ rs, KI < r.length ∧ Vok (kOf KI r) ∧ r.length ≤ 1000 := fun r hr => by
        obtain ⟨h1, -, h2, -⟩ := fits_vok hFl hKl hKl hFi r hr
        exact ⟨h1, h2, by have := hFi.len r hr; omega⟩
      have hLs : ∀ r ∈ rs, r.length ≤ 100 := fun r hr => by have := hFi.len r hr; omega
      have C_ := fun (lo hi : V) (w' : World) (hb : Below Y.heap.size Y.drew w') => range_rg w' NM (some ⟨g, 0, none⟩) N cg KI only ro rn rc (gt + 1) rs ((iR.past (Below.refl _ _).drew).past hb) lo hi hFi.srt (by omega) hLs
      have E_ := fun (lo hi : V) (hlo : Vok lo) (hhi : Vok hi) (w' : World) (hb : Below Y.heap.size Y.drew w') => rrange_rg w' NM (some ⟨g, 0, none⟩) N cg KI only ro rn rc (gt + 1) rs ((iR.past (Below.refl _ _).drew).past hb) lo hi hlo hhi hFi.srt hVs (by omega)
      have HL : ∀ lo hi : V, (rngN KI lo hi rs).length ≤ 1000 := fun lo hi => by
        have : (rngN KI lo hi rs).length ≤ rs.length := by unfold rngN; rw [List.length_take, List.length_drop]; omega
        omega
      have W_ := fun (R : List (List V)) (n : Nat) (hn : n ≤ 1000) (w' : World) (a : Option Addr) (c : Nat) (a' : Option Addr) (c' : Nat) (h : RRx w' a n c R) (h' : RRx w' a' n c' R) => rows_rg w' a n c a' c' R h h' hn
      have HR1 := C_ ⟨pk, pm, ps⟩ ⟨qk, qm, qs⟩
      have HS1 := E_ ⟨pk, pm, ps⟩ ⟨qk, qm, qs⟩ hvp hvq
      have HR2 := C_ ⟨uk, um, us⟩ ⟨vk, vm, vs⟩
      have HS2 := E_ ⟨uk, um, us⟩ ⟨vk, vm, vs⟩ hvu hvv
      have HR3 := C_ ⟨0, 0, ⟨#[]⟩⟩ ⟨qk, qm, qs⟩
      have HS3 := E_ ⟨0, 0, ⟨#[]⟩⟩ ⟨qk, qm, qs⟩ Vok.none hvq
      have HR4 := C_ ⟨0, 0, ⟨#[]⟩⟩ ⟨0, 0, ⟨#[]⟩⟩
      have L1 := HL ⟨pk, pm, ps⟩ ⟨qk, qm, qs⟩
      have L2 := HL ⟨uk, um, us⟩ ⟨vk, vm, vs⟩
      have L3 := HL ⟨0, 0, ⟨#[]⟩⟩ ⟨qk, qm, qs⟩
      have e4 : rngN KI ⟨0, 0, ⟨#[]⟩⟩ ⟨0, 0, ⟨#[]⟩⟩ rs = rs := rng_all hFi.srt (fun r hr => (hVs r hr).2.1)
      simp only [e4, hlr] at HR4
      obtain ⟨R1, hR1⟩ : ∃ z_, rngN KI ⟨pk, pm, ps⟩ ⟨qk, qm, qs⟩ rs = z_ := ⟨_, rfl⟩
      obtain ⟨R2, hR2⟩ : ∃ z_, rngN KI ⟨uk, um, us⟩ ⟨vk, vm, vs⟩ rs = z_ := ⟨_, rfl⟩
      obtain ⟨R3, hR3⟩ : ∃ z_, rngN KI ⟨0, 0, ⟨#[]⟩⟩ ⟨qk, qm, qs⟩ rs = z_ := ⟨_, rfl⟩
      simp only [hR1] at HR1 HS1 L1
      simp only [hR2] at HR2 HS2 L2
      simp only [hR3] at HR3 HS3 L3
      obtain ⟨n1, hn1⟩ : ∃ z_, R1.length = z_ := ⟨_, rfl⟩
      obtain ⟨n2, hn2⟩ : ∃ z_, R2.length = z_ := ⟨_, rfl⟩
      obtain ⟨n3, hn3⟩ : ∃ z_, R3.length = z_ := ⟨_, rfl⟩
      simp only [hn1] at HR1 HS1 L1
      simp only [hn2] at HR2 HS2 L2
      simp only [hn3] at HR3 HS3 L3
      have HW1 := W_ R1 n1 L1
      have HW2 := W_ R2 n2 L2
      have HW3 := W_ R3 n3 L3
      have HW4 := fun (w' : World) (hb : Below Y.heap.size Y.drew w') (a : Option Addr) (c : Nat) (h : RRx w' a rn c rs) => rows_rg w' a rn c ro rc rs h ⟨_, (iR.past (Below.refl _ _).drew).past hb⟩ (by omega)
      clear hR1 hR2 hR3 hn1 hn2 hn3 L1 L2 L3 e4 C_ E_ W_ HL hLs hVs hlr
      unfold tbV at HR1 HS1 HR2 HS2 HR3 HS3 HR4
      obtain ⟨o0, o1, o2, o3, o4⟩ := tb_cells hO
      obtain ⟨t0, t1, t2, t3, t4⟩ := tb_cells hT
      obtain ⟨P0, P1, P2⟩ := vC_c VP
      obtain ⟨Q0, Q1, Q2⟩ := vC_c VQ
      obtain ⟨N0, N1, N2⟩ := vC_c VN
      have hgoB := hO.lt
      have hgtB := hT.lt
      have hgpB := VP.lt
      have hgqB := VQ.lt
      have hgnB := VN.lt
      have hB0 : Y.heap.size ≤ Y.heap.size := Nat.le_refl _
      clear hO hT VP VQ VN iR iG XS
      refine region_inv (Rng15 Y.heap.size go_ gt gp gq gn gv cv NM g N cg KI only ro rn rc pk pm ps qk qm qs uk um us vk vm vs n1 n2 n3 R1 R2 R3 rs) (by kernel_rfl) (by kernel_rfl) ?_ ?_ ?_
      · exact ⟨false, false, false, false, false, false, false, false, false, false, false, false, false, false, false, false, false, false, false, false, false, false, false, false, false, false, false, false, false, false, false, false, false, false, false, false, false, false, false, false, false, false, false, false, false, false, false, false, false, undef, undef, undef, undef, undef, undef, undef, undef, undef, undef, undef, undef, undef, undef, undef, undef, undef, undef, undef, undef, undef, undef, undef, undef, undef, undef, undef, undef, undef, undef, undef, undef, undef, undef, undef, undef, undef, undef, undef, undef, undef, undef, undef, undef, undef, undef, undef, undef, .bool false, none, 0, none, 0, none, 0, none, 0, none, 0, none, 0, none, 0, rfl, (by simp only [Act.put, List.setIfInBounds_toArray, List.set_cons_zero, List.set_cons_succ]), Below.refl _ _, (fun h => by cases h), (fun h => by cases h), (fun h => by cases h), (fun h => by cases h), (fun h => by cases h), (fun h => by cases h), (fun h => by cases h), (fun h => by cases h), (fun h => by cases h), (fun h => by cases h), (fun h => by cases h), (fun h => by cases h), (fun h => by cases h), (fun h => by cases h), (fun h => by cases h), (fun h => by cases h), (fun h => by cases h), (fun h => by cases h), (fun h => by cases h), (fun h => by cases h), (fun h => by cases h), (fun h => by cases h), (fun h => by cases h), (fun h => by cases h), (fun h => by cases h), (fun h => by cases h), (fun h => by cases h), (fun h => by cases h), (fun h => by cases h), (fun h => by cases h), (fun h => by cases h), (fun h => by cases h), (fun h => by cases h), (fun h => by cases h), (fun h => by cases h), (fun h => by cases h), (fun h => by cases h), (fun h => by cases h), (fun h => by cases h), (fun h => by cases h), (fun h => by cases h), (fun h => by cases h), (fun h => by cases h), (fun h => by cases h), (fun h => by cases h), (fun h => by cases h), (fun h => by cases h), (fun h => by cases h), (fun h => by cases h), (fun h => by cases h), (fun h => by cases h), (fun h => by cases h), (fun h => by cases h), (fun h => by cases h), (fun h => by cases h), (fun h => by cases h)⟩
      · refine ⟨?_, ?_, ?_, ?_, ?_, ?_, ?_, ?_, ?_, ?_, ?_, ?_, ?_, ?_, ?_, ?_, ?_, ?_, ?_, ?_, ?_, ?_, ?_, ?_, ?_, ?_, ?_, ?_, ?_, ?_, ?_, ?_, ?_, ?_, ?_, ?_, ?_, ?_, ?_, ?_, ?_, ?_, ?_, ?_, ?_, ?_, ?_, ?_, ?_, trivial⟩
        · rintro L a w ⟨b0, b1, b2, b3, b4, b5, b6, b7, b8, b9, b10, b11, b12, b13, b14, b15, b16, b17, b18, b19, b20, b21, b22, b23, b24, b25, b26, b27, b28, b29, b30, b31, b32, b33, b34, b35, b36, b37, b38, b39, b40, b41, b42, b43, b44, b45, b46, b47, b48, x84, x85, x86, x87, x88, x89, x90, x91, x92, x93, x94, x95, x96, x97, x98, x99, x100, x101, x102, x103, x104, x105, x106, x107, x108, x109, x110, x111, x112, x113, x114, x115, x116, x117, x118, x119, x120, x121, x122, x123, x124, x125, x126, x127, x128, x129, x130, x131, x12, a1, c1_, a2, c2_, a3, c3_, a4, c4_, a5, c5_, a6, c6_, a7, c7_, rfl, rfl, hb, cd0, cd1, cd2, cd3, cd4, cd5, cd6, cd7, cd8, cd9, cd10, cd11, cd12, cd13, cd14, cd15, cd16, cd17, cd18, cd19, cd20, cd21, cd22, cd23, cd24, cd25, cd26, cd27, cd28, cd29, cd30, cd31, cd32, cd33, cd34, cd35, cd36, cd37, cd38, cd39, cd40, cd41, cd42, cd43, cd44, cd45, cd46, cd47, cd48, f_r3, f_r7, f_r17, f_r25, f_r32, f_r36, f_r43⟩ hf hd
          have hf' : b0 = false := hf
          subst hf'
          clear hf hd
          try simp only [List.setIfInBounds_toArray, List.set_cons_zero, List.set_cons_succ]
          have z0 := (hb.cell hgoB).trans o0
          have z1 := (hb.cell hgoB).trans o1
          have z2 := (hb.cell hgoB).trans o2
          have z3 := (hb.cell hgoB).trans o3
          have z4 := (hb.cell hgoB).trans o4
          intro K hK
          rw [if_pos (by rfl)]
          go_simp
          exact hK.out _ _ ⟨true, b1, b2, b3, b4, b5, b6, b7, b8, b9, b10, b11, b12, b13, b14, b15, b16, b17, b18, b19, b20, b21, b22, b23, b24, b25, b26, b27, b28, b29, b30, b31, b32, b33, b34, b35, b36, b37, b38, b39, b40, b41, b42, b43, b44, b45, b46, b47, b48, (.agg #[.string (bsOf NM), .slice (some ⟨g, 0, none⟩) N cg, .int .i64 (KI : Nat), .bool only, .slice ro rn rc]), x85, x86, x87, x88, x89, x90, x91, x92, x93, x94, x95, x96, x97, x98, x99, x100, x101, x102, x103, x104, x105, x106, x107, x108, x109, x110, x111, x112, x113, x114, x115, x116, x117, x118, x119, x120, x121, x122, x123, x124, x125, x126, x127, x128, x129, x130, x131, x12, a1, c1_, a2, c2_, a3, c3_, a4, c4_, a5, c5_, a6, c6_, a7, c7_, (by simp only [Act.put, List.setIfInBounds_toArray, List.set_cons_zero, List.set_cons_succ]), (by simp only [Act.put, List.setIfInBounds_toArray, List.set_cons_zero, List.set_cons_succ]), hb, (fun _ => rfl), cd1, cd2, cd3, cd4, cd5, cd6, cd7, cd8, cd9, cd10, cd11, cd12, cd13, cd14, cd15, cd16, cd17, cd18, cd19, cd20, cd21, cd22, cd23, cd24, cd25, cd26, cd27, cd28, cd29, cd30, cd31, cd32, cd33, cd34, cd35, cd36, cd37, cd38, cd39, cd40, cd41, cd42, cd43, cd44, cd45, cd46, cd47, cd48, f_r3, f_r7, f_r17, f_r25, f_r32, f_r36, f_r43⟩
        · rintro L a w ⟨b0, b1, b2, b3, b4, b5, b6, b7, b8, b9, b10, b11, b12, b13, b14, b15, b16, b17, b18, b19, b20, b21, b22, b23, b24, b25, b26, b27, b28, b29, b30, b31, b32, b33, b34, b35, b36, b37, b38, b39, b40, b41, b42, b43, b44, b45, b46, b47, b48, x84, x85, x86, x87, x88, x89, x90, x91, x92, x93, x94, x95, x96, x97, x98, x99, x100, x101, x102, x103, x104, x105, x106, x107, x108, x109, x110, x111, x112, x113, x114, x115, x116, x117, x118, x119, x120, x121, x122, x123, x124, x125, x126, x127, x128, x129, x130, x131, x12, a1, c1_, a2, c2_, a3, c3_, a4, c4_, a5, c5_, a6, c6_, a7, c7_, rfl, rfl, hb, cd0, cd1, cd2, cd3, cd4, cd5, cd6, cd7, cd8, cd9, cd10, cd11, cd12, cd13, cd14, cd15, cd16, cd17, cd18, cd19, cd20, cd21, cd22, cd23, cd24, cd25, cd26, cd27, cd28, cd29, cd30, cd31, cd32, cd33, cd34, cd35, cd36, cd37, cd38, cd39, cd40, cd41, cd42, cd43, cd44, cd45, cd46, cd47, cd48, f_r3, f_r7, f_r17, f_r25, f_r32, f_r36, f_r43⟩ hf hd
          have hf' : b1 = false := hf
          subst hf'
          clear hf hd
          try simp only [List.setIfInBounds_toArray, List.set_cons_zero, List.set_cons_succ]
          have z0 := (hb.cell hgpB).trans P0
          have z1 := (hb.cell hgpB).trans P1
          have z2 := (hb.cell hgpB).trans P2
          intro K hK
          rw [if_pos (by rfl)]
          go_simp
          exact hK.out _ _ ⟨b0, true, b2, b3, b4, b5, b6, b7, b8, b9, b10, b11, b12, b13, b14, b15, b16, b17, b18, b19, b20, b21, b22, b23, b24, b25, b26, b27, b28, b29, b30, b31, b32, b33, b34, b35, b36, b37, b38, b39, b40, b41, b42, b43, b44, b45, b46, b47, b48, x84, (.agg #[.int .i64 pk, .int .i64 pm, .string ps]), x86, x87, x88, x89, x90, x91, x92, x93, x94, x95, x96, x97, x98, x99, x100, x101, x102, x103, x104, x105, x106, x107, x108, x109, x110, x111, x112, x113, x114, x115, x116, x117, x118, x119, x120, x121, x122, x123, x124, x125, x126, x127, x128, x129, x130, x131, x12, a1, c1_, a2, c2_, a3, c3_, a4, c4_, a5, c5_, a6, c6_, a7, c7_, (by simp only [Act.put, List.setIfInBounds_toArray, List.set_cons_zero, List.set_cons_succ]), (by simp only [Act.put, List.setIfInBounds_toArray, List.set_cons_zero, List.set_cons_succ]), hb, cd0, (fun _ => rfl), cd2, cd3, cd4, cd5, cd6, cd7, cd8, cd9, cd10, cd11, cd12, cd13, cd14, cd15, cd16, cd17, cd18, cd19, cd20, cd21, cd22, cd23, cd24, cd25, cd26, cd27, cd28, cd29, cd30, cd31, cd32, cd33, cd34, cd35, cd36, cd37, cd38, cd39, cd40, cd41, cd42, cd43, cd44, cd45, cd46, cd47, cd48, f_r3, f_r7, f_r17, f_r25, f_r32, f_r36, f_r43⟩
        · rintro L a w ⟨b0, b1, b2, b3, b4, b5, b6, b7, b8, b9, b10, b11, b12, b13, b14, b15, b16, b17, b18, b19, b20, b21, b22, b23, b24, b25, b26, b27, b28, b29, b30, b31, b32, b33, b34, b35, b36, b37, b38, b39, b40, b41, b42, b43, b44, b45, b46, b47, b48, x84, x85, x86, x87, x88, x89, x90, x91, x92, x93, x94, x95, x96, x97, x98, x99, x100, x101, x102, x103, x104, x105, x106, x107, x108, x109, x110, x111, x112, x113, x114, x115, x116, x117, x118, x119, x120, x121, x122, x123, x124, x125, x126, x127, x128, x129, x130, x131, x12, a1, c1_, a2, c2_, a3, c3_, a4, c4_, a5, c5_, a6, c6_, a7, c7_, rfl, rfl, hb, cd0, cd1, cd2, cd3, cd4, cd5, cd6, cd7, cd8, cd9, cd10, cd11, cd12, cd13, cd14, cd15, cd16, cd17, cd18, cd19, cd20, cd21, cd22, cd23, cd24, cd25, cd26, cd27, cd28, cd29, cd30, cd31, cd32, cd33, cd34, cd35, cd36, cd37, cd38, cd39, cd40, cd41, cd42, cd43, cd44, cd45, cd46, cd47, cd48, f_r3, f_r7, f_r17, f_r25, f_r32, f_r36, f_r43⟩ hf hd
          have hf' : b2 = false := hf
          subst hf'
          clear hf hd
          try simp only [List.setIfInBounds_toArray, List.set_cons_zero, List.set_cons_succ]
          have z0 := (hb.cell hgqB).trans Q0
          have z1 := (hb.cell hgqB).trans Q1
          have z2 := (hb.cell hgqB).trans Q2
          intro K hK
          rw [if_pos (by rfl)]
          go_simp
          exact hK.out _ _ ⟨b0, b1, true, b3, b4, b5, b6, b7, b8, b9, b10, b11, b12, b13, b14, b15, b16, b17, b18, b19, b20, b21, b22, b23, b24, b25, b26, b27, b28, b29, b30, b31, b32, b33, b34, b35, b36, b37, b38, b39, b40, b41, b42, b43, b44, b45, b46, b47, b48, x84, x85, (.agg #[.int .i64 qk, .int .i64 qm, .string qs]), x87, x88, x89, x90, x91, x92, x93, x94, x95, x96, x97, x98, x99, x100, x101, x102, x103, x104, x105, x106, x107, x108, x109, x110, x111, x112, x113, x114, x115, x116, x117, x118, x119, x120, x121, x122, x123, x124, x125, x126, x127, x128, x129, x130, x131, x12, a1, c1_, a2, c2_, a3, c3_, a4, c4_, a5, c5_, a6, c6_, a7, c7_, (by simp only [Act.put, List.setIfInBounds_toArray, List.set_cons_zero, List.set_cons_succ]), (by simp only [Act.put, List.setIfInBounds_toArray, List.set_cons_zero, List.set_cons_succ]), hb, cd0, cd1, (fun _ => rfl), cd3, cd4, cd5, cd6, cd7, cd8, cd9, cd10, cd11, cd12, cd13, cd14, cd15, cd16, cd17, cd18, cd19, cd20, cd21, cd22, cd23, cd24, cd25, cd26, cd27, cd28, cd29, cd30, cd31, cd32, cd33, cd34, cd35, cd36, cd37, cd38, cd39, cd40, cd41, cd42, cd43, cd44, cd45, cd46, cd47, cd48, f_r3, f_r7, f_r17, f_r25, f_r32, f_r36, f_r43⟩
        · rintro L a w ⟨b0, b1, b2, b3, b4, b5, b6, b7, b8, b9, b10, b11, b12, b13, b14, b15, b16, b17, b18, b19, b20, b21, b22, b23, b24, b25, b26, b27, b28, b29, b30, b31, b32, b33, b34, b35, b36, b37, b38, b39, b40, b41, b42, b43, b44, b45, b46, b47, b48, x84, x85, x86, x87, x88, x89, x90, x91, x92, x93, x94, x95, x96, x97, x98, x99, x100, x101, x102, x103, x104, x105, x106, x107, x108, x109, x110, x111, x112, x113, x114, x115, x116, x117, x118, x119, x120, x121, x122, x123, x124, x125, x126, x127, x128, x129, x130, x131, x12, a1, c1_, a2, c2_, a3, c3_, a4, c4_, a5, c5_, a6, c6_, a7, c7_, rfl, rfl, hb, cd0, cd1, cd2, cd3, cd4, cd5, cd6, cd7, cd8, cd9, cd10, cd11, cd12, cd13, cd14, cd15, cd16, cd17, cd18, cd19, cd20, cd21, cd22, cd23, cd24, cd25, cd26, cd27, cd28, cd29, cd30, cd31, cd32, cd33, cd34, cd35, cd36, cd37, cd38, cd39, cd40, cd41, cd42, cd43, cd44, cd45, cd46, cd47, cd48, f_r3, f_r7, f_r17, f_r25, f_r32, f_r36, f_r43⟩ hf hd
          have hf' : b3 = false := hf
          subst hf'
          have d0 : b0 = true := hd ⟨0, .data⟩ (by simp) rfl
          subst d0
          have d1 : b1 = true := hd ⟨1, .data⟩ (by simp) rfl
          subst d1
          have d2 : b2 = true := hd ⟨2, .data⟩ (by simp) rfl
          subst d2
          obtain rfl := cd0.out rfl
          obtain rfl := cd1.out rfl
          obtain rfl := cd2.out rfl
          clear hf hd
          try simp only [List.setIfInBounds_toArray, List.set_cons_zero, List.set_cons_succ]
          intro K hK
          rw [if_pos (by rfl)]
          go_simp
          go_at_call 33
          refine (HR1 _ hb).mono ?_
          rintro e w' ⟨ao2, c2, rfl, r2, bx⟩
          exact hK.out _ _ ⟨true, true, true, true, b4, b5, b6, b7, b8, b9, b10, b11, b12, b13, b14, b15, b16, b17, b18, b19, b20, b21, b22, b23, b24, b25, b26, b27, b28, b29, b30, b31, b32, b33, b34, b35, b36, b37, b38, b39, b40, b41, b42, b43, b44, b45, b46, b47, b48, .agg #[.string (bsOf NM), .slice (some ⟨g, 0, none⟩) N cg, .int .i64 (KI : Nat), .bool only, .slice ro rn rc], .agg #[.int .i64 pk, .int .i64 pm, .string ps], .agg #[.int .i64 qk, .int .i64 qm, .string qs], (.slice ao2 n1 c2), x88, x89, x90, x91, x92, x93, x94, x95, x96, x97, x98, x99, x100, x101, x102, x103, x104, x105, x106, x107, x108, x109, x110, x111, x112, x113, x114, x115, x116, x117, x118, x119, x120, x121, x122, x123, x124, x125, x126, x127, x128, x129, x130, x131, x12, ao2, c2, a2, c2_, a3, c3_, a4, c4_, a5, c5_, a6, c6_, a7, c7_, (by simp only [Act.put, List.setIfInBounds_toArray, List.set_cons_zero, List.set_cons_succ]), (by simp only [Act.put, List.setIfInBounds_toArray, List.set_cons_zero, List.set_cons_succ]), hb.trans (bx.mono (Nat.le_trans hB0 hb.size)), (fun _ => rfl), (fun _ => rfl), (fun _ => rfl), (fun _ => rfl), cd4, cd5, cd6, cd7, cd8, cd9, cd10, cd11, cd12, cd13, cd14, cd15, cd16, cd17, cd18, cd19, cd20, cd21, cd22, cd23, cd24, cd25, cd26, cd27, cd28, cd29, cd30, cd31, cd32, cd33, cd34, cd35, cd36, cd37, cd38, cd39, cd40, cd41, cd42, cd43, cd44, cd45, cd46, cd47, cd48, (fun _ => r2), (fun h0 => (f_r7.out h0).past bx), (fun h0 => (f_r17.out h0).past bx), (fun h0 => (f_r25.out h0).past bx), (fun h0 => (f_r32.out h0).past bx), (fun h0 => (f_r36.out h0).past bx), (fun h0 => (f_r43.out h0).past bx)⟩
        · rintro L a w ⟨b0, b1, b2, b3, b4, b5, b6, b7, b8, b9, b10, b11, b12, b13, b14, b15, b16, b17, b18, b19, b20, b21, b22, b23, b24, b25, b26, b27, b28, b29, b30, b31, b32, b33, b34, b35, b36, b37, b38, b39, b40, b41, b42, b43, b44, b45, b46, b47, b48, x84, x85, x86, x87, x88, x89, x90, x91, x92, x93, x94, x95, x96, x97, x98, x99, x100, x101, x102, x103, x104, x105, x106, x107, x108, x109, x110, x111, x112, x113, x114, x115, x116, x117, x118, x119, x120, x121, x122, x123, x124, x125, x126, x127, x128, x129, x130, x131, x12, a1, c1_, a2, c2_, a3, c3_, a4, c4_, a5, c5_, a6, c6_, a7, c7_, rfl, rfl, hb, cd0, cd1, cd2, cd3, cd4, cd5, cd6, cd7, cd8, cd9, cd10, cd11, cd12, cd13, cd14, cd15, cd16, cd17, cd18, cd19, cd20, cd21, cd22, cd23, cd24, cd25, cd26, cd27, cd28, cd29, cd30, cd31, cd32, cd33, cd34, cd35, cd36, cd37, cd38, cd39, cd40, cd41, cd42, cd43, cd44, cd45, cd46, cd47, cd48, f_r3, f_r7, f_r17, f_r25, f_r32, f_r36, f_r43⟩ hf hd
          have hf' : b4 = false := hf
          subst hf'
          clear hf hd
          try simp only [List.setIfInBounds_toArray, List.set_cons_zero, List.set_cons_succ]
          have z0 := (hb.cell hgtB).trans t0
          have z1 := (hb.cell hgtB).trans t1
          have z2 := (hb.cell hgtB).trans t2
          have z3 := (hb.cell hgtB).trans t3
          have z4 := (hb.cell hgtB).trans t4
          intro K hK
          rw [if_pos (by rfl)]
          go_simp
          exact hK.out _ _ ⟨b0, b1, b2, b3, true, b5, b6, b7, b8, b9, b10, b11, b12, b13, b14, b15, b16, b17, b18, b19, b20, b21, b22, b23, b24, b25, b26, b27, b28, b29, b30, b31, b32, b33, b34, b35, b36, b37, b38, b39, b40, b41, b42, b43, b44, b45, b46, b47, b48, x84, x85, x86, x87, (.agg #[.string (bsOf NM), .slice (some ⟨g, 0, none⟩) N cg, .int .i64 (KI : Nat), .bool only, .slice ro rn rc]), x89, x90, x91, x92, x93, x94, x95, x96, x97, x98, x99, x100, x101, x102, x103, x104, x105, x106, x107, x108, x109, x110, x111, x112, x113, x114, x115, x116, x117, x118, x119, x120, x121, x122, x123, x124, x125, x126, x127, x128, x129, x130, x131, x12, a1, c1_, a2, c2_, a3, c3_, a4, c4_, a5, c5_, a6, c6_, a7, c7_, (by simp only [Act.put, List.setIfInBounds_toArray, List.set_cons_zero, List.set_cons_succ]), (by simp only [Act.put, List.setIfInBounds_toArray, List.set_cons_zero, List.set_cons_succ]), hb, cd0, cd1, cd2, cd3, (fun _ => rfl), cd5, cd6, cd7, cd8, cd9, cd10, cd11, cd12, cd13, cd14, cd15, cd16, cd17, cd18, cd19, cd20, cd21, cd22, cd23, cd24, cd25, cd26, cd27, cd28, cd29, cd30, cd31, cd32, cd33, cd34, cd35, cd36, cd37, cd38, cd39, cd40, cd41, cd42, cd43, cd44, cd45, cd46, cd47, cd48, f_r3, f_r7, f_r17, f_r25, f_r32, f_r36, f_r43⟩
        · rintro L a w ⟨b0, b1, b2, b3, b4, b5, b6, b7, b8, b9, b10, b11, b12, b13, b14, b15, b16, b17, b18, b19, b20, b21, b22, b23, b24, b25, b26, b27, b28, b29, b30, b31, b32, b33, b34, b35, b36, b37, b38, b39, b40, b41, b42, b43, b44, b45, b46, b47, b48, x84, x85, x86, x87, x88, x89, x90, x91, x92, x93, x94, x95, x96, x97, x98, x99, x100, x101, x102, x103, x104, x105, x106, x107, x108, x109, x110, x111, x112, x113, x114, x115, x116, x117, x118, x119, x120, x121, x122, x123, x124, x125, x126, x127, x128, x129, x130, x131, x12, a1, c1_, a2, c2_, a3, c3_, a4, c4_, a5, c5_, a6, c6_, a7, c7_, rfl, rfl, hb, cd0, cd1, cd2, cd3, cd4, cd5, cd6, cd7, cd8, cd9, cd10, cd11, cd12, cd13, cd14, cd15, cd16, cd17, cd18, cd19, cd20, cd21, cd22, cd23, cd24, cd25, cd26, cd27, cd28, cd29, cd30, cd31, cd32, cd33, cd34, cd35, cd36, cd37, cd38, cd39, cd40, cd41, cd42, cd43, cd44, cd45, cd46, cd47, cd48, f_r3, f_r7, f_r17, f_r25, f_r32, f_r36, f_r43⟩ hf hd
          have hf' : b5 = false := hf
          subst hf'
          clear hf hd
          try simp only [List.setIfInBounds_toArray, List.set_cons_zero, List.set_cons_succ]
          have z0 := (hb.cell hgpB).trans P0
          have z1 := (hb.cell hgpB).trans P1
          have z2 := (hb.cell hgpB).trans P2
          intro K hK
          rw [if_pos (by rfl)]
          go_simp
          exact hK.out _ _ ⟨b0, b1, b2, b3, b4, true, b6, b7, b8, b9, b10, b11, b12, b13, b14, b15, b16, b17, b18, b19, b20, b21, b22, b23, b24, b25, b26, b27, b28, b29, b30, b31, b32, b33, b34, b35, b36, b37, b38, b39, b40, b41, b42, b43, b44, b45, b46, b47, b48, x84, x85, x86, x87, x88, (.agg #[.int .i64 pk, .int .i64 pm, .string ps]), x90, x91, x92, x93, x94, x95, x96, x97, x98, x99, x100, x101, x102, x103, x104, x105, x106, x107, x108, x109, x110, x111, x112, x113, x114, x115, x116, x117, x118, x119, x120, x121, x122, x123, x124, x125, x126, x127, x128, x129, x130, x131, x12, a1, c1_, a2, c2_, a3, c3_, a4, c4_, a5, c5_, a6, c6_, a7, c7_, (by simp only [Act.put, List.setIfInBounds_toArray, List.set_cons_zero, List.set_cons_succ]), (by simp only [Act.put, List.setIfInBounds_toArray, List.set_cons_zero, List.set_cons_succ]), hb, cd0, cd1, cd2, cd3, cd4, (fun _ => rfl), cd6, cd7, cd8, cd9, cd10, cd11, cd12, cd13, cd14, cd15, cd16, cd17, cd18, cd19, cd20, cd21, cd22, cd23, cd24, cd25, cd26, cd27, cd28, cd29, cd30, cd31, cd32, cd33, cd34, cd35, cd36, cd37, cd38, cd39, cd40, cd41, cd42, cd43, cd44, cd45, cd46, cd47, cd48, f_r3, f_r7, f_r17, f_r25, f_r32, f_r36, f_r43⟩
        · rintro L a w ⟨b0, b1, b2, b3, b4, b5, b6, b7, b8, b9, b10, b11, b12, b13, b14, b15, b16, b17, b18, b19, b20, b21, b22, b23, b24, b25, b26, b27, b28, b29, b30, b31, b32, b33, b34, b35, b36, b37, b38, b39, b40, b41, b42, b43, b44, b45, b46, b47, b48, x84, x85, x86, x87, x88, x89, x90, x91, x92, x93, x94, x95, x96, x97, x98, x99, x100, x101, x102, x103, x104, x105, x106, x107, x108, x109, x110, x111, x112, x113, x114, x115, x116, x117, x118, x119, x120, x121, x122, x123, x124, x125, x126, x127, x128, x129, x130, x131, x12, a1, c1_, a2, c2_, a3, c3_, a4, c4_, a5, c5_, a6, c6_, a7, c7_, rfl, rfl, hb, cd0, cd1, cd2, cd3, cd4, cd5, cd6, cd7, cd8, cd9, cd10, cd11, cd12, cd13, cd14, cd15, cd16, cd17, cd18, cd19, cd20, cd21, cd22, cd23, cd24, cd25, cd26, cd27, cd28, cd29, cd30, cd31, cd32, cd33, cd34, cd35, cd36, cd37, cd38, cd39, cd40, cd41, cd42, cd43, cd44, cd45, cd46, cd47, cd48, f_r3, f_r7, f_r17, f_r25, f_r32, f_r36, f_r43⟩ hf hd
          have hf' : b6 = false := hf
          subst hf'
          clear hf hd
          try simp only [List.setIfInBounds_toArray, List.set_cons_zero, List.set_cons_succ]
          have z0 := (hb.cell hgqB).trans Q0
          have z1 := (hb.cell hgqB).trans Q1
          have z2 := (hb.cell hgqB).trans Q2
          intro K hK
          rw [if_pos (by rfl)]
          go_simp
          exact hK.out _ _ ⟨b0, b1, b2, b3, b4, b5, true, b7, b8, b9, b10, b11, b12, b13, b14, b15, b16, b17, b18, b19, b20, b21, b22, b23, b24, b25, b26, b27, b28, b29, b30, b31, b32, b33, b34, b35, b36, b37, b38, b39, b40, b41, b42, b43, b44, b45, b46, b47, b48, x84, x85, x86, x87, x88, x89, (.agg #[.int .i64 qk, .int .i64 qm, .string qs]), x91, x92, x93, x94, x95, x96, x97, x98, x99, x100, x101, x102, x103, x104, x105, x106, x107, x108, x109, x110, x111, x112, x113, x114, x115, x116, x117, x118, x119, x120, x121, x122, x123, x124, x125, x126, x127, x128, x129, x130, x131, x12, a1, c1_, a2, c2_, a3, c3_, a4, c4_, a5, c5_, a6, c6_, a7, c7_, (by simp only [Act.put, List.setIfInBounds_toArray, List.set_cons_zero, List.set_cons_succ]), (by simp only [Act.put, List.setIfInBounds_toArray, List.set_cons_zero, List.set_cons_succ]), hb, cd0, cd1, cd2, cd3, cd4, cd5, (fun _ => rfl), cd7, cd8, cd9, cd10, cd11, cd12, cd13, cd14, cd15, cd16, cd17, cd18, cd19, cd20, cd21, cd22, cd23, cd24, cd25, cd26, cd27, cd28, cd29, cd30, cd31, cd32, cd33, cd34, cd35, cd36, cd37, cd38, cd39, cd40, cd41, cd42, cd43, cd44, cd45, cd46, cd47, cd48, f_r3, f_r7, f_r17, f_r25, f_r32, f_r36, f_r43⟩
        · rintro L a w ⟨b0, b1, b2, b3, b4, b5, b6, b7, b8, b9, b10, b11, b12, b13, b14, b15, b16, b17, b18, b19, b20, b21, b22, b23, b24, b25, b26, b27, b28, b29, b30, b31, b32, b33, b34, b35, b36, b37, b38, b39, b40, b41, b42, b43, b44, b45, b46, b47, b48, x84, x85, x86, x87, x88, x89, x90, x91, x92, x93, x94, x95, x96, x97, x98, x99, x100, x101, x102, x103, x104, x105, x106, x107, x108, x109, x110, x111, x112, x113, x114, x115, x116, x117, x118, x119, x120, x121, x122, x123, x124, x125, x126, x127, x128, x129, x130, x131, x12, a1, c1_, a2, c2_, a3, c3_, a4, c4_, a5, c5_, a6, c6_, a7, c7_, rfl, rfl, hb, cd0, cd1, cd2, cd3, cd4, cd5, cd6, cd7, cd8, cd9, cd10, cd11, cd12, cd13, cd14, cd15, cd16, cd17, cd18, cd19, cd20, cd21, cd22, cd23, cd24, cd25, cd26, cd27, cd28, cd29, cd30, cd31, cd32, cd33, cd34, cd35, cd36, cd37, cd38, cd39, cd40, cd41, cd42, cd43, cd44, cd45, cd46, cd47, cd48, f_r3, f_r7, f_r17, f_r25, f_r32, f_r36, f_r43⟩ hf hd
          have hf' : b7 = false := hf
          subst hf'
          have d4 : b4 = true := hd ⟨4, .data⟩ (by simp) rfl
          subst d4
          have d5 : b5 = true := hd ⟨5, .data⟩ (by simp) rfl
          subst d5
          have d6 : b6 = true := hd ⟨6, .data⟩ (by simp) rfl
          subst d6
          have d3 : b3 = true := hd ⟨3, .chain⟩ (by simp) rfl
          subst d3
          obtain rfl := cd4.out rfl
          obtain rfl := cd5.out rfl
          obtain rfl := cd6.out rfl
          obtain rfl := cd3.out rfl
          clear hf hd
          have W_r3 := f_r3.out rfl
          try simp only [List.setIfInBounds_toArray, List.set_cons_zero, List.set_cons_succ]
          intro K hK
          rw [if_pos (by rfl)]
          go_simp
          go_at_call 34
          refine (HS1 _ hb).mono ?_
          rintro e w' ⟨ao2, c2, rfl, r2, bx⟩
          exact hK.out _ _ ⟨b0, b1, b2, true, true, true, true, true, b8, b9, b10, b11, b12, b13, b14, b15, b16, b17, b18, b19, b20, b21, b22, b23, b24, b25, b26, b27, b28, b29, b30, b31, b32, b33, b34, b35, b36, b37, b38, b39, b40, b41, b42, b43, b44, b45, b46, b47, b48, x84, x85, x86, .slice a1 n1 c1_, .agg #[.string (bsOf NM), .slice (some ⟨g, 0, none⟩) N cg, .int .i64 (KI : Nat), .bool only, .slice ro rn rc], .agg #[.int .i64 pk, .int .i64 pm, .string ps], .agg #[.int .i64 qk, .int .i64 qm, .string qs], (.slice ao2 n1 c2), x92, x93, x94, x95, x96, x97, x98, x99, x100, x101, x102, x103, x104, x105, x106, x107, x108, x109, x110, x111, x112, x113, x114, x115, x116, x117, x118, x119, x120, x121, x122, x123, x124, x125, x126, x127, x128, x129, x130, x131, x12, a1, c1_, ao2, c2, a3, c3_, a4, c4_, a5, c5_, a6, c6_, a7, c7_, (by simp only [Act.put, List.setIfInBounds_toArray, List.set_cons_zero, List.set_cons_succ]), (by simp only [Act.put, List.setIfInBounds_toArray, List.set_cons_zero, List.set_cons_succ]), hb.trans (bx.mono (Nat.le_trans hB0 hb.size)), cd0, cd1, cd2, (fun _ => rfl), (fun _ => rfl), (fun _ => rfl), (fun _ => rfl), (fun _ => rfl), cd8, cd9, cd10, cd11, cd12, cd13, cd14, cd15, cd16, cd17, cd18, cd19, cd20, cd21, cd22, cd23, cd24, cd25, cd26, cd27, cd28, cd29, cd30, cd31, cd32, cd33, cd34, cd35, cd36, cd37, cd38, cd39, cd40, cd41, cd42, cd43, cd44, cd45, cd46, cd47, cd48, (fun h0 => (f_r3.out h0).past bx), (fun _ => r2), (fun h0 => (f_r17.out h0).past bx), (fun h0 => (f_r25.out h0).past bx), (fun h0 => (f_r32.out h0).past bx), (fun h0 => (f_r36.out h0).past bx), (fun h0 => (f_r43.out h0).past bx)⟩
        · rintro L a w ⟨b0, b1, b2, b3, b4, b5, b6, b7, b8, b9, b10, b11, b12, b13, b14, b15, b16, b17, b18, b19, b20, b21, b22, b23, b24, b25, b26, b27, b28, b29, b30, b31, b32, b33, b34, b35, b36, b37, b38, b39, b40, b41, b42, b43, b44, b45, b46, b47, b48, x84, x85, x86, x87, x88, x89, x90, x91, x92, x93, x94, x95, x96, x97, x98, x99, x100, x101, x102, x103, x104, x105, x106, x107, x108, x109, x110, x111, x112, x113, x114, x115, x116, x117, x118, x119, x120, x121, x122, x123, x124, x125, x126, x127, x128, x129, x130, x131, x12, a1, c1_, a2, c2_, a3, c3_, a4, c4_, a5, c5_, a6, c6_, a7, c7_, rfl, rfl, hb, cd0, cd1, cd2, cd3, cd4, cd5, cd6, cd7, cd8, cd9, cd10, cd11, cd12, cd13, cd14, cd15, cd16, cd17, cd18, cd19, cd20, cd21, cd22, cd23, cd24, cd25, cd26, cd27, cd28, cd29, cd30, cd31, cd32, cd33, cd34, cd35, cd36, cd37, cd38, cd39, cd40, cd41, cd42, cd43, cd44, cd45, cd46, cd47, cd48, f_r3, f_r7, f_r17, f_r25, f_r32, f_r36, f_r43⟩ hf hd
          have hf' : b8 = false := hf
          subst hf'
          have d3 : b3 = true := hd ⟨3, .data⟩ (by simp) rfl
          subst d3
          have d7 : b7 = true := hd ⟨7, .data⟩ (by simp) rfl
          subst d7
          obtain rfl := cd3.out rfl
          obtain rfl := cd7.out rfl
          clear hf hd
          have W_r3 := f_r3.out rfl
          have W_r7 := f_r7.out rfl
          try simp only [List.setIfInBounds_toArray, List.set_cons_zero, List.set_cons_succ]
          intro K hK
          rw [if_pos (by rfl)]
          go_simp
          go_at_call 32
          refine (HW1 _ _ _ _ _ W_r3 W_r7).mono ?_
          rintro e w' ⟨rfl, bx⟩
          exact hK.out _ _ ⟨b0, b1, b2, true, b4, b5, b6, true, true, b9, b10, b11, b12, b13, b14, b15, b16, b17, b18, b19, b20, b21, b22, b23, b24, b25, b26, b27, b28, b29, b30, b31, b32, b33, b34, b35, b36, b37, b38, b39, b40, b41, b42, b43, b44, b45, b46, b47, b48, x84, x85, x86, .slice a1 n1 c1_, x88, x89, x90, .slice a2 n1 c2_, (.bool true), x93, x94, x95, x96, x97, x98, x99, x100, x101, x102, x103, x104, x105, x106, x107, x108, x109, x110, x111, x112, x113, x114, x115, x116, x117, x118, x119, x120, x121, x122, x123, x124, x125, x126, x127, x128, x129, x130, x131, x12, a1, c1_, a2, c2_, a3, c3_, a4, c4_, a5, c5_, a6, c6_, a7, c7_, (by simp only [Act.put, List.setIfInBounds_toArray, List.set_cons_zero, List.set_cons_succ]), (by simp only [Act.put, List.setIfInBounds_toArray, List.set_cons_zero, List.set_cons_succ]), hb.trans (bx.mono (Nat.le_trans hB0 hb.size)), cd0, cd1, cd2, (fun _ => rfl), cd4, cd5, cd6, (fun _ => rfl), (fun _ => rfl), cd9, cd10, cd11, cd12, cd13, cd14, cd15, cd16, cd17, cd18, cd19, cd20, cd21, cd22, cd23, cd24, cd25, cd26, cd27, cd28, cd29, cd30, cd31, cd32, cd33, cd34, cd35, cd36, cd37, cd38, cd39, cd40, cd41, cd42, cd43, cd44, cd45, cd46, cd47, cd48, (fun h0 => (f_r3.out h0).past bx), (fun h0 => (f_r7.out h0).past bx), (fun h0 => (f_r17.out h0).past bx), (fun h0 => (f_r25.out h0).past bx), (fun h0 => (f_r32.out h0).past bx), (fun h0 => (f_r36.out h0).past bx), (fun h0 => (f_r43.out h0).past bx)⟩
        · rintro L a w ⟨b0, b1, b2, b3, b4, b5, b6, b7, b8, b9, b10, b11, b12, b13, b14, b15, b16, b17, b18, b19, b20, b21, b22, b23, b24, b25, b26, b27, b28, b29, b30, b31, b32, b33, b34, b35, b36, b37, b38, b39, b40, b41, b42, b43, b44, b45, b46, b47, b48, x84, x85, x86, x87, x88, x89, x90, x91, x92, x93, x94, x95, x96, x97, x98, x99, x100, x101, x102, x103, x104, x105, x106, x107, x108, x109, x110, x111, x112, x113, x114, x115, x116, x117, x118, x119, x120, x121, x122, x123, x124, x125, x126, x127, x128, x129, x130, x131, x12, a1, c1_, a2, c2_, a3, c3_, a4, c4_, a5, c5_, a6, c6_, a7, c7_, rfl, rfl, hb, cd0, cd1, cd2, cd3, cd4, cd5, cd6, cd7, cd8, cd9, cd10, cd11, cd12, cd13, cd14, cd15, cd16, cd17, cd18, cd19, cd20, cd21, cd22, cd23, cd24, cd25, cd26, cd27, cd28, cd29, cd30, cd31, cd32, cd33, cd34, cd35, cd36, cd37, cd38, cd39, cd40, cd41, cd42, cd43, cd44, cd45, cd46, cd47, cd48, f_r3, f_r7, f_r17, f_r25, f_r32, f_r36, f_r43⟩ hf hd
          have hf' : b9 = false := hf
          subst hf'
          have d8 : b8 = true := hd ⟨8, .data⟩ (by simp) rfl
          subst d8
          obtain rfl := cd8.out rfl
          clear hf hd
          try simp only [List.setIfInBounds_toArray, List.set_cons_zero, List.set_cons_succ]
          intro K hK
          rw [if_pos (by rfl)]
          go_simp
          exact hK.out _ _ ⟨b0, b1, b2, b3, b4, b5, b6, b7, true, true, b10, b11, b12, b13, b14, b15, b16, b17, b18, b19, b20, b21, b22, b23, b24, b25, b26, b27, b28, b29, b30, b31, b32, b33, b34, b35, b36, b37, b38, b39, b40, b41, b42, b43, b44, b45, b46, b47, b48, x84, x85, x86, x87, x88, x89, x90, x91, .bool true, (.bool true), x94, x95, x96, x97, x98, x99, x100, x101, x102, x103, x104, x105, x106, x107, x108, x109, x110, x111, x112, x113, x114, x115, x116, x117, x118, x119, x120, x121, x122, x123, x124, x125, x126, x127, x128, x129, x130, x131, x12, a1, c1_, a2, c2_, a3, c3_, a4, c4_, a5, c5_, a6, c6_, a7, c7_, (by simp only [Act.put, List.setIfInBounds_toArray, List.set_cons_zero, List.set_cons_succ]), (by simp only [Act.put, List.setIfInBounds_toArray, List.set_cons_zero, List.set_cons_succ]), hb, cd0, cd1, cd2, cd3, cd4, cd5, cd6, cd7, (fun _ => rfl), (fun _ => rfl), cd10, cd11, cd12, cd13, cd14, cd15, cd16, cd17, cd18, cd19, cd20, cd21, cd22, cd23, cd24, cd25, cd26, cd27, cd28, cd29, cd30, cd31, cd32, cd33, cd34, cd35, cd36, cd37, cd38, cd39, cd40, cd41, cd42, cd43, cd44, cd45, cd46, cd47, cd48, f_r3, f_r7, f_r17, f_r25, f_r32, f_r36, f_r43⟩
        · rintro L a w ⟨b0, b1, b2, b3, b4, b5, b6, b7, b8, b9, b10, b11, b12, b13, b14, b15, b16, b17, b18, b19, b20, b21, b22, b23, b24, b25, b26, b27, b28, b29, b30, b31, b32, b33, b34, b35, b36, b37, b38, b39, b40, b41, b42, b43, b44, b45, b46, b47, b48, x84, x85, x86, x87, x88, x89, x90, x91, x92, x93, x94, x95, x96, x97, x98, x99, x100, x101, x102, x103, x104, x105, x106, x107, x108, x109, x110, x111, x112, x113, x114, x115, x116, x117, x118, x119, x120, x121, x122, x123, x124, x125, x126, x127, x128, x129, x130, x131, x12, a1, c1_, a2, c2_, a3, c3_, a4, c4_, a5, c5_, a6, c6_, a7, c7_, rfl, rfl, hb, cd0, cd1, cd2, cd3, cd4, cd5, cd6, cd7, cd8, cd9, cd10, cd11, cd12, cd13, cd14, cd15, cd16, cd17, cd18, cd19, cd20, cd21, cd22, cd23, cd24, cd25, cd26, cd27, cd28, cd29, cd30, cd31, cd32, cd33, cd34, cd35, cd36, cd37, cd38, cd39, cd40, cd41, cd42, cd43, cd44, cd45, cd46, cd47, cd48, f_r3, f_r7, f_r17, f_r25, f_r32, f_r36, f_r43⟩ hf hd
          have hf' : b10 = false := hf
          subst hf'
          have d9 : b9 = true := hd ⟨9, .guard⟩ (by simp) rfl
          subst d9
          obtain rfl := cd9.out rfl
          clear hf hd
          try simp only [List.setIfInBounds_toArray, List.set_cons_zero, List.set_cons_succ]
          have z0 := (hb.cell hgoB).trans o0
          have z1 := (hb.cell hgoB).trans o1
          have z2 := (hb.cell hgoB).trans o2
          have z3 := (hb.cell hgoB).trans o3
          have z4 := (hb.cell hgoB).trans o4
          intro K hK
          rw [if_pos (by rfl)]
          go_simp
          exact hK.out _ _ ⟨b0, b1, b2, b3, b4, b5, b6, b7, b8, true, true, b11, b12, b13, b14, b15, b16, b17, b18, b19, b20, b21, b22, b23, b24, b25, b26, b27, b28, b29, b30, b31, b32, b33, b34, b35, b36, b37, b38, b39, b40, b41, b42, b43, b44, b45, b46, b47, b48, x84, x85, x86, x87, x88, x89, x90, x91, x92, .bool true, (.agg #[.string (bsOf NM), .slice (some ⟨g, 0, none⟩) N cg, .int .i64 (KI : Nat), .bool only, .slice ro rn rc]), x95, x96, x97, x98, x99, x100, x101, x102, x103, x104, x105, x106, x107, x108, x109, x110, x111, x112, x113, x114, x115, x116, x117, x118, x119, x120, x121, x122, x123, x124, x125, x126, x127, x128, x129, x130, x131, x12, a1, c1_, a2, c2_, a3, c3_, a4, c4_, a5, c5_, a6, c6_, a7, c7_, (by simp only [Act.put, List.setIfInBounds_toArray, List.set_cons_zero, List.set_cons_succ]), (by simp only [Act.put, List.setIfInBounds_toArray, List.set_cons_zero, List.set_cons_succ]), hb, cd0, cd1, cd2, cd3, cd4, cd5, cd6, cd7, cd8, (fun _ => rfl), (fun _ => rfl), cd11, cd12, cd13, cd14, cd15, cd16, cd17, cd18, cd19, cd20, cd21, cd22, cd23, cd24, cd25, cd26, cd27, cd28, cd29, cd30, cd31, cd32, cd33, cd34, cd35, cd36, cd37, cd38, cd39, cd40, cd41, cd42, cd43, cd44, cd45, cd46, cd47, cd48, f_r3, f_r7, f_r17, f_r25, f_r32, f_r36, f_r43⟩
        · rintro L a w ⟨b0, b1, b2, b3, b4, b5, b6, b7, b8, b9, b10, b11, b12, b13, b14, b15, b16, b17, b18, b19, b20, b21, b22, b23, b24, b25, b26, b27, b28, b29, b30, b31, b32, b33, b34, b35, b36, b37, b38, b39, b40, b41, b42, b43, b44, b45, b46, b47, b48, x84, x85, x86, x87, x88, x89, x90, x91, x92, x93, x94, x95, x96, x97, x98, x99, x100, x101, x102, x103, x104, x105, x106, x107, x108, x109, x110, x111, x112, x113, x114, x115, x116, x117, x118, x119, x120, x121, x122, x123, x124, x125, x126, x127, x128, x129, x130, x131, x12, a1, c1_, a2, c2_, a3, c3_, a4, c4_, a5, c5_, a6, c6_, a7, c7_, rfl, rfl, hb, cd0, cd1, cd2, cd3, cd4, cd5, cd6, cd7, cd8, cd9, cd10, cd11, cd12, cd13, cd14, cd15, cd16, cd17, cd18, cd19, cd20, cd21, cd22, cd23, cd24, cd25, cd26, cd27, cd28, cd29, cd30, cd31, cd32, cd33, cd34, cd35, cd36, cd37, cd38, cd39, cd40, cd41, cd42, cd43, cd44, cd45, cd46, cd47, cd48, f_r3, f_r7, f_r17, f_r25, f_r32, f_r36, f_r43⟩ hf hd
          have hf' : b11 = false := hf
          subst hf'
          have d9 : b9 = true := hd ⟨9, .guard⟩ (by simp) rfl
          subst d9
          obtain rfl := cd9.out rfl
          clear hf hd
          try simp only [List.setIfInBounds_toArray, List.set_cons_zero, List.set_cons_succ]
          intro K hK
          rw [if_pos (by rfl)]
          go_simp
          exact hK.out _ _ ⟨b0, b1, b2, b3, b4, b5, b6, b7, b8, true, b10, true, b12, b13, b14, b15, b16, b17, b18, b19, b20, b21, b22, b23, b24, b25, b26, b27, b28, b29, b30, b31, b32, b33, b34, b35, b36, b37, b38, b39, b40, b41, b42, b43, b44, b45, b46, b47, b48, x84, x85, x86, x87, x88, x89, x90, x91, x92, .bool true, x94, (.slice (some ⟨gv, 0, none⟩) 2 cv), x96, x97, x98, x99, x100, x101, x102, x103, x104, x105, x106, x107, x108, x109, x110, x111, x112, x113, x114, x115, x116, x117, x118, x119, x120, x121, x122, x123, x124, x125, x126, x127, x128, x129, x130, x131, x12, a1, c1_, a2, c2_, a3, c3_, a4, c4_, a5, c5_, a6, c6_, a7, c7_, (by simp only [Act.put, List.setIfInBounds_toArray, List.set_cons_zero, List.set_cons_succ]), (by simp only [Act.put, List.setIfInBounds_toArray, List.set_cons_zero, List.set_cons_succ]), hb, cd0, cd1, cd2, cd3, cd4, cd5, cd6, cd7, cd8, (fun _ => rfl), cd10, (fun _ => rfl), cd12, cd13, cd14, cd15, cd16, cd17, cd18, cd19, cd20, cd21, cd22, cd23, cd24, cd25, cd26, cd27, cd28, cd29, cd30, cd31, cd32, cd33, cd34, cd35, cd36, cd37, cd38, cd39, cd40, cd41, cd42, cd43, cd44, cd45, cd46, cd47, cd48, f_r3, f_r7, f_r17, f_r25, f_r32, f_r36, f_r43⟩
        · rintro L a w ⟨b0, b1, b2, b3, b4, b5, b6, b7, b8, b9, b10, b11, b12, b13, b14, b15, b16, b17, b18, b19, b20, b21, b22, b23, b24, b25, b26, b27, b28, b29, b30, b31, b32, b33, b34, b35, b36, b37, b38, b39, b40, b41, b42, b43, b44, b45, b46, b47, b48, x84, x85, x86, x87, x88, x89, x90, x91, x92, x93, x94, x95, x96, x97, x98, x99, x100, x101, x102, x103, x104, x105, x106, x107, x108, x109, x110, x111, x112, x113, x114, x115, x116, x117, x118, x119, x120, x121, x122, x123, x124, x125, x126, x127, x128, x129, x130, x131, x12, a1, c1_, a2, c2_, a3, c3_, a4, c4_, a5, c5_, a6, c6_, a7, c7_, rfl, rfl, hb, cd0, cd1, cd2, cd3, cd4, cd5, cd6, cd7, cd8, cd9, cd10, cd11, cd12, cd13, cd14, cd15, cd16, cd17, cd18, cd19, cd20, cd21, cd22, cd23, cd24, cd25, cd26, cd27, cd28, cd29, cd30, cd31, cd32, cd33, cd34, cd35, cd36, cd37, cd38, cd39, cd40, cd41, cd42, cd43, cd44, cd45, cd46, cd47, cd48, f_r3, f_r7, f_r17, f_r25, f_r32, f_r36, f_r43⟩ hf hd
          have hf' : b12 = false := hf
          subst hf'
          have d11 : b11 = true := hd ⟨11, .data⟩ (by simp) rfl
          subst d11
          have d9 : b9 = true := hd ⟨9, .guard⟩ (by simp) rfl
          subst d9
          obtain rfl := cd11.out rfl
          obtain rfl := cd9.out rfl
          clear hf hd
          try simp only [List.setIfInBounds_toArray, List.set_cons_zero, List.set_cons_succ]
          intro K hK
          rw [if_pos (by rfl)]
          go_simp
          exact hK.out _ _ ⟨b0, b1, b2, b3, b4, b5, b6, b7, b8, true, b10, true, true, b13, b14, b15, b16, b17, b18, b19, b20, b21, b22, b23, b24, b25, b26, b27, b28, b29, b30, b31, b32, b33, b34, b35, b36, b37, b38, b39, b40, b41, b42, b43, b44, b45, b46, b47, b48, x84, x85, x86, x87, x88, x89, x90, x91, x92, .bool true, x94, .slice (some ⟨gv, 0, none⟩) 2 cv, (.pointer (some ⟨gv, 0, none⟩)), x97, x98, x99, x100, x101, x102, x103, x104, x105, x106, x107, x108, x109, x110, x111, x112, x113, x114, x115, x116, x117, x118, x119, x120, x121, x122, x123, x124, x125, x126, x127, x128, x129, x130, x131, x12, a1, c1_, a2, c2_, a3, c3_, a4, c4_, a5, c5_, a6, c6_, a7, c7_, (by simp only [Act.put, List.setIfInBounds_toArray, List.set_cons_zero, List.set_cons_succ]), (by simp only [Act.put, List.setIfInBounds_toArray, List.set_cons_zero, List.set_cons_succ]), hb, cd0, cd1, cd2, cd3, cd4, cd5, cd6, cd7, cd8, (fun _ => rfl), cd10, (fun _ => rfl), (fun _ => rfl), cd13, cd14, cd15, cd16, cd17, cd18, cd19, cd20, cd21, cd22, cd23, cd24, cd25, cd26, cd27, cd28, cd29, cd30, cd31, cd32, cd33, cd34, cd35, cd36, cd37, cd38, cd39, cd40, cd41, cd42, cd43, cd44, cd45, cd46, cd47, cd48, f_r3, f_r7, f_r17, f_r25, f_r32, f_r36, f_r43⟩
        · rintro L a w ⟨b0, b1, b2, b3, b4, b5, b6, b7, b8, b9, b10, b11, b12, b13, b14, b15, b16, b17, b18, b19, b20, b21, b22, b23, b24, b25, b26, b27, b28, b29, b30, b31, b32, b33, b34, b35, b36, b37, b38, b39, b40, b41, b42, b43, b44, b45, b46, b47, b48, x84, x85, x86, x87, x88, x89, x90, x91, x92, x93, x94, x95, x96, x97, x98, x99, x100, x101, x102, x103, x104, x105, x106, x107, x108, x109, x110, x111, x112, x113, x114, x115, x116, x117, x118, x119, x120, x121, x122, x123, x124, x125, x126, x127, x128, x129, x130, x131, x12, a1, c1_, a2, c2_, a3, c3_, a4, c4_, a5, c5_, a6, c6_, a7, c7_, rfl, rfl, hb, cd0, cd1, cd2, cd3, cd4, cd5, cd6, cd7, cd8, cd9, cd10, cd11, cd12, cd13, cd14, cd15, cd16, cd17, cd18, cd19, cd20, cd21, cd22, cd23, cd24, cd25, cd26, cd27, cd28, cd29, cd30, cd31, cd32, cd33, cd34, cd35, cd36, cd37, cd38, cd39, cd40, cd41, cd42, cd43, cd44, cd45, cd46, cd47, cd48, f_r3, f_r7, f_r17, f_r25, f_r32, f_r36, f_r43⟩ hf hd
          have hf' : b13 = false := hf
          subst hf'
          have d12 : b12 = true := hd ⟨12, .data⟩ (by simp) rfl
          subst d12
          have d9 : b9 = true := hd ⟨9, .guard⟩ (by simp) rfl
          subst d9
          obtain rfl := cd12.out rfl
          obtain rfl := cd9.out rfl
          clear hf hd
          try simp only [List.setIfInBounds_toArray, List.set_cons_zero, List.set_cons_succ]
          have z0 := (hb.cell hgvB).trans U0
          have z1 := (hb.cell hgvB).trans U1
          have z2 := (hb.cell hgvB).trans U2
          intro K hK
          rw [if_pos (by rfl)]
          go_simp
          exact hK.out _ _ ⟨b0, b1, b2, b3, b4, b5, b6, b7, b8, true, b10, b11, true, true, b14, b15, b16, b17, b18, b19, b20, b21, b22, b23, b24, b25, b26, b27, b28, b29, b30, b31, b32, b33, b34, b35, b36, b37, b38, b39, b40, b41, b42, b43, b44, b45, b46, b47, b48, x84, x85, x86, x87, x88, x89, x90, x91, x92, .bool true, x94, x95, .pointer (some ⟨gv, 0, none⟩), (.agg #[.int .i64 uk, .int .i64 um, .string us]), x98, x99, x100, x101, x102, x103, x104, x105, x106, x107, x108, x109, x110, x111, x112, x113, x114, x115, x116, x117, x118, x119, x120, x121, x122, x123, x124, x125, x126, x127, x128, x129, x130, x131, x12, a1, c1_, a2, c2_, a3, c3_, a4, c4_, a5, c5_, a6, c6_, a7, c7_, (by simp only [Act.put, List.setIfInBounds_toArray, List.set_cons_zero, List.set_cons_succ]), (by simp only [Act.put, List.setIfInBounds_toArray, List.set_cons_zero, List.set_cons_succ]), hb, cd0, cd1, cd2, cd3, cd4, cd5, cd6, cd7, cd8, (fun _ => rfl), cd10, cd11, (fun _ => rfl), (fun _ => rfl), cd14, cd15, cd16, cd17, cd18, cd19, cd20, cd21, cd22, cd23, cd24, cd25, cd26, cd27, cd28, cd29, cd30, cd31, cd32, cd33, cd34, cd35, cd36, cd37, cd38, cd39, cd40, cd41, cd42, cd43, cd44, cd45, cd46, cd47, cd48, f_r3, f_r7, f_r17, f_r25, f_r32, f_r36, f_r43⟩
        · rintro L a w ⟨b0, b1, b2, b3, b4, b5, b6, b7, b8, b9, b10, b11, b12, b13, b14, b15, b16, b17, b18, b19, b20, b21, b22, b23, b24, b25, b26, b27, b28, b29, b30, b31, b32, b33, b34, b35, b36, b37, b38, b39, b40, b41, b42, b43, b44, b45, b46, b47, b48, x84, x85, x86, x87, x88, x89, x90, x91, x92, x93, x94, x95, x96, x97, x98, x99, x100, x101, x102, x103, x104, x105, x106, x107, x108, x109, x110, x111, x112, x113, x114, x115, x116, x117, x118, x119, x120, x121, x122, x123, x124, x125, x126, x127, x128, x129, x130, x131, x12, a1, c1_, a2, c2_, a3, c3_, a4, c4_, a5, c5_, a6, c6_, a7, c7_, rfl, rfl, hb, cd0, cd1, cd2, cd3, cd4, cd5, cd6, cd7, cd8, cd9, cd10, cd11, cd12, cd13, cd14, cd15, cd16, cd17, cd18, cd19, cd20, cd21, cd22, cd23, cd24, cd25, cd26, cd27, cd28, cd29, cd30, cd31, cd32, cd33, cd34, cd35, cd36, cd37, cd38, cd39, cd40, cd41, cd42, cd43, cd44, cd45, cd46, cd47, cd48, f_r3, f_r7, f_r17, f_r25, f_r32, f_r36, f_r43⟩ hf hd
          have hf' : b14 = false := hf
          subst hf'
          have d9 : b9 = true := hd ⟨9, .guard⟩ (by simp) rfl
          subst d9
          obtain rfl := cd9.out rfl
          clear hf hd
          try simp only [List.setIfInBounds_toArray, List.set_cons_zero, List.set_cons_succ]
          intro K hK
          rw [if_pos (by rfl)]
          go_simp
          exact hK.out _ _ ⟨b0, b1, b2, b3, b4, b5, b6, b7, b8, true, b10, b11, b12, b13, true, b15, b16, b17, b18, b19, b20, b21, b22, b23, b24, b25, b26, b27, b28, b29, b30, b31, b32, b33, b34, b35, b36, b37, b38, b39, b40, b41, b42, b43, b44, b45, b46, b47, b48, x84, x85, x86, x87, x88, x89, x90, x91, x92, .bool true, x94, x95, x96, x97, (.slice (some ⟨gv, 0, none⟩) 2 cv), x99, x100, x101, x102, x103, x104, x105, x106, x107, x108, x109, x110, x111, x112, x113, x114, x115, x116, x117, x118, x119, x120, x121, x122, x123, x124, x125, x126, x127, x128, x129, x130, x131, x12, a1, c1_, a2, c2_, a3, c3_, a4, c4_, a5, c5_, a6, c6_, a7, c7_, (by simp only [Act.put, List.setIfInBounds_toArray, List.set_cons_zero, List.set_cons_succ]), (by simp only [Act.put, List.setIfInBounds_toArray, List.set_cons_zero, List.set_cons_succ]), hb, cd0, cd1, cd2, cd3, cd4, cd5, cd6, cd7, cd8, (fun _ => rfl), cd10, cd11, cd12, cd13, (fun _ => rfl), cd15, cd16, cd17, cd18, cd19, cd20, cd21, cd22, cd23, cd24, cd25, cd26, cd27, cd28, cd29, cd30, cd31, cd32, cd33, cd34, cd35, cd36, cd37, cd38, cd39, cd40, cd41, cd42, cd43, cd44, cd45, cd46, cd47, cd48, f_r3, f_r7, f_r17, f_r25, f_r32, f_r36, f_r43⟩
        · rintro L a w ⟨b0, b1, b2, b3, b4, b5, b6, b7, b8, b9, b10, b11, b12, b13, b14, b15, b16, b17, b18, b19, b20, b21, b22, b23, b24, b25, b26, b27, b28, b29, b30, b31, b32, b33, b34, b35, b36, b37, b38, b39, b40, b41, b42, b43, b44, b45, b46, b47, b48, x84, x85, x86, x87, x88, x89, x90, x91, x92, x93, x94, x95, x96, x97, x98, x99, x100, x101, x102, x103, x104, x105, x106, x107, x108, x109, x110, x111, x112, x113, x114, x115, x116, x117, x118, x119, x120, x121, x122, x123, x124, x125, x126, x127, x128, x129, x130, x131, x12, a1, c1_, a2, c2_, a3, c3_, a4, c4_, a5, c5_, a6, c6_, a7, c7_, rfl, rfl, hb, cd0, cd1, cd2, cd3, cd4, cd5, cd6, cd7, cd8, cd9, cd10, cd11, cd12, cd13, cd14, cd15, cd16, cd17, cd18, cd19, cd20, cd21, cd22, cd23, cd24, cd25, cd26, cd27, cd28, cd29, cd30, cd31, cd32, cd33, cd34, cd35, cd36, cd37, cd38, cd39, cd40, cd41, cd42, cd43, cd44, cd45, cd46, cd47, cd48, f_r3, f_r7, f_r17, f_r25, f_r32, f_r36, f_r43⟩ hf hd
          have hf' : b15 = false := hf
          subst hf'
          have d14 : b14 = true := hd ⟨14, .data⟩ (by simp) rfl
          subst d14
          have d9 : b9 = true := hd ⟨9, .guard⟩ (by simp) rfl
          subst d9
          obtain rfl := cd14.out rfl
          obtain rfl := cd9.out rfl
          clear hf hd
          try simp only [List.setIfInBounds_toArray, List.set_cons_zero, List.set_cons_succ]
          intro K hK
          rw [if_pos (by rfl)]
          go_simp
          exact hK.out _ _ ⟨b0, b1, b2, b3, b4, b5, b6, b7, b8, true, b10, b11, b12, b13, true, true, b16, b17, b18, b19, b20, b21, b22, b23, b24, b25, b26, b27, b28, b29, b30, b31, b32, b33, b34, b35, b36, b37, b38, b39, b40, b41, b42, b43, b44, b45, b46, b47, b48, x84, x85, x86, x87, x88, x89, x90, x91, x92, .bool true, x94, x95, x96, x97, .slice (some ⟨gv, 0, none⟩) 2 cv, (.pointer (some ⟨gv, 3, none⟩)), x100, x101, x102, x103, x104, x105, x106, x107, x108, x109, x110, x111, x112, x113, x114, x115, x116, x117, x118, x119, x120, x121, x122, x123, x124, x125, x126, x127, x128, x129, x130, x131, x12, a1, c1_, a2, c2_, a3, c3_, a4, c4_, a5, c5_, a6, c6_, a7, c7_, (by simp only [Act.put, List.setIfInBounds_toArray, List.set_cons_zero, List.set_cons_succ]), (by simp only [Act.put, List.setIfInBounds_toArray, List.set_cons_zero, List.set_cons_succ]), hb, cd0, cd1, cd2, cd3, cd4, cd5, cd6, cd7, cd8, (fun _ => rfl), cd10, cd11, cd12, cd13, (fun _ => rfl), (fun _ => rfl), cd16, cd17, cd18, cd19, cd20, cd21, cd22, cd23, cd24, cd25, cd26, cd27, cd28, cd29, cd30, cd31, cd32, cd33, cd34, cd35, cd36, cd37, cd38, cd39, cd40, cd41, cd42, cd43, cd44, cd45, cd46, cd47, cd48, f_r3, f_r7, f_r17, f_r25, f_r32, f_r36, f_r43⟩
        · rintro L a w ⟨b0, b1, b2, b3, b4, b5, b6, b7, b8, b9, b10, b11, b12, b13, b14, b15, b16, b17, b18, b19, b20, b21, b22, b23, b24, b25, b26, b27, b28, b29, b30, b31, b32, b33, b34, b35, b36, b37, b38, b39, b40, b41, b42, b43, b44, b45, b46, b47, b48, x84, x85, x86, x87, x88, x89, x90, x91, x92, x93, x94, x95, x96, x97, x98, x99, x100, x101, x102, x103, x104, x105, x106, x107, x108, x109, x110, x111, x112, x113, x114, x115, x116, x117, x118, x119, x120, x121, x122, x123, x124, x125, x126, x127, x128, x129, x130, x131, x12, a1, c1_, a2, c2_, a3, c3_, a4, c4_, a5, c5_, a6, c6_, a7, c7_, rfl, rfl, hb, cd0, cd1, cd2, cd3, cd4, cd5, cd6, cd7, cd8, cd9, cd10, cd11, cd12, cd13, cd14, cd15, cd16, cd17, cd18, cd19, cd20, cd21, cd22, cd23, cd24, cd25, cd26, cd27, cd28, cd29, cd30, cd31, cd32, cd33, cd34, cd35, cd36, cd37, cd38, cd39, cd40, cd41, cd42, cd43, cd44, cd45, cd46, cd47, cd48, f_r3, f_r7, f_r17, f_r25, f_r32, f_r36, f_r43⟩ hf hd
          have hf' : b16 = false := hf
          subst hf'
          have d15 : b15 = true := hd ⟨15, .data⟩ (by simp) rfl
          subst d15
          have d9 : b9 = true := hd ⟨9, .guard⟩ (by simp) rfl
          subst d9
          obtain rfl := cd15.out rfl
          obtain rfl := cd9.out rfl
          clear hf hd
          try simp only [List.setIfInBounds_toArray, List.set_cons_zero, List.set_cons_succ]
          have z0 := (hb.cell hgvB).trans V0_
          have z1 := (hb.cell hgvB).trans V1_
          have z2 := (hb.cell hgvB).trans V2_
          intro K hK
          rw [if_pos (by rfl)]
          go_simp
          exact hK.out _ _ ⟨b0, b1, b2, b3, b4, b5, b6, b7, b8, true, b10, b11, b12, b13, b14, true, true, b17, b18, b19, b20, b21, b22, b23, b24, b25, b26, b27, b28, b29, b30, b31, b32, b33, b34, b35, b36, b37, b38, b39, b40, b41, b42, b43, b44, b45, b46, b47, b48, x84, x85, x86, x87, x88, x89, x90, x91, x92, .bool true, x94, x95, x96, x97, x98, .pointer (some ⟨gv, 3, none⟩), (.agg #[.int .i64 vk, .int .i64 vm, .string vs]), x101, x102, x103, x104, x105, x106, x107, x108, x109, x110, x111, x112, x113, x114, x115, x116, x117, x118, x119, x120, x121, x122, x123, x124, x125, x126, x127, x128, x129, x130, x131, x12, a1, c1_, a2, c2_, a3, c3_, a4, c4_, a5, c5_, a6, c6_, a7, c7_, (by simp only [Act.put, List.setIfInBounds_toArray, List.set_cons_zero, List.set_cons_succ]), (by simp only [Act.put, List.setIfInBounds_toArray, List.set_cons_zero, List.set_cons_succ]), hb, cd0, cd1, cd2, cd3, cd4, cd5, cd6, cd7, cd8, (fun _ => rfl), cd10, cd11, cd12, cd13, cd14, (fun _ => rfl), (fun _ => rfl), cd17, cd18, cd19, cd20, cd21, cd22, cd23, cd24, cd25, cd26, cd27, cd28, cd29, cd30, cd31, cd32, cd33, cd34, cd35, cd36, cd37, cd38, cd39, cd40, cd41, cd42, cd43, cd44, cd45, cd46, cd47, cd48, f_r3, f_r7, f_r17, f_r25, f_r32, f_r36, f_r43⟩
        · rintro L a w ⟨b0, b1, b2, b3, b4, b5, b6, b7, b8, b9, b10, b11, b12, b13, b14, b15, b16, b17, b18, b19, b20, b21, b22, b23, b24, b25, b26, b27, b28, b29, b30, b31, b32, b33, b34, b35, b36, b37, b38, b39, b40, b41, b42, b43, b44, b45, b46, b47, b48, x84, x85, x86, x87, x88, x89, x90, x91, x92, x93, x94, x95, x96, x97, x98, x99, x100, x101, x102, x103, x104, x105, x106, x107, x108, x109, x110, x111, x112, x113, x114, x115, x116, x117, x118, x119, x120, x121, x122, x123, x124, x125, x126, x127, x128, x129, x130, x131, x12, a1, c1_, a2, c2_, a3, c3_, a4, c4_, a5, c5_, a6, c6_, a7, c7_, rfl, rfl, hb, cd0, cd1, cd2, cd3, cd4, cd5, cd6, cd7, cd8, cd9, cd10, cd11, cd12, cd13, cd14, cd15, cd16, cd17, cd18, cd19, cd20, cd21, cd22, cd23, cd24, cd25, cd26, cd27, cd28, cd29, cd30, cd31, cd32, cd33, cd34, cd35, cd36, cd37, cd38, cd39, cd40, cd41, cd42, cd43, cd44, cd45, cd46, cd47, cd48, f_r3, f_r7, f_r17, f_r25, f_r32, f_r36, f_r43⟩ hf hd
          have hf' : b17 = false := hf
          subst hf'
          have d10 : b10 = true := hd ⟨10, .data⟩ (by simp) rfl
          subst d10
          have d13 : b13 = true := hd ⟨13, .data⟩ (by simp) rfl
          subst d13
          have d16 : b16 = true := hd ⟨16, .data⟩ (by simp) rfl
          subst d16
          have d9 : b9 = true := hd ⟨9, .chain⟩ (by simp) rfl
          subst d9
          obtain rfl := cd10.out rfl
          obtain rfl := cd13.out rfl
          obtain rfl := cd16.out rfl
          obtain rfl := cd9.out rfl
          clear hf hd
          try simp only [List.setIfInBounds_toArray, List.set_cons_zero, List.set_cons_succ]
          intro K hK
          rw [if_pos (by rfl)]
          go_simp
          go_at_call 33
          refine (HR2 _ hb).mono ?_
          rintro e w' ⟨ao2, c2, rfl, r2, bx⟩
          exact hK.out _ _ ⟨b0, b1, b2, b3, b4, b5, b6, b7, b8, true, true, b11, b12, true, b14, b15, true, true, b18, b19, b20, b21, b22, b23, b24, b25, b26, b27, b28, b29, b30, b31, b32, b33, b34, b35, b36, b37, b38, b39, b40, b41, b42, b43, b44, b45, b46, b47, b48, x84, x85, x86, x87, x88, x89, x90, x91, x92, .bool true, .agg #[.string (bsOf NM), .slice (some ⟨g, 0, none⟩) N cg, .int .i64 (KI : Nat), .bool only, .slice ro rn rc], x95, x96, .agg #[.int .i64 uk, .int .i64 um, .string us], x98, x99, .agg #[.int .i64 vk, .int .i64 vm, .string vs], (.slice ao2 n2 c2), x102, x103, x104, x105, x106, x107, x108, x109, x110, x111, x112, x113, x114, x115, x116, x117, x118, x119, x120, x121, x122, x123, x124, x125, x126, x127, x128, x129, x130, x131, x12, a1, c1_, a2, c2_, ao2, c2, a4, c4_, a5, c5_, a6, c6_, a7, c7_, (by simp only [Act.put, List.setIfInBounds_toArray, List.set_cons_zero, List.set_cons_succ]), (by simp only [Act.put, List.setIfInBounds_toArray, List.set_cons_zero, List.set_cons_succ]), hb.trans (bx.mono (Nat.le_trans hB0 hb.size)), cd0, cd1, cd2, cd3, cd4, cd5, cd6, cd7, cd8, (fun _ => rfl), (fun _ => rfl), cd11, cd12, (fun _ => rfl), cd14, cd15, (fun _ => rfl), (fun _ => rfl), cd18, cd19, cd20, cd21, cd22, cd23, cd24, cd25, cd26, cd27, cd28, cd29, cd30, cd31, cd32, cd33, cd34, cd35, cd36, cd37, cd38, cd39, cd40, cd41, cd42, cd43, cd44, cd45, cd46, cd47, cd48, (fun h0 => (f_r3.out h0).past bx), (fun h0 => (f_r7.out h0).past bx), (fun _ => r2), (fun h0 => (f_r25.out h0).past bx), (fun h0 => (f_r32.out h0).past bx), (fun h0 => (f_r36.out h0).past bx), (fun h0 => (f_r43.out h0).past bx)⟩
        · rintro L a w ⟨b0, b1, b2, b3, b4, b5, b6, b7, b8, b9, b10, b11, b12, b13, b14, b15, b16, b17, b18, b19, b20, b21, b22, b23, b24, b25, b26, b27, b28, b29, b30, b31, b32, b33, b34, b35, b36, b37, b38, b39, b40, b41, b42, b43, b44, b45, b46, b47, b48, x84, x85, x86, x87, x88, x89, x90, x91, x92, x93, x94, x95, x96, x97, x98, x99, x100, x101, x102, x103, x104, x105, x106, x107, x108, x109, x110, x111, x112, x113, x114, x115, x116, x117, x118, x119, x120, x121, x122, x123, x124, x125, x126, x127, x128, x129, x130, x131, x12, a1, c1_, a2, c2_, a3, c3_, a4, c4_, a5, c5_, a6, c6_, a7, c7_, rfl, rfl, hb, cd0, cd1, cd2, cd3, cd4, cd5, cd6, cd7, cd8, cd9, cd10, cd11, cd12, cd13, cd14, cd15, cd16, cd17, cd18, cd19, cd20, cd21, cd22, cd23, cd24, cd25, cd26, cd27, cd28, cd29, cd30, cd31, cd32, cd33, cd34, cd35, cd36, cd37, cd38, cd39, cd40, cd41, cd42, cd43, cd44, cd45, cd46, cd47, cd48, f_r3, f_r7, f_r17, f_r25, f_r32, f_r36, f_r43⟩ hf hd
          have hf' : b18 = false := hf
          subst hf'
          have d9 : b9 = true := hd ⟨9, .guard⟩ (by simp) rfl
          subst d9
          obtain rfl := cd9.out rfl
          clear hf hd
          try simp only [List.setIfInBounds_toArray, List.set_cons_zero, List.set_cons_succ]
          have z0 := (hb.cell hgtB).trans t0
          have z1 := (hb.cell hgtB).trans t1
          have z2 := (hb.cell hgtB).trans t2
          have z3 := (hb.cell hgtB).trans t3
          have z4 := (hb.cell hgtB).trans t4
          intro K hK
          rw [if_pos (by rfl)]
          go_simp
          exact hK.out _ _ ⟨b0, b1, b2, b3, b4, b5, b6, b7, b8, true, b10, b11, b12, b13, b14, b15, b16, b17, true, b19, b20, b21, b22, b23, b24, b25, b26, b27, b28, b29, b30, b31, b32, b33, b34, b35, b36, b37, b38, b39, b40, b41, b42, b43, b44, b45, b46, b47, b48, x84, x85, x86, x87, x88, x89, x90, x91, x92, .bool true, x94, x95, x96, x97, x98, x99, x100, x101, (.agg #[.string (bsOf NM), .slice (some ⟨g, 0, none⟩) N cg, .int .i64 (KI : Nat), .bool only, .slice ro rn rc]), x103, x104, x105, x106, x107, x108, x109, x110, x111, x112, x113, x114, x115, x116, x117, x118, x119, x120, x121, x122, x123, x124, x125, x126, x127, x128, x129, x130, x131, x12, a1, c1_, a2, c2_, a3, c3_, a4, c4_, a5, c5_, a6, c6_, a7, c7_, (by simp only [Act.put, List.setIfInBounds_toArray, List.set_cons_zero, List.set_cons_succ]), (by simp only [Act.put, List.setIfInBounds_toArray, List.set_cons_zero, List.set_cons_succ]), hb, cd0, cd1, cd2, cd3, cd4, cd5, cd6, cd7, cd8, (fun _ => rfl), cd10, cd11, cd12, cd13, cd14, cd15, cd16, cd17, (fun _ => rfl), cd19, cd20, cd21, cd22, cd23, cd24, cd25, cd26, cd27, cd28, cd29, cd30, cd31, cd32, cd33, cd34, cd35, cd36, cd37, cd38, cd39, cd40, cd41, cd42, cd43, cd44, cd45, cd46, cd47, cd48, f_r3, f_r7, f_r17, f_r25, f_r32, f_r36, f_r43⟩
        · rintro L a w ⟨b0, b1, b2, b3, b4, b5, b6, b7, b8, b9, b10, b11, b12, b13, b14, b15, b16, b17, b18, b19, b20, b21, b22, b23, b24, b25, b26, b27, b28, b29, b30, b31, b32, b33, b34, b35, b36, b37, b38, b39, b40, b41, b42, b43, b44, b45, b46, b47, b48, x84, x85, x86, x87, x88, x89, x90, x91, x92, x93, x94, x95, x96, x97, x98, x99, x100, x101, x102, x103, x104, x105, x106, x107, x108, x109, x110, x111, x112, x113, x114, x115, x116, x117, x118, x119, x120, x121, x122, x123, x124, x125, x126, x127, x128, x129, x130, x131, x12, a1, c1_, a2, c2_, a3, c3_, a4, c4_, a5, c5_, a6, c6_, a7, c7_, rfl, rfl, hb, cd0, cd1, cd2, cd3, cd4, cd5, cd6, cd7, cd8, cd9, cd10, cd11, cd12, cd13, cd14, cd15, cd16, cd17, cd18, cd19, cd20, cd21, cd22, cd23, cd24, cd25, cd26, cd27, cd28, cd29, cd30, cd31, cd32, cd33, cd34, cd35, cd36, cd37, cd38, cd39, cd40, cd41, cd42, cd43, cd44, cd45, cd46, cd47, cd48, f_r3, f_r7, f_r17, f_r25, f_r32, f_r36, f_r43⟩ hf hd
          have hf' : b19 = false := hf
          subst hf'
          have d9 : b9 = true := hd ⟨9, .guard⟩ (by simp) rfl
          subst d9
          obtain rfl := cd9.out rfl
          clear hf hd
          try simp only [List.setIfInBounds_toArray, List.set_cons_zero, List.set_cons_succ]
          intro K hK
          rw [if_pos (by rfl)]
          go_simp
          exact hK.out _ _ ⟨b0, b1, b2, b3, b4, b5, b6, b7, b8, true, b10, b11, b12, b13, b14, b15, b16, b17, b18, true, b20, b21, b22, b23, b24, b25, b26, b27, b28, b29, b30, b31, b32, b33, b34, b35, b36, b37, b38, b39, b40, b41, b42, b43, b44, b45, b46, b47, b48, x84, x85, x86, x87, x88, x89, x90, x91, x92, .bool true, x94, x95, x96, x97, x98, x99, x100, x101, x102, (.slice (some ⟨gv, 0, none⟩) 2 cv), x104, x105, x106, x107, x108, x109, x110, x111, x112, x113, x114, x115, x116, x117, x118, x119, x120, x121, x122, x123, x124, x125, x126, x127, x128, x129, x130, x131, x12, a1, c1_, a2, c2_, a3, c3_, a4, c4_, a5, c5_, a6, c6_, a7, c7_, (by simp only [Act.put, List.setIfInBounds_toArray, List.set_cons_zero, List.set_cons_succ]), (by simp only [Act.put, List.setIfInBounds_toArray, List.set_cons_zero, List.set_cons_succ]), hb, cd0, cd1, cd2, cd3, cd4, cd5, cd6, cd7, cd8, (fun _ => rfl), cd10, cd11, cd12, cd13, cd14, cd15, cd16, cd17, cd18, (fun _ => rfl), cd20, cd21, cd22, cd23, cd24, cd25, cd26, cd27, cd28, cd29, cd30, cd31, cd32, cd33, cd34, cd35, cd36, cd37, cd38, cd39, cd40, cd41, cd42, cd43, cd44, cd45, cd46, cd47, cd48, f_r3, f_r7, f_r17, f_r25, f_r32, f_r36, f_r43⟩
        · rintro L a w ⟨b0, b1, b2, b3, b4, b5, b6, b7, b8, b9, b10, b11, b12, b13, b14, b15, b16, b17, b18, b19, b20, b21, b22, b23, b24, b25, b26, b27, b28, b29, b30, b31, b32, b33, b34, b35, b36, b37, b38, b39, b40, b41, b42, b43, b44, b45, b46, b47, b48, x84, x85, x86, x87, x88, x89, x90, x91, x92, x93, x94, x95, x96, x97, x98, x99, x100, x101, x102, x103, x104, x105, x106, x107, x108, x109, x110, x111, x112, x113, x114, x115, x116, x117, x118, x119, x120, x121, x122, x123, x124, x125, x126, x127, x128, x129, x130, x131, x12, a1, c1_, a2, c2_, a3, c3_, a4, c4_, a5, c5_, a6, c6_, a7, c7_, rfl, rfl, hb, cd0, cd1, cd2, cd3, cd4, cd5, cd6, cd7, cd8, cd9, cd10, cd11, cd12, cd13, cd14, cd15, cd16, cd17, cd18, cd19, cd20, cd21, cd22, cd23, cd24, cd25, cd26, cd27, cd28, cd29, cd30, cd31, cd32, cd33, cd34, cd35, cd36, cd37, cd38, cd39, cd40, cd41, cd42, cd43, cd44, cd45, cd46, cd47, cd48, f_r3, f_r7, f_r17, f_r25, f_r32, f_r36, f_r43⟩ hf hd
          have hf' : b20 = false := hf
          subst hf'
          have d19 : b19 = true := hd ⟨19, .data⟩ (by simp) rfl
          subst d19
          have d9 : b9 = true := hd ⟨9, .guard⟩ (by simp) rfl
          subst d9
          obtain rfl := cd19.out rfl
          obtain rfl := cd9.out rfl
          clear hf hd
          try simp only [List.setIfInBounds_toArray, List.set_cons_zero, List.set_cons_succ]
          intro K hK
          rw [if_pos (by rfl)]
          go_simp
          exact hK.out _ _ ⟨b0, b1, b2, b3, b4, b5, b6, b7, b8, true, b10, b11, b12, b13, b14, b15, b16, b17, b18, true, true, b21, b22, b23, b24, b25, b26, b27, b28, b29, b30, b31, b32, b33, b34, b35, b36, b37, b38, b39, b40, b41, b42, b43, b44, b45, b46, b47, b48, x84, x85, x86, x87, x88, x89, x90, x91, x92, .bool true, x94, x95, x96, x97, x98, x99, x100, x101, x102, .slice (some ⟨gv, 0, none⟩) 2 cv, (.pointer (some ⟨gv, 0, none⟩)), x105, x106, x107, x108, x109, x110, x111, x112, x113, x114, x115, x116, x117, x118, x119, x120, x121, x122, x123, x124, x125, x126, x127, x128, x129, x130, x131, x12, a1, c1_, a2, c2_, a3, c3_, a4, c4_, a5, c5_, a6, c6_, a7, c7_, (by simp only [Act.put, List.setIfInBounds_toArray, List.set_cons_zero, List.set_cons_succ]), (by simp only [Act.put, List.setIfInBounds_toArray, List.set_cons_zero, List.set_cons_succ]), hb, cd0, cd1, cd2, cd3, cd4, cd5, cd6, cd7, cd8, (fun _ => rfl), cd10, cd11, cd12, cd13, cd14, cd15, cd16, cd17, cd18, (fun _ => rfl), (fun _ => rfl), cd21, cd22, cd23, cd24, cd25, cd26, cd27, cd28, cd29, cd30, cd31, cd32, cd33, cd34, cd35, cd36, cd37, cd38, cd39, cd40, cd41, cd42, cd43, cd44, cd45, cd46, cd47, cd48, f_r3, f_r7, f_r17, f_r25, f_r32, f_r36, f_r43⟩
        · rintro L a w ⟨b0, b1, b2, b3, b4, b5, b6, b7, b8, b9, b10, b11, b12, b13, b14, b15, b16, b17, b18, b19, b20, b21, b22, b23, b24, b25, b26, b27, b28, b29, b30, b31, b32, b33, b34, b35, b36, b37, b38, b39, b40, b41, b42, b43, b44, b45, b46, b47, b48, x84, x85, x86, x87, x88, x89, x90, x91, x92, x93, x94, x95, x96, x97, x98, x99, x100, x101, x102, x103, x104, x105, x106, x107, x108, x109, x110, x111, x112, x113, x114, x115, x116, x117, x118, x119, x120, x121, x122, x123, x124, x125, x126, x127, x128, x129, x130, x131, x12, a1, c1_, a2, c2_, a3, c3_, a4, c4_, a5, c5_, a6, c6_, a7, c7_, rfl, rfl, hb, cd0, cd1, cd2, cd3, cd4, cd5, cd6, cd7, cd8, cd9, cd10, cd11, cd12, cd13, cd14, cd15, cd16, cd17, cd18, cd19, cd20, cd21, cd22, cd23, cd24, cd25, cd26, cd27, cd28, cd29, cd30, cd31, cd32, cd33, cd34, cd35, cd36, cd37, cd38, cd39, cd40, cd41, cd42, cd43, cd44, cd45, cd46, cd47, cd48, f_r3, f_r7, f_r17, f_r25, f_r32, f_r36, f_r43⟩ hf hd
          have hf' : b21 = false := hf
          subst hf'
          have d20 : b20 = true := hd ⟨20, .data⟩ (by simp) rfl
          subst d20
          have d9 : b9 = true := hd ⟨9, .guard⟩ (by simp) rfl
          subst d9
          obtain rfl := cd20.out rfl
          obtain rfl := cd9.out rfl
          clear hf hd
          try simp only [List.setIfInBounds_toArray, List.set_cons_zero, List.set_cons_succ]
          have z0 := (hb.cell hgvB).trans U0
          have z1 := (hb.cell hgvB).trans U1
          have z2 := (hb.cell hgvB).trans U2
          intro K hK
          rw [if_pos (by rfl)]
          go_simp
          exact hK.out _ _ ⟨b0, b1, b2, b3, b4, b5, b6, b7, b8, true, b10, b11, b12, b13, b14, b15, b16, b17, b18, b19, true, true, b22, b23, b24, b25, b26, b27, b28, b29, b30, b31, b32, b33, b34, b35, b36, b37, b38, b39, b40, b41, b42, b43, b44, b45, b46, b47, b48, x84, x85, x86, x87, x88, x89, x90, x91, x92, .bool true, x94, x95, x96, x97, x98, x99, x100, x101, x102, x103, .pointer (some ⟨gv, 0, none⟩), (.agg #[.int .i64 uk, .int .i64 um, .string us]), x106, x107, x108, x109, x110, x111, x112, x113, x114, x115, x116, x117, x118, x119, x120, x121, x122, x123, x124, x125, x126, x127, x128, x129, x130, x131, x12, a1, c1_, a2, c2_, a3, c3_, a4, c4_, a5, c5_, a6, c6_, a7, c7_, (by simp only [Act.put, List.setIfInBounds_toArray, List.set_cons_zero, List.set_cons_succ]), (by simp only [Act.put, List.setIfInBounds_toArray, List.set_cons_zero, List.set_cons_succ]), hb, cd0, cd1, cd2, cd3, cd4, cd5, cd6, cd7, cd8, (fun _ => rfl), cd10, cd11, cd12, cd13, cd14, cd15, cd16, cd17, cd18, cd19, (fun _ => rfl), (fun _ => rfl), cd22, cd23, cd24, cd25, cd26, cd27, cd28, cd29, cd30, cd31, cd32, cd33, cd34, cd35, cd36, cd37, cd38, cd39, cd40, cd41, cd42, cd43, cd44, cd45, cd46, cd47, cd48, f_r3, f_r7, f_r17, f_r25, f_r32, f_r36, f_r43⟩
        · rintro L a w ⟨b0, b1, b2, b3, b4, b5, b6, b7, b8, b9, b10, b11, b12, b13, b14, b15, b16, b17, b18, b19, b20, b21, b22, b23, b24, b25, b26, b27, b28, b29, b30, b31, b32, b33, b34, b35, b36, b37, b38, b39, b40, b41, b42, b43, b44, b45, b46, b47, b48, x84, x85, x86, x87, x88, x89, x90, x91, x92, x93, x94, x95, x96, x97, x98, x99, x100, x101, x102, x103, x104, x105, x106, x107, x108, x109, x110, x111, x112, x113, x114, x115, x116, x117, x118, x119, x120, x121, x122, x123, x124, x125, x126, x127, x128, x129, x130, x131, x12, a1, c1_, a2, c2_, a3, c3_, a4, c4_, a5, c5_, a6, c6_, a7, c7_, rfl, rfl, hb, cd0, cd1, cd2, cd3, cd4, cd5, cd6, cd7, cd8, cd9, cd10, cd11, cd12, cd13, cd14, cd15, cd16, cd17, cd18, cd19, cd20, cd21, cd22, cd23, cd24, cd25, cd26, cd27, cd28, cd29, cd30, cd31, cd32, cd33, cd34, cd35, cd36, cd37, cd38, cd39, cd40, cd41, cd42, cd43, cd44, cd45, cd46, cd47, cd48, f_r3, f_r7, f_r17, f_r25, f_r32, f_r36, f_r43⟩ hf hd
          have hf' : b22 = false := hf
          subst hf'
          have d9 : b9 = true := hd ⟨9, .guard⟩ (by simp) rfl
          subst d9
          obtain rfl := cd9.out rfl
          clear hf hd
          try simp only [List.setIfInBounds_toArray, List.set_cons_zero, List.set_cons_succ]
          intro K hK
          rw [if_pos (by rfl)]
          go_simp
          exact hK.out _ _ ⟨b0, b1, b2, b3, b4, b5, b6, b7, b8, true, b10, b11, b12, b13, b14, b15, b16, b17, b18, b19, b20, b21, true, b23, b24, b25, b26, b27, b28, b29, b30, b31, b32, b33, b34, b35, b36, b37, b38, b39, b40, b41, b42, b43, b44, b45, b46, b47, b48, x84, x85, x86, x87, x88, x89, x90, x91, x92, .bool true, x94, x95, x96, x97, x98, x99, x100, x101, x102, x103, x104, x105, (.slice (some ⟨gv, 0, none⟩) 2 cv), x107, x108, x109, x110, x111, x112, x113, x114, x115, x116, x117, x118, x119, x120, x121, x122, x123, x124, x125, x126, x127, x128, x129, x130, x131, x12, a1, c1_, a2, c2_, a3, c3_, a4, c4_, a5, c5_, a6, c6_, a7, c7_, (by simp only [Act.put, List.setIfInBounds_toArray, List.set_cons_zero, List.set_cons_succ]), (by simp only [Act.put, List.setIfInBounds_toArray, List.set_cons_zero, List.set_cons_succ]), hb, cd0, cd1, cd2, cd3, cd4, cd5, cd6, cd7, cd8, (fun _ => rfl), cd10, cd11, cd12, cd13, cd14, cd15, cd16, cd17, cd18, cd19, cd20, cd21, (fun _ => rfl), cd23, cd24, cd25, cd26, cd27, cd28, cd29, cd30, cd31, cd32, cd33, cd34, cd35, cd36, cd37, cd38, cd39, cd40, cd41, cd42, cd43, cd44, cd45, cd46, cd47, cd48, f_r3, f_r7, f_r17, f_r25, f_r32, f_r36, f_r43⟩
        · rintro L a w ⟨b0, b1, b2, b3, b4, b5, b6, b7, b8, b9, b10, b11, b12, b13, b14, b15, b16, b17, b18, b19, b20, b21, b22, b23, b24, b25, b26, b27, b28, b29, b30, b31, b32, b33, b34, b35, b36, b37, b38, b39, b40, b41, b42, b43, b44, b45, b46, b47, b48, x84, x85, x86, x87, x88, x89, x90, x91, x92, x93, x94, x95, x96, x97, x98, x99, x100, x101, x102, x103, x104, x105, x106, x107, x108, x109, x110, x111, x112, x113, x114, x115, x116, x117, x118, x119, x120, x121, x122, x123, x124, x125, x126, x127, x128, x129, x130, x131, x12, a1, c1_, a2, c2_, a3, c3_, a4, c4_, a5, c5_, a6, c6_, a7, c7_, rfl, rfl, hb, cd0, cd1, cd2, cd3, cd4, cd5, cd6, cd7, cd8, cd9, cd10, cd11, cd12, cd13, cd14, cd15, cd16, cd17, cd18, cd19, cd20, cd21, cd22, cd23, cd24, cd25, cd26, cd27, cd28, cd29, cd30, cd31, cd32, cd33, cd34, cd35, cd36, cd37, cd38, cd39, cd40, cd41, cd42, cd43, cd44, cd45, cd46, cd47, cd48, f_r3, f_r7, f_r17, f_r25, f_r32, f_r36, f_r43⟩ hf hd
          have hf' : b23 = false := hf
          subst hf'
          have d22 : b22 = true := hd ⟨22, .data⟩ (by simp) rfl
          subst d22
          have d9 : b9 = true := hd ⟨9, .guard⟩ (by simp) rfl
          subst d9
          obtain rfl := cd22.out rfl
          obtain rfl := cd9.out rfl
          clear hf hd
          try simp only [List.setIfInBounds_toArray, List.set_cons_zero, List.set_cons_succ]
          intro K hK
          rw [if_pos (by rfl)]
          go_simp
          exact hK.out _ _ ⟨b0, b1, b2, b3, b4, b5, b6, b7, b8, true, b10, b11, b12, b13, b14, b15, b16, b17, b18, b19, b20, b21, true, true, b24, b25, b26, b27, b28, b29, b30, b31, b32, b33, b34, b35, b36, b37, b38, b39, b40, b41, b42, b43, b44, b45, b46, b47, b48, x84, x85, x86, x87, x88, x89, x90, x91, x92, .bool true, x94, x95, x96, x97, x98, x99, x100, x101, x102, x103, x104, x105, .slice (some ⟨gv, 0, none⟩) 2 cv, (.pointer (some ⟨gv, 3, none⟩)), x108, x109, x110, x111, x112, x113, x114, x115, x116, x117, x118, x119, x120, x121, x122, x123, x124, x125, x126, x127, x128, x129, x130, x131, x12, a1, c1_, a2, c2_, a3, c3_, a4, c4_, a5, c5_, a6, c6_, a7, c7_, (by simp only [Act.put, List.setIfInBounds_toArray, List.set_cons_zero, List.set_cons_succ]), (by simp only [Act.put, List.setIfInBounds_toArray, List.set_cons_zero, List.set_cons_succ]), hb, cd0, cd1, cd2, cd3, cd4, cd5, cd6, cd7, cd8, (fun _ => rfl), cd10, cd11, cd12, cd13, cd14, cd15, cd16, cd17, cd18, cd19, cd20, cd21, (fun _ => rfl), (fun _ => rfl), cd24, cd25, cd26, cd27, cd28, cd29, cd30, cd31, cd32, cd33, cd34, cd35, cd36, cd37, cd38, cd39, cd40, cd41, cd42, cd43, cd44, cd45, cd46, cd47, cd48, f_r3, f_r7, f_r17, f_r25, f_r32, f_r36, f_r43⟩
        · rintro L a w ⟨b0, b1, b2, b3, b4, b5, b6, b7, b8, b9, b10, b11, b12, b13, b14, b15, b16, b17, b18, b19, b20, b21, b22, b23, b24, b25, b26, b27, b28, b29, b30, b31, b32, b33, b34, b35, b36, b37, b38, b39, b40, b41, b42, b43, b44, b45, b46, b47, b48, x84, x85, x86, x87, x88, x89, x90, x91, x92, x93, x94, x95, x96, x97, x98, x99, x100, x101, x102, x103, x104, x105, x106, x107, x108, x109, x110, x111, x112, x113, x114, x115, x116, x117, x118, x119, x120, x121, x122, x123, x124, x125, x126, x127, x128, x129, x130, x131, x12, a1, c1_, a2, c2_, a3, c3_, a4, c4_, a5, c5_, a6, c6_, a7, c7_, rfl, rfl, hb, cd0, cd1, cd2, cd3, cd4, cd5, cd6, cd7, cd8, cd9, cd10, cd11, cd12, cd13, cd14, cd15, cd16, cd17, cd18, cd19, cd20, cd21, cd22, cd23, cd24, cd25, cd26, cd27, cd28, cd29, cd30, cd31, cd32, cd33, cd34, cd35, cd36, cd37, cd38, cd39, cd40, cd41, cd42, cd43, cd44, cd45, cd46, cd47, cd48, f_r3, f_r7, f_r17, f_r25, f_r32, f_r36, f_r43⟩ hf hd
          have hf' : b24 = false := hf
          subst hf'
          have d23 : b23 = true := hd ⟨23, .data⟩ (by simp) rfl
          subst d23
          have d9 : b9 = true := hd ⟨9, .guard⟩ (by simp) rfl
          subst d9
          obtain rfl := cd23.out rfl
          obtain rfl := cd9.out rfl
          clear hf hd
          try simp only [List.setIfInBounds_toArray, List.set_cons_zero, List.set_cons_succ]
          have z0 := (hb.cell hgvB).trans V0_
          have z1 := (hb.cell hgvB).trans V1_
          have z2 := (hb.cell hgvB).trans V2_
          intro K hK
          rw [if_pos (by rfl)]
          go_simp
          exact hK.out _ _ ⟨b0, b1, b2, b3, b4, b5, b6, b7, b8, true, b10, b11, b12, b13, b14, b15, b16, b17, b18, b19, b20, b21, b22, true, true, b25, b26, b27, b28, b29, b30, b31, b32, b33, b34, b35, b36, b37, b38, b39, b40, b41, b42, b43, b44, b45, b46, b47, b48, x84, x85, x86, x87, x88, x89, x90, x91, x92, .bool true, x94, x95, x96, x97, x98, x99, x100, x101, x102, x103, x104, x105, x106, .pointer (some ⟨gv, 3, none⟩), (.agg #[.int .i64 vk, .int .i64 vm, .string vs]), x109, x110, x111, x112, x113, x114, x115, x116, x117, x118, x119, x120, x121, x122, x123, x124, x125, x126, x127, x128, x129, x130, x131, x12, a1, c1_, a2, c2_, a3, c3_, a4, c4_, a5, c5_, a6, c6_, a7, c7_, (by simp only [Act.put, List.setIfInBounds_toArray, List.set_cons_zero, List.set_cons_succ]), (by simp only [Act.put, List.setIfInBounds_toArray, List.set_cons_zero, List.set_cons_succ]), hb, cd0, cd1, cd2, cd3, cd4, cd5, cd6, cd7, cd8, (fun _ => rfl), cd10, cd11, cd12, cd13, cd14, cd15, cd16, cd17, cd18, cd19, cd20, cd21, cd22, (fun _ => rfl), (fun _ => rfl), cd25, cd26, cd27, cd28, cd29, cd30, cd31, cd32, cd33, cd34, cd35, cd36, cd37, cd38, cd39, cd40, cd41, cd42, cd43, cd44, cd45, cd46, cd47, cd48, f_r3, f_r7, f_r17, f_r25, f_r32, f_r36, f_r43⟩
        · rintro L a w ⟨b0, b1, b2, b3, b4, b5, b6, b7, b8, b9, b10, b11, b12, b13, b14, b15, b16, b17, b18, b19, b20, b21, b22, b23, b24, b25, b26, b27, b28, b29, b30, b31, b32, b33, b34, b35, b36, b37, b38, b39, b40, b41, b42, b43, b44, b45, b46, b47, b48, x84, x85, x86, x87, x88, x89, x90, x91, x92, x93, x94, x95, x96, x97, x98, x99, x100, x101, x102, x103, x104, x105, x106, x107, x108, x109, x110, x111, x112, x113, x114, x115, x116, x117, x118, x119, x120, x121, x122, x123, x124, x125, x126, x127, x128, x129, x130, x131, x12, a1, c1_, a2, c2_, a3, c3_, a4, c4_, a5, c5_, a6, c6_, a7, c7_, rfl, rfl, hb, cd0, cd1, cd2, cd3, cd4, cd5, cd6, cd7, cd8, cd9, cd10, cd11, cd12, cd13, cd14, cd15, cd16, cd17, cd18, cd19, cd20, cd21, cd22, cd23, cd24, cd25, cd26, cd27, cd28, cd29, cd30, cd31, cd32, cd33, cd34, cd35, cd36, cd37, cd38, cd39, cd40, cd41, cd42, cd43, cd44, cd45, cd46, cd47, cd48, f_r3, f_r7, f_r17, f_r25, f_r32, f_r36, f_r43⟩ hf hd
          have hf' : b25 = false := hf
          subst hf'
          have d18 : b18 = true := hd ⟨18, .data⟩ (by simp) rfl
          subst d18
          have d21 : b21 = true := hd ⟨21, .data⟩ (by simp) rfl
          subst d21
          have d24 : b24 = true := hd ⟨24, .data⟩ (by simp) rfl
          subst d24
          have d17 : b17 = true := hd ⟨17, .chain⟩ (by simp) rfl
          subst d17
          have d9 : b9 = true := hd ⟨9, .guard⟩ (by simp) rfl
          subst d9
          obtain rfl := cd18.out rfl
          obtain rfl := cd21.out rfl
          obtain rfl := cd24.out rfl
          obtain rfl := cd17.out rfl
          obtain rfl := cd9.out rfl
          clear hf hd
          have W_r17 := f_r17.out rfl
          try simp only [List.setIfInBounds_toArray, List.set_cons_zero, List.set_cons_succ]
          intro K hK
          rw [if_pos (by rfl)]
          go_simp
          go_at_call 34
          refine (HS2 _ hb).mono ?_
          rintro e w' ⟨ao2, c2, rfl, r2, bx⟩
          exact hK.out _ _ ⟨b0, b1, b2, b3, b4, b5, b6, b7, b8, true, b10, b11, b12, b13, b14, b15, b16, true, true, b19, b20, true, b22, b23, true, true, b26, b27, b28, b29, b30, b31, b32, b33, b34, b35, b36, b37, b38, b39, b40, b41, b42, b43, b44, b45, b46, b47, b48, x84, x85, x86, x87, x88, x89, x90, x91, x92, .bool true, x94, x95, x96, x97, x98, x99, x100, .slice a3 n2 c3_, .agg #[.string (bsOf NM), .slice (some ⟨g, 0, none⟩) N cg, .int .i64 (KI : Nat), .bool only, .slice ro rn rc], x103, x104, .agg #[.int .i64 uk, .int .i64 um, .string us], x106, x107, .agg #[.int .i64 vk, .int .i64 vm, .string vs], (.slice ao2 n2 c2), x110, x111, x112, x113, x114, x115, x116, x117, x118, x119, x120, x121, x122, x123, x124, x125, x126, x127, x128, x129, x130, x131, x12, a1, c1_, a2, c2_, a3, c3_, ao2, c2, a5, c5_, a6, c6_, a7, c7_, (by simp only [Act.put, List.setIfInBounds_toArray, List.set_cons_zero, List.set_cons_succ]), (by simp only [Act.put, List.setIfInBounds_toArray, List.set_cons_zero, List.set_cons_succ]), hb.trans (bx.mono (Nat.le_trans hB0 hb.size)), cd0, cd1, cd2, cd3, cd4, cd5, cd6, cd7, cd8, (fun _ => rfl), cd10, cd11, cd12, cd13, cd14, cd15, cd16, (fun _ => rfl), (fun _ => rfl), cd19, cd20, (fun _ => rfl), cd22, cd23, (fun _ => rfl), (fun _ => rfl), cd26, cd27, cd28, cd29, cd30, cd31, cd32, cd33, cd34, cd35, cd36, cd37, cd38, cd39, cd40, cd41, cd42, cd43, cd44, cd45, cd46, cd47, cd48, (fun h0 => (f_r3.out h0).past bx), (fun h0 => (f_r7.out h0).past bx), (fun h0 => (f_r17.out h0).past bx), (fun _ => r2), (fun h0 => (f_r32.out h0).past bx), (fun h0 => (f_r36.out h0).past bx), (fun h0 => (f_r43.out h0).past bx)⟩
        · rintro L a w ⟨b0, b1, b2, b3, b4, b5, b6, b7, b8, b9, b10, b11, b12, b13, b14, b15, b16, b17, b18, b19, b20, b21, b22, b23, b24, b25, b26, b27, b28, b29, b30, b31, b32, b33, b34, b35, b36, b37, b38, b39, b40, b41, b42, b43, b44, b45, b46, b47, b48, x84, x85, x86, x87, x88, x89, x90, x91, x92, x93, x94, x95, x96, x97, x98, x99, x100, x101, x102, x103, x104, x105, x106, x107, x108, x109, x110, x111, x112, x113, x114, x115, x116, x117, x118, x119, x120, x121, x122, x123, x124, x125, x126, x127, x128, x129, x130, x131, x12, a1, c1_, a2, c2_, a3, c3_, a4, c4_, a5, c5_, a6, c6_, a7, c7_, rfl, rfl, hb, cd0, cd1, cd2, cd3, cd4, cd5, cd6, cd7, cd8, cd9, cd10, cd11, cd12, cd13, cd14, cd15, cd16, cd17, cd18, cd19, cd20, cd21, cd22, cd23, cd24, cd25, cd26, cd27, cd28, cd29, cd30, cd31, cd32, cd33, cd34, cd35, cd36, cd37, cd38, cd39, cd40, cd41, cd42, cd43, cd44, cd45, cd46, cd47, cd48, f_r3, f_r7, f_r17, f_r25, f_r32, f_r36, f_r43⟩ hf hd
          have hf' : b26 = false := hf
          subst hf'
          have d17 : b17 = true := hd ⟨17, .data⟩ (by simp) rfl
          subst d17
          have d25 : b25 = true := hd ⟨25, .data⟩ (by simp) rfl
          subst d25
          have d9 : b9 = true := hd ⟨9, .guard⟩ (by simp) rfl
          subst d9
          obtain rfl := cd17.out rfl
          obtain rfl := cd25.out rfl
          obtain rfl := cd9.out rfl
          clear hf hd
          have W_r17 := f_r17.out rfl
          have W_r25 := f_r25.out rfl
          try simp only [List.setIfInBounds_toArray, List.set_cons_zero, List.set_cons_succ]
          intro K hK
          rw [if_pos (by rfl)]
          go_simp
          go_at_call 32
          refine (HW2 _ _ _ _ _ W_r17 W_r25).mono ?_
          rintro e w' ⟨rfl, bx⟩
          exact hK.out _ _ ⟨b0, b1, b2, b3, b4, b5, b6, b7, b8, true, b10, b11, b12, b13, b14, b15, b16, true, b18, b19, b20, b21, b22, b23, b24, true, true, b27, b28, b29, b30, b31, b32, b33, b34, b35, b36, b37, b38, b39, b40, b41, b42, b43, b44, b45, b46, b47, b48, x84, x85, x86, x87, x88, x89, x90, x91, x92, .bool true, x94, x95, x96, x97, x98, x99, x100, .slice a3 n2 c3_, x102, x103, x104, x105, x106, x107, x108, .slice a4 n2 c4_, (.bool true), x111, x112, x113, x114, x115, x116, x117, x118, x119, x120, x121, x122, x123, x124, x125, x126, x127, x128, x129, x130, x131, x12, a1, c1_, a2, c2_, a3, c3_, a4, c4_, a5, c5_, a6, c6_, a7, c7_, (by simp only [Act.put, List.setIfInBounds_toArray, List.set_cons_zero, List.set_cons_succ]), (by simp only [Act.put, List.setIfInBounds_toArray, List.set_cons_zero, List.set_cons_succ]), hb.trans (bx.mono (Nat.le_trans hB0 hb.size)), cd0, cd1, cd2, cd3, cd4, cd5, cd6, cd7, cd8, (fun _ => rfl), cd10, cd11, cd12, cd13, cd14, cd15, cd16, (fun _ => rfl), cd18, cd19, cd20, cd21, cd22, cd23, cd24, (fun _ => rfl), (fun _ => rfl), cd27, cd28, cd29, cd30, cd31, cd32, cd33, cd34, cd35, cd36, cd37, cd38, cd39, cd40, cd41, cd42, cd43, cd44, cd45, cd46, cd47, cd48, (fun h0 => (f_r3.out h0).past bx), (fun h0 => (f_r7.out h0).past bx), (fun h0 => (f_r17.out h0).past bx), (fun h0 => (f_r25.out h0).past bx), (fun h0 => (f_r32.out h0).past bx), (fun h0 => (f_r36.out h0).past bx), (fun h0 => (f_r43.out h0).past bx)⟩
        · rintro L a w ⟨b0, b1, b2, b3, b4, b5, b6, b7, b8, b9, b10, b11, b12, b13, b14, b15, b16, b17, b18, b19, b20, b21, b22, b23, b24, b25, b26, b27, b28, b29, b30, b31, b32, b33, b34, b35, b36, b37, b38, b39, b40, b41, b42, b43, b44, b45, b46, b47, b48, x84, x85, x86, x87, x88, x89, x90, x91, x92, x93, x94, x95, x96, x97, x98, x99, x100, x101, x102, x103, x104, x105, x106, x107, x108, x109, x110, x111, x112, x113, x114, x115, x116, x117, x118, x119, x120, x121, x122, x123, x124, x125, x126, x127, x128, x129, x130, x131, x12, a1, c1_, a2, c2_, a3, c3_, a4, c4_, a5, c5_, a6, c6_, a7, c7_, rfl, rfl, hb, cd0, cd1, cd2, cd3, cd4, cd5, cd6, cd7, cd8, cd9, cd10, cd11, cd12, cd13, cd14, cd15, cd16, cd17, cd18, cd19, cd20, cd21, cd22, cd23, cd24, cd25, cd26, cd27, cd28, cd29, cd30, cd31, cd32, cd33, cd34, cd35, cd36, cd37, cd38, cd39, cd40, cd41, cd42, cd43, cd44, cd45, cd46, cd47, cd48, f_r3, f_r7, f_r17, f_r25, f_r32, f_r36, f_r43⟩ hf hd
          have hf' : b27 = false := hf
          subst hf'
          have d9 : b9 = true := hd ⟨9, .data⟩ (by simp) rfl
          subst d9
          have d26 : b26 = true := hd ⟨26, .data⟩ (by simp) rfl
          subst d26
          obtain rfl := cd9.out rfl
          obtain rfl := cd26.out rfl
          clear hf hd
          try simp only [List.setIfInBounds_toArray, List.set_cons_zero, List.set_cons_succ]
          intro K hK
          rw [if_pos (by rfl)]
          go_simp
          exact hK.out _ _ ⟨b0, b1, b2, b3, b4, b5, b6, b7, b8, true, b10, b11, b12, b13, b14, b15, b16, b17, b18, b19, b20, b21, b22, b23, b24, b25, true, true, b28, b29, b30, b31, b32, b33, b34, b35, b36, b37, b38, b39, b40, b41, b42, b43, b44, b45, b46, b47, b48, x84, x85, x86, x87, x88, x89, x90, x91, x92, .bool true, x94, x95, x96, x97, x98, x99, x100, x101, x102, x103, x104, x105, x106, x107, x108, x109, .bool true, (.bool true), x112, x113, x114, x115, x116, x117, x118, x119, x120, x121, x122, x123, x124, x125, x126, x127, x128, x129, x130, x131, x12, a1, c1_, a2, c2_, a3, c3_, a4, c4_, a5, c5_, a6, c6_, a7, c7_, (by simp only [Act.put, List.setIfInBounds_toArray, List.set_cons_zero, List.set_cons_succ]), (by simp only [Act.put, List.setIfInBounds_toArray, List.set_cons_zero, List.set_cons_succ]), hb, cd0, cd1, cd2, cd3, cd4, cd5, cd6, cd7, cd8, (fun _ => rfl), cd10, cd11, cd12, cd13, cd14, cd15, cd16, cd17, cd18, cd19, cd20, cd21, cd22, cd23, cd24, cd25, (fun _ => rfl), (fun _ => rfl), cd28, cd29, cd30, cd31, cd32, cd33, cd34, cd35, cd36, cd37, cd38, cd39, cd40, cd41, cd42, cd43, cd44, cd45, cd46, cd47, cd48, f_r3, f_r7, f_r17, f_r25, f_r32, f_r36, f_r43⟩
        · rintro L a w ⟨b0, b1, b2, b3, b4, b5, b6, b7, b8, b9, b10, b11, b12, b13, b14, b15, b16, b17, b18, b19, b20, b21, b22, b23, b24, b25, b26, b27, b28, b29, b30, b31, b32, b33, b34, b35, b36, b37, b38, b39, b40, b41, b42, b43, b44, b45, b46, b47, b48, x84, x85, x86, x87, x88, x89, x90, x91, x92, x93, x94, x95, x96, x97, x98, x99, x100, x101, x102, x103, x104, x105, x106, x107, x108, x109, x110, x111, x112, x113, x114, x115, x116, x117, x118, x119, x120, x121, x122, x123, x124, x125, x126, x127, x128, x129, x130, x131, x12, a1, c1_, a2, c2_, a3, c3_, a4, c4_, a5, c5_, a6, c6_, a7, c7_, rfl, rfl, hb, cd0, cd1, cd2, cd3, cd4, cd5, cd6, cd7, cd8, cd9, cd10, cd11, cd12, cd13, cd14, cd15, cd16, cd17, cd18, cd19, cd20, cd21, cd22, cd23, cd24, cd25, cd26, cd27, cd28, cd29, cd30, cd31, cd32, cd33, cd34, cd35, cd36, cd37, cd38, cd39, cd40, cd41, cd42, cd43, cd44, cd45, cd46, cd47, cd48, f_r3, f_r7, f_r17, f_r25, f_r32, f_r36, f_r43⟩ hf hd
          have hf' : b28 = false := hf
          subst hf'
          have d27 : b27 = true := hd ⟨27, .data⟩ (by simp) rfl
          subst d27
          have d26 : b26 = true := hd ⟨26, .chain⟩ (by simp) rfl
          subst d26
          obtain rfl := cd27.out rfl
          obtain rfl := cd26.out rfl
          clear hf hd
          try simp only [List.setIfInBounds_toArray, List.set_cons_zero, List.set_cons_succ]
          intro K hK
          rw [if_pos (by rfl)]
          go_simp
          exact hK.out _ _ ⟨b0, b1, b2, b3, b4, b5, b6, b7, b8, b9, b10, b11, b12, b13, b14, b15, b16, b17, b18, b19, b20, b21, b22, b23, b24, b25, true, true, true, b29, b30, b31, b32, b33, b34, b35, b36, b37, b38, b39, b40, b41, b42, b43, b44, b45, b46, b47, b48, x84, x85, x86, x87, x88, x89, x90, x91, x92, x93, x94, x95, x96, x97, x98, x99, x100, x101, x102, x103, x104, x105, x106, x107, x108, x109, .bool true, .bool true, (.bool true), x113, x114, x115, x116, x117, x118, x119, x120, x121, x122, x123, x124, x125, x126, x127, x128, x129, x130, x131, x12, a1, c1_, a2, c2_, a3, c3_, a4, c4_, a5, c5_, a6, c6_, a7, c7_, (by simp only [Act.put, List.setIfInBounds_toArray, List.set_cons_zero, List.set_cons_succ]), (by simp only [Act.put, List.setIfInBounds_toArray, List.set_cons_zero, List.set_cons_succ]), hb, cd0, cd1, cd2, cd3, cd4, cd5, cd6, cd7, cd8, cd9, cd10, cd11, cd12, cd13, cd14, cd15, cd16, cd17, cd18, cd19, cd20, cd21, cd22, cd23, cd24, cd25, (fun _ => rfl), (fun _ => rfl), (fun _ => rfl), cd29, cd30, cd31, cd32, cd33, cd34, cd35, cd36, cd37, cd38, cd39, cd40, cd41, cd42, cd43, cd44, cd45, cd46, cd47, cd48, f_r3, f_r7, f_r17, f_r25, f_r32, f_r36, f_r43⟩
        · rintro L a w ⟨b0, b1, b2, b3, b4, b5, b6, b7, b8, b9, b10, b11, b12, b13, b14, b15, b16, b17, b18, b19, b20, b21, b22, b23, b24, b25, b26, b27, b28, b29, b30, b31, b32, b33, b34, b35, b36, b37, b38, b39, b40, b41, b42, b43, b44, b45, b46, b47, b48, x84, x85, x86, x87, x88, x89, x90, x91, x92, x93, x94, x95, x96, x97, x98, x99, x100, x101, x102, x103, x104, x105, x106, x107, x108, x109, x110, x111, x112, x113, x114, x115, x116, x117, x118, x119, x120, x121, x122, x123, x124, x125, x126, x127, x128, x129, x130, x131, x12, a1, c1_, a2, c2_, a3, c3_, a4, c4_, a5, c5_, a6, c6_, a7, c7_, rfl, rfl, hb, cd0, cd1, cd2, cd3, cd4, cd5, cd6, cd7, cd8, cd9, cd10, cd11, cd12, cd13, cd14, cd15, cd16, cd17, cd18, cd19, cd20, cd21, cd22, cd23, cd24, cd25, cd26, cd27, cd28, cd29, cd30, cd31, cd32, cd33, cd34, cd35, cd36, cd37, cd38, cd39, cd40, cd41, cd42, cd43, cd44, cd45, cd46, cd47, cd48, f_r3, f_r7, f_r17, f_r25, f_r32, f_r36, f_r43⟩ hf hd
          have hf' : b29 = false := hf
          subst hf'
          have d28 : b28 = true := hd ⟨28, .guard⟩ (by simp) rfl
          subst d28
          obtain rfl := cd28.out rfl
          clear hf hd
          try simp only [List.setIfInBounds_toArray, List.set_cons_zero, List.set_cons_succ]
          have z0 := (hb.cell hgoB).trans o0
          have z1 := (hb.cell hgoB).trans o1
          have z2 := (hb.cell hgoB).trans o2
          have z3 := (hb.cell hgoB).trans o3
          have z4 := (hb.cell hgoB).trans o4
          intro K hK
          rw [if_pos (by rfl)]
          go_simp
          exact hK.out _ _ ⟨b0, b1, b2, b3, b4, b5, b6, b7, b8, b9, b10, b11, b12, b13, b14, b15, b16, b17, b18, b19, b20, b21, b22, b23, b24, b25, b26, b27, true, true, b30, b31, b32, b33, b34, b35, b36, b37, b38, b39, b40, b41, b42, b43, b44, b45, b46, b47, b48, x84, x85, x86, x87, x88, x89, x90, x91, x92, x93, x94, x95, x96, x97, x98, x99, x100, x101, x102, x103, x104, x105, x106, x107, x108, x109, x110, x111, .bool true, (.agg #[.string (bsOf NM), .slice (some ⟨g, 0, none⟩) N cg, .int .i64 (KI : Nat), .bool only, .slice ro rn rc]), x114, x115, x116, x117, x118, x119, x120, x121, x122, x123, x124, x125, x126, x127, x128, x129, x130, x131, x12, a1, c1_, a2, c2_, a3, c3_, a4, c4_, a5, c5_, a6, c6_, a7, c7_, (by simp only [Act.put, List.setIfInBounds_toArray, List.set_cons_zero, List.set_cons_succ]), (by simp only [Act.put, List.setIfInBounds_toArray, List.set_cons_zero, List.set_cons_succ]), hb, cd0, cd1, cd2, cd3, cd4, cd5, cd6, cd7, cd8, cd9, cd10, cd11, cd12, cd13, cd14, cd15, cd16, cd17, cd18, cd19, cd20, cd21, cd22, cd23, cd24, cd25, cd26, cd27, (fun _ => rfl), (fun _ => rfl), cd30, cd31, cd32, cd33, cd34, cd35, cd36, cd37, cd38, cd39, cd40, cd41, cd42, cd43, cd44, cd45, cd46, cd47, cd48, f_r3, f_r7, f_r17, f_r25, f_r32, f_r36, f_r43⟩
        · rintro L a w ⟨b0, b1, b2, b3, b4, b5, b6, b7, b8, b9, b10, b11, b12, b13, b14, b15, b16, b17, b18, b19, b20, b21, b22, b23, b24, b25, b26, b27, b28, b29, b30, b31, b32, b33, b34, b35, b36, b37, b38, b39, b40, b41, b42, b43, b44, b45, b46, b47, b48, x84, x85, x86, x87, x88, x89, x90, x91, x92, x93, x94, x95, x96, x97, x98, x99, x100, x101, x102, x103, x104, x105, x106, x107, x108, x109, x110, x111, x112, x113, x114, x115, x116, x117, x118, x119, x120, x121, x122, x123, x124, x125, x126, x127, x128, x129, x130, x131, x12, a1, c1_, a2, c2_, a3, c3_, a4, c4_, a5, c5_, a6, c6_, a7, c7_, rfl, rfl, hb, cd0, cd1, cd2, cd3, cd4, cd5, cd6, cd7, cd8, cd9, cd10, cd11, cd12, cd13, cd14, cd15, cd16, cd17, cd18, cd19, cd20, cd21, cd22, cd23, cd24, cd25, cd26, cd27, cd28, cd29, cd30, cd31, cd32, cd33, cd34, cd35, cd36, cd37, cd38, cd39, cd40, cd41, cd42, cd43, cd44, cd45, cd46, cd47, cd48, f_r3, f_r7, f_r17, f_r25, f_r32, f_r36, f_r43⟩ hf hd
          have hf' : b30 = false := hf
          subst hf'
          have d28 : b28 = true := hd ⟨28, .guard⟩ (by simp) rfl
          subst d28
          obtain rfl := cd28.out rfl
          clear hf hd
          try simp only [List.setIfInBounds_toArray, List.set_cons_zero, List.set_cons_succ]
          have z0 := (hb.cell hgnB).trans N0
          have z1 := (hb.cell hgnB).trans N1
          have z2 := (hb.cell hgnB).trans N2
          intro K hK
          rw [if_pos (by rfl)]
          go_simp
          exact hK.out _ _ ⟨b0, b1, b2, b3, b4, b5, b6, b7, b8, b9, b10, b11, b12, b13, b14, b15, b16, b17, b18, b19, b20, b21, b22, b23, b24, b25, b26, b27, true, b29, true, b31, b32, b33, b34, b35, b36, b37, b38, b39, b40, b41, b42, b43, b44, b45, b46, b47, b48, x84, x85, x86, x87, x88, x89, x90, x91, x92, x93, x94, x95, x96, x97, x98, x99, x100, x101, x102, x103, x104, x105, x106, x107, x108, x109, x110, x111, .bool true, x113, (.agg #[.int .i64 0, .int .i64 0, .string ⟨#[]⟩]), x115, x116, x117, x118, x119, x120, x121, x122, x123, x124, x125, x126, x127, x128, x129, x130, x131, x12, a1, c1_, a2, c2_, a3, c3_, a4, c4_, a5, c5_, a6, c6_, a7, c7_, (by simp only [Act.put, List.setIfInBounds_toArray, List.set_cons_zero, List.set_cons_succ]), (by simp only [Act.put, List.setIfInBounds_toArray, List.set_cons_zero, List.set_cons_succ]), hb, cd0, cd1, cd2, cd3, cd4, cd5, cd6, cd7, cd8, cd9, cd10, cd11, cd12, cd13, cd14, cd15, cd16, cd17, cd18, cd19, cd20, cd21, cd22, cd23, cd24, cd25, cd26, cd27, (fun _ => rfl), cd29, (fun _ => rfl), cd31, cd32, cd33, cd34, cd35, cd36, cd37, cd38, cd39, cd40, cd41, cd42, cd43, cd44, cd45, cd46, cd47, cd48, f_r3, f_r7, f_r17, f_r25, f_r32, f_r36, f_r43⟩
        · rintro L a w ⟨b0, b1, b2, b3, b4, b5, b6, b7, b8, b9, b10, b11, b12, b13, b14, b15, b16, b17, b18, b19, b20, b21, b22, b23, b24, b25, b26, b27, b28, b29, b30, b31, b32, b33, b34, b35, b36, b37, b38, b39, b40, b41, b42, b43, b44, b45, b46, b47, b48, x84, x85, x86, x87, x88, x89, x90, x91, x92, x93, x94, x95, x96, x97, x98, x99, x100, x101, x102, x103, x104, x105, x106, x107, x108, x109, x110, x111, x112, x113, x114, x115, x116, x117, x118, x119, x120, x121, x122, x123, x124, x125, x126, x127, x128, x129, x130, x131, x12, a1, c1_, a2, c2_, a3, c3_, a4, c4_, a5, c5_, a6, c6_, a7, c7_, rfl, rfl, hb, cd0, cd1, cd2, cd3, cd4, cd5, cd6, cd7, cd8, cd9, cd10, cd11, cd12, cd13, cd14, cd15, cd16, cd17, cd18, cd19, cd20, cd21, cd22, cd23, cd24, cd25, cd26, cd27, cd28, cd29, cd30, cd31, cd32, cd33, cd34, cd35, cd36, cd37, cd38, cd39, cd40, cd41, cd42, cd43, cd44, cd45, cd46, cd47, cd48, f_r3, f_r7, f_r17, f_r25, f_r32, f_r36, f_r43⟩ hf hd
          have hf' : b31 = false := hf
          subst hf'
          have d28 : b28 = true := hd ⟨28, .guard⟩ (by simp) rfl
          subst d28
          obtain rfl := cd28.out rfl
          clear hf hd
          try simp only [List.setIfInBounds_toArray, List.set_cons_zero, List.set_cons_succ]
          have z0 := (hb.cell hgqB).trans Q0
          have z1 := (hb.cell hgqB).trans Q1
          have z2 := (hb.cell hgqB).trans Q2
          intro K hK
          rw [if_pos (by rfl)]
          go_simp
          exact hK.out _ _ ⟨b0, b1, b2, b3, b4, b5, b6, b7, b8, b9, b10, b11, b12, b13, b14, b15, b16, b17, b18, b19, b20, b21, b22, b23, b24, b25, b26, b27, true, b29, b30, true, b32, b33, b34, b35, b36, b37, b38, b39, b40, b41, b42, b43, b44, b45, b46, b47, b48, x84, x85, x86, x87, x88, x89, x90, x91, x92, x93, x94, x95, x96, x97, x98, x99, x100, x101, x102, x103, x104, x105, x106, x107, x108, x109, x110, x111, .bool true, x113, x114, (.agg #[.int .i64 qk, .int .i64 qm, .string qs]), x116, x117, x118, x119, x120, x121, x122, x123, x124, x125, x126, x127, x128, x129, x130, x131, x12, a1, c1_, a2, c2_, a3, c3_, a4, c4_, a5, c5_, a6, c6_, a7, c7_, (by simp only [Act.put, List.setIfInBounds_toArray, List.set_cons_zero, List.set_cons_succ]), (by simp only [Act.put, List.setIfInBounds_toArray, List.set_cons_zero, List.set_cons_succ]), hb, cd0, cd1, cd2, cd3, cd4, cd5, cd6, cd7, cd8, cd9, cd10, cd11, cd12, cd13, cd14, cd15, cd16, cd17, cd18, cd19, cd20, cd21, cd22, cd23, cd24, cd25, cd26, cd27, (fun _ => rfl), cd29, cd30, (fun _ => rfl), cd32, cd33, cd34, cd35, cd36, cd37, cd38, cd39, cd40, cd41, cd42, cd43, cd44, cd45, cd46, cd47, cd48, f_r3, f_r7, f_r17, f_r25, f_r32, f_r36, f_r43⟩
        · rintro L a w ⟨b0, b1, b2, b3, b4, b5, b6, b7, b8, b9, b10, b11, b12, b13, b14, b15, b16, b17, b18, b19, b20, b21, b22, b23, b24, b25, b26, b27, b28, b29, b30, b31, b32, b33, b34, b35, b36, b37, b38, b39, b40, b41, b42, b43, b44, b45, b46, b47, b48, x84, x85, x86, x87, x88, x89, x90, x91, x92, x93, x94, x95, x96, x97, x98, x99, x100, x101, x102, x103, x104, x105, x106, x107, x108, x109, x110, x111, x112, x113, x114, x115, x116, x117, x118, x119, x120, x121, x122, x123, x124, x125, x126, x127, x128, x129, x130, x131, x12, a1, c1_, a2, c2_, a3, c3_, a4, c4_, a5, c5_, a6, c6_, a7, c7_, rfl, rfl, hb, cd0, cd1, cd2, cd3, cd4, cd5, cd6, cd7, cd8, cd9, cd10, cd11, cd12, cd13, cd14, cd15, cd16, cd17, cd18, cd19, cd20, cd21, cd22, cd23, cd24, cd25, cd26, cd27, cd28, cd29, cd30, cd31, cd32, cd33, cd34, cd35, cd36, cd37, cd38, cd39, cd40, cd41, cd42, cd43, cd44, cd45, cd46, cd47, cd48, f_r3, f_r7, f_r17, f_r25, f_r32, f_r36, f_r43⟩ hf hd
          have hf' : b32 = false := hf
          subst hf'
          have d29 : b29 = true := hd ⟨29, .data⟩ (by simp) rfl
          subst d29
          have d30 : b30 = true := hd ⟨30, .data⟩ (by simp) rfl
          subst d30
          have d31 : b31 = true := hd ⟨31, .data⟩ (by simp) rfl
          subst d31
          have d28 : b28 = true := hd ⟨28, .chain⟩ (by simp) rfl
          subst d28
          obtain rfl := cd29.out rfl
          obtain rfl := cd30.out rfl
          obtain rfl := cd31.out rfl
          obtain rfl := cd28.out rfl
          clear hf hd
          try simp only [List.setIfInBounds_toArray, List.set_cons_zero, List.set_cons_succ]
          intro K hK
          rw [if_pos (by rfl)]
          go_simp
          go_at_call 33
          refine (HR3 _ hb).mono ?_
          rintro e w' ⟨ao2, c2, rfl, r2, bx⟩
          exact hK.out _ _ ⟨b0, b1, b2, b3, b4, b5, b6, b7, b8, b9, b10, b11, b12, b13, b14, b15, b16, b17, b18, b19, b20, b21, b22, b23, b24, b25, b26, b27, true, true, true, true, true, b33, b34, b35, b36, b37, b38, b39, b40, b41, b42, b43, b44, b45, b46, b47, b48, x84, x85, x86, x87, x88, x89, x90, x91, x92, x93, x94, x95, x96, x97, x98, x99, x100, x101, x102, x103, x104, x105, x106, x107, x108, x109, x110, x111, .bool true, .agg #[.string (bsOf NM), .slice (some ⟨g, 0, none⟩) N cg, .int .i64 (KI : Nat), .bool only, .slice ro rn rc], .agg #[.int .i64 0, .int .i64 0, .string ⟨#[]⟩], .agg #[.int .i64 qk, .int .i64 qm, .string qs], (.slice ao2 n3 c2), x117, x118, x119, x120, x121, x122, x123, x124, x125, x126, x127, x128, x129, x130, x131, x12, a1, c1_, a2, c2_, a3, c3_, a4, c4_, ao2, c2, a6, c6_, a7, c7_, (by simp only [Act.put, List.setIfInBounds_toArray, List.set_cons_zero, List.set_cons_succ]), (by simp only [Act.put, List.setIfInBounds_toArray, List.set_cons_zero, List.set_cons_succ]), hb.trans (bx.mono (Nat.le_trans hB0 hb.size)), cd0, cd1, cd2, cd3, cd4, cd5, cd6, cd7, cd8, cd9, cd10, cd11, cd12, cd13, cd14, cd15, cd16, cd17, cd18, cd19, cd20, cd21, cd22, cd23, cd24, cd25, cd26, cd27, (fun _ => rfl), (fun _ => rfl), (fun _ => rfl), (fun _ => rfl), (fun _ => rfl), cd33, cd34, cd35, cd36, cd37, cd38, cd39, cd40, cd41, cd42, cd43, cd44, cd45, cd46, cd47, cd48, (fun h0 => (f_r3.out h0).past bx), (fun h0 => (f_r7.out h0).past bx), (fun h0 => (f_r17.out h0).past bx), (fun h0 => (f_r25.out h0).past bx), (fun _ => r2), (fun h0 => (f_r36.out h0).past bx), (fun h0 => (f_r43.out h0).past bx)⟩
        · rintro L a w ⟨b0, b1, b2, b3, b4, b5, b6, b7, b8, b9, b10, b11, b12, b13, b14, b15, b16, b17, b18, b19, b20, b21, b22, b23, b24, b25, b26, b27, b28, b29, b30, b31, b32, b33, b34, b35, b36, b37, b38, b39, b40, b41, b42, b43, b44, b45, b46, b47, b48, x84, x85, x86, x87, x88, x89, x90, x91, x92, x93, x94, x95, x96, x97, x98, x99, x100, x101, x102, x103, x104, x105, x106, x107, x108, x109, x110, x111, x112, x113, x114, x115, x116, x117, x118, x119, x120, x121, x122, x123, x124, x125, x126, x127, x128, x129, x130, x131, x12, a1, c1_, a2, c2_, a3, c3_, a4, c4_, a5, c5_, a6, c6_, a7, c7_, rfl, rfl, hb, cd0, cd1, cd2, cd3, cd4, cd5, cd6, cd7, cd8, cd9, cd10, cd11, cd12, cd13, cd14, cd15, cd16, cd17, cd18, cd19, cd20, cd21, cd22, cd23, cd24, cd25, cd26, cd27, cd28, cd29, cd30, cd31, cd32, cd33, cd34, cd35, cd36, cd37, cd38, cd39, cd40, cd41, cd42, cd43, cd44, cd45, cd46, cd47, cd48, f_r3, f_r7, f_r17, f_r25, f_r32, f_r36, f_r43⟩ hf hd
          have hf' : b33 = false := hf
          subst hf'
          have d28 : b28 = true := hd ⟨28, .guard⟩ (by simp) rfl
          subst d28
          obtain rfl := cd28.out rfl
          clear hf hd
          try simp only [List.setIfInBounds_toArray, List.set_cons_zero, List.set_cons_succ]
          have z0 := (hb.cell hgtB).trans t0
          have z1 := (hb.cell hgtB).trans t1
          have z2 := (hb.cell hgtB).trans t2
          have z3 := (hb.cell hgtB).trans t3
          have z4 := (hb.cell hgtB).trans t4
          intro K hK
          rw [if_pos (by rfl)]
          go_simp
          exact hK.out _ _ ⟨b0, b1, b2, b3, b4, b5, b6, b7, b8, b9, b10, b11, b12, b13, b14, b15, b16, b17, b18, b19, b20, b21, b22, b23, b24, b25, b26, b27, true, b29, b30, b31, b32, true, b34, b35, b36, b37, b38, b39, b40, b41, b42, b43, b44, b45, b46, b47, b48, x84, x85, x86, x87, x88, x89, x90, x91, x92, x93, x94, x95, x96, x97, x98, x99, x100, x101, x102, x103, x104, x105, x106, x107, x108, x109, x110, x111, .bool true, x113, x114, x115, x116, (.agg #[.string (bsOf NM), .slice (some ⟨g, 0, none⟩) N cg, .int .i64 (KI : Nat), .bool only, .slice ro rn rc]), x118, x119, x120, x121, x122, x123, x124, x125, x126, x127, x128, x129, x130, x131, x12, a1, c1_, a2, c2_, a3, c3_, a4, c4_, a5, c5_, a6, c6_, a7, c7_, (by simp only [Act.put, List.setIfInBounds_toArray, List.set_cons_zero, List.set_cons_succ]), (by simp only [Act.put, List.setIfInBounds_toArray, List.set_cons_zero, List.set_cons_succ]), hb, cd0, cd1, cd2, cd3, cd4, cd5, cd6, cd7, cd8, cd9, cd10, cd11, cd12, cd13, cd14, cd15, cd16, cd17, cd18, cd19, cd20, cd21, cd22, cd23, cd24, cd25, cd26, cd27, (fun _ => rfl), cd29, cd30, cd31, cd32, (fun _ => rfl), cd34, cd35, cd36, cd37, cd38, cd39, cd40, cd41, cd42, cd43, cd44, cd45, cd46, cd47, cd48, f_r3, f_r7, f_r17, f_r25, f_r32, f_r36, f_r43⟩
        · rintro L a w ⟨b0, b1, b2, b3, b4, b5, b6, b7, b8, b9, b10, b11, b12, b13, b14, b15, b16, b17, b18, b19, b20, b21, b22, b23, b24, b25, b26, b27, b28, b29, b30, b31, b32, b33, b34, b35, b36, b37, b38, b39, b40, b41, b42, b43, b44, b45, b46, b47, b48, x84, x85, x86, x87, x88, x89, x90, x91, x92, x93, x94, x95, x96, x97, x98, x99, x100, x101, x102, x103, x104, x105, x106, x107, x108, x109, x110, x111, x112, x113, x114, x115, x116, x117, x118, x119, x120, x121, x122, x123, x124, x125, x126, x127, x128, x129, x130, x131, x12, a1, c1_, a2, c2_, a3, c3_, a4, c4_, a5, c5_, a6, c6_, a7, c7_, rfl, rfl, hb, cd0, cd1, cd2, cd3, cd4, cd5, cd6, cd7, cd8, cd9, cd10, cd11, cd12, cd13, cd14, cd15, cd16, cd17, cd18, cd19, cd20, cd21, cd22, cd23, cd24, cd25, cd26, cd27, cd28, cd29, cd30, cd31, cd32, cd33, cd34, cd35, cd36, cd37, cd38, cd39, cd40, cd41, cd42, cd43, cd44, cd45, cd46, cd47, cd48, f_r3, f_r7, f_r17, f_r25, f_r32, f_r36, f_r43⟩ hf hd
          have hf' : b34 = false := hf
          subst hf'
          have d28 : b28 = true := hd ⟨28, .guard⟩ (by simp) rfl
          subst d28
          obtain rfl := cd28.out rfl
          clear hf hd
          try simp only [List.setIfInBounds_toArray, List.set_cons_zero, List.set_cons_succ]
          have z0 := (hb.cell hgnB).trans N0
          have z1 := (hb.cell hgnB).trans N1
          have z2 := (hb.cell hgnB).trans N2
          intro K hK
          rw [if_pos (by rfl)]
          go_simp
          exact hK.out _ _ ⟨b0, b1, b2, b3, b4, b5, b6, b7, b8, b9, b10, b11, b12, b13, b14, b15, b16, b17, b18, b19, b20, b21, b22, b23, b24, b25, b26, b27, true, b29, b30, b31, b32, b33, true, b35, b36, b37, b38, b39, b40, b41, b42, b43, b44, b45, b46, b47, b48, x84, x85, x86, x87, x88, x89, x90, x91, x92, x93, x94, x95, x96, x97, x98, x99, x100, x101, x102, x103, x104, x105, x106, x107, x108, x109, x110, x111, .bool true, x113, x114, x115, x116, x117, (.agg #[.int .i64 0, .int .i64 0, .string ⟨#[]⟩]), x119, x120, x121, x122, x123, x124, x125, x126, x127, x128, x129, x130, x131, x12, a1, c1_, a2, c2_, a3, c3_, a4, c4_, a5, c5_, a6, c6_, a7, c7_, (by simp only [Act.put, List.setIfInBounds_toArray, List.set_cons_zero, List.set_cons_succ]), (by simp only [Act.put, List.setIfInBounds_toArray, List.set_cons_zero, List.set_cons_succ]), hb, cd0, cd1, cd2, cd3, cd4, cd5, cd6, cd7, cd8, cd9, cd10, cd11, cd12, cd13, cd14, cd15, cd16, cd17, cd18, cd19, cd20, cd21, cd22, cd23, cd24, cd25, cd26, cd27, (fun _ => rfl), cd29, cd30, cd31, cd32, cd33, (fun _ => rfl), cd35, cd36, cd37, cd38, cd39, cd40, cd41, cd42, cd43, cd44, cd45, cd46, cd47, cd48, f_r3, f_r7, f_r17, f_r25, f_r32, f_r36, f_r43⟩
        · rintro L a w ⟨b0, b1, b2, b3, b4, b5, b6, b7, b8, b9, b10, b11, b12, b13, b14, b15, b16, b17, b18, b19, b20, b21, b22, b23, b24, b25, b26, b27, b28, b29, b30, b31, b32, b33, b34, b35, b36, b37, b38, b39, b40, b41, b42, b43, b44, b45, b46, b47, b48, x84, x85, x86, x87, x88, x89, x90, x91, x92, x93, x94, x95, x96, x97, x98, x99, x100, x101, x102, x103, x104, x105, x106, x107, x108, x109, x110, x111, x112, x113, x114, x115, x116, x117, x118, x119, x120, x121, x122, x123, x124, x125, x126, x127, x128, x129, x130, x131, x12, a1, c1_, a2, c2_, a3, c3_, a4, c4_, a5, c5_, a6, c6_, a7, c7_, rfl, rfl, hb, cd0, cd1, cd2, cd3, cd4, cd5, cd6, cd7, cd8, cd9, cd10, cd11, cd12, cd13, cd14, cd15, cd16, cd17, cd18, cd19, cd20, cd21, cd22, cd23, cd24, cd25, cd26, cd27, cd28, cd29, cd30, cd31, cd32, cd33, cd34, cd35, cd36, cd37, cd38, cd39, cd40, cd41, cd42, cd43, cd44, cd45, cd46, cd47, cd48, f_r3, f_r7, f_r17, f_r25, f_r32, f_r36, f_r43⟩ hf hd
          have hf' : b35 = false := hf
          subst hf'
          have d28 : b28 = true := hd ⟨28, .guard⟩ (by simp) rfl
          subst d28
          obtain rfl := cd28.out rfl
          clear hf hd
          try simp only [List.setIfInBounds_toArray, List.set_cons_zero, List.set_cons_succ]
          have z0 := (hb.cell hgqB).trans Q0
          have z1 := (hb.cell hgqB).trans Q1
          have z2 := (hb.cell hgqB).trans Q2
          intro K hK
          rw [if_pos (by rfl)]
          go_simp
          exact hK.out _ _ ⟨b0, b1, b2, b3, b4, b5, b6, b7, b8, b9, b10, b11, b12, b13, b14, b15, b16, b17, b18, b19, b20, b21, b22, b23, b24, b25, b26, b27, true, b29, b30, b31, b32, b33, b34, true, b36, b37, b38, b39, b40, b41, b42, b43, b44, b45, b46, b47, b48, x84, x85, x86, x87, x88, x89, x90, x91, x92, x93, x94, x95, x96, x97, x98, x99, x100, x101, x102, x103, x104, x105, x106, x107, x108, x109, x110, x111, .bool true, x113, x114, x115, x116, x117, x118, (.agg #[.int .i64 qk, .int .i64 qm, .string qs]), x120, x121, x122, x123, x124, x125, x126, x127, x128, x129, x130, x131, x12, a1, c1_, a2, c2_, a3, c3_, a4, c4_, a5, c5_, a6, c6_, a7, c7_, (by simp only [Act.put, List.setIfInBounds_toArray, List.set_cons_zero, List.set_cons_succ]), (by simp only [Act.put, List.setIfInBounds_toArray, List.set_cons_zero, List.set_cons_succ]), hb, cd0, cd1, cd2, cd3, cd4, cd5, cd6, cd7, cd8, cd9, cd10, cd11, cd12, cd13, cd14, cd15, cd16, cd17, cd18, cd19, cd20, cd21, cd22, cd23, cd24, cd25, cd26, cd27, (fun _ => rfl), cd29, cd30, cd31, cd32, cd33, cd34, (fun _ => rfl), cd36, cd37, cd38, cd39, cd40, cd41, cd42, cd43, cd44, cd45, cd46, cd47, cd48, f_r3, f_r7, f_r17, f_r25, f_r32, f_r36, f_r43⟩
        · rintro L a w ⟨b0, b1, b2, b3, b4, b5, b6, b7, b8, b9, b10, b11, b12, b13, b14, b15, b16, b17, b18, b19, b20, b21, b22, b23, b24, b25, b26, b27, b28, b29, b30, b31, b32, b33, b34, b35, b36, b37, b38, b39, b40, b41, b42, b43, b44, b45, b46, b47, b48, x84, x85, x86, x87, x88, x89, x90, x91, x92, x93, x94, x95, x96, x97, x98, x99, x100, x101, x102, x103, x104, x105, x106, x107, x108, x109, x110, x111, x112, x113, x114, x115, x116, x117, x118, x119, x120, x121, x122, x123, x124, x125, x126, x127, x128, x129, x130, x131, x12, a1, c1_, a2, c2_, a3, c3_, a4, c4_, a5, c5_, a6, c6_, a7, c7_, rfl, rfl, hb, cd0, cd1, cd2, cd3, cd4, cd5, cd6, cd7, cd8, cd9, cd10, cd11, cd12, cd13, cd14, cd15, cd16, cd17, cd18, cd19, cd20, cd21, cd22, cd23, cd24, cd25, cd26, cd27, cd28, cd29, cd30, cd31, cd32, cd33, cd34, cd35, cd36, cd37, cd38, cd39, cd40, cd41, cd42, cd43, cd44, cd45, cd46, cd47, cd48, f_r3, f_r7, f_r17, f_r25, f_r32, f_r36, f_r43⟩ hf hd
          have hf' : b36 = false := hf
          subst hf'
          have d33 : b33 = true := hd ⟨33, .data⟩ (by simp) rfl
          subst d33
          have d34 : b34 = true := hd ⟨34, .data⟩ (by simp) rfl
          subst d34
          have d35 : b35 = true := hd ⟨35, .data⟩ (by simp) rfl
          subst d35
          have d32 : b32 = true := hd ⟨32, .chain⟩ (by simp) rfl
          subst d32
          have d28 : b28 = true := hd ⟨28, .guard⟩ (by simp) rfl
          subst d28
          obtain rfl := cd33.out rfl
          obtain rfl := cd34.out rfl
          obtain rfl := cd35.out rfl
          obtain rfl := cd32.out rfl
          obtain rfl := cd28.out rfl
          clear hf hd
          have W_r32 := f_r32.out rfl
          try simp only [List.setIfInBounds_toArray, List.set_cons_zero, List.set_cons_succ]
          intro K hK
          rw [if_pos (by rfl)]
          go_simp
          go_at_call 34
          refine (HS3 _ hb).mono ?_
          rintro e w' ⟨ao2, c2, rfl, r2, bx⟩
          exact hK.out _ _ ⟨b0, b1, b2, b3, b4, b5, b6, b7, b8, b9, b10, b11, b12, b13, b14, b15, b16, b17, b18, b19, b20, b21, b22, b23, b24, b25, b26, b27, true, b29, b30, b31, true, true, true, true, true, b37, b38, b39, b40, b41, b42, b43, b44, b45, b46, b47, b48, x84, x85, x86, x87, x88, x89, x90, x91, x92, x93, x94, x95, x96, x97, x98, x99, x100, x101, x102, x103, x104, x105, x106, x107, x108, x109, x110, x111, .bool true, x113, x114, x115, .slice a5 n3 c5_, .agg #[.string (bsOf NM), .slice (some ⟨g, 0, none⟩) N cg, .int .i64 (KI : Nat), .bool only, .slice ro rn rc], .agg #[.int .i64 0, .int .i64 0, .string ⟨#[]⟩], .agg #[.int .i64 qk, .int .i64 qm, .string qs], (.slice ao2 n3 c2), x121, x122, x123, x124, x125, x126, x127, x128, x129, x130, x131, x12, a1, c1_, a2, c2_, a3, c3_, a4, c4_, a5, c5_, ao2, c2, a7, c7_, (by simp only [Act.put, List.setIfInBounds_toArray, List.set_cons_zero, List.set_cons_succ]), (by simp only [Act.put, List.setIfInBounds_toArray, List.set_cons_zero, List.set_cons_succ]), hb.trans (bx.mono (Nat.le_trans hB0 hb.size)), cd0, cd1, cd2, cd3, cd4, cd5, cd6, cd7, cd8, cd9, cd10, cd11, cd12, cd13, cd14, cd15, cd16, cd17, cd18, cd19, cd20, cd21, cd22, cd23, cd24, cd25, cd26, cd27, (fun _ => rfl), cd29, cd30, cd31, (fun _ => rfl), (fun _ => rfl), (fun _ => rfl), (fun _ => rfl), (fun _ => rfl), cd37, cd38, cd39, cd40, cd41, cd42, cd43, cd44, cd45, cd46, cd47, cd48, (fun h0 => (f_r3.out h0).past bx), (fun h0 => (f_r7.out h0).past bx), (fun h0 => (f_r17.out h0).past bx), (fun h0 => (f_r25.out h0).past bx), (fun h0 => (f_r32.out h0).past bx), (fun _ => r2), (fun h0 => (f_r43.out h0).past bx)⟩
        · rintro L a w ⟨b0, b1, b2, b3, b4, b5, b6, b7, b8, b9, b10, b11, b12, b13, b14, b15, b16, b17, b18, b19, b20, b21, b22, b23, b24, b25, b26, b27, b28, b29, b30, b31, b32, b33, b34, b35, b36, b37, b38, b39, b40, b41, b42, b43, b44, b45, b46, b47, b48, x84, x85, x86, x87, x88, x89, x90, x91, x92, x93, x94, x95, x96, x97, x98, x99, x100, x101, x102, x103, x104, x105, x106, x107, x108, x109, x110, x111, x112, x113, x114, x115, x116, x117, x118, x119, x120, x121, x122, x123, x124, x125, x126, x127, x128, x129, x130, x131, x12, a1, c1_, a2, c2_, a3, c3_, a4, c4_, a5, c5_, a6, c6_, a7, c7_, rfl, rfl, hb, cd0, cd1, cd2, cd3, cd4, cd5, cd6, cd7, cd8, cd9, cd10, cd11, cd12, cd13, cd14, cd15, cd16, cd17, cd18, cd19, cd20, cd21, cd22, cd23, cd24, cd25, cd26, cd27, cd28, cd29, cd30, cd31, cd32, cd33, cd34, cd35, cd36, cd37, cd38, cd39, cd40, cd41, cd42, cd43, cd44, cd45, cd46, cd47, cd48, f_r3, f_r7, f_r17, f_r25, f_r32, f_r36, f_r43⟩ hf hd
          have hf' : b37 = false := hf
          subst hf'
          have d32 : b32 = true := hd ⟨32, .data⟩ (by simp) rfl
          subst d32
          have d36 : b36 = true := hd ⟨36, .data⟩ (by simp) rfl
          subst d36
          have d28 : b28 = true := hd ⟨28, .guard⟩ (by simp) rfl
          subst d28
          obtain rfl := cd32.out rfl
          obtain rfl := cd36.out rfl
          obtain rfl := cd28.out rfl
          clear hf hd
          have W_r32 := f_r32.out rfl
          have W_r36 := f_r36.out rfl
          try simp only [List.setIfInBounds_toArray, List.set_cons_zero, List.set_cons_succ]
          intro K hK
          rw [if_pos (by rfl)]
          go_simp
          go_at_call 32
          refine (HW3 _ _ _ _ _ W_r32 W_r36).mono ?_
          rintro e w' ⟨rfl, bx⟩
          exact hK.out _ _ ⟨b0, b1, b2, b3, b4, b5, b6, b7, b8, b9, b10, b11, b12, b13, b14, b15, b16, b17, b18, b19, b20, b21, b22, b23, b24, b25, b26, b27, true, b29, b30, b31, true, b33, b34, b35, true, true, b38, b39, b40, b41, b42, b43, b44, b45, b46, b47, b48, x84, x85, x86, x87, x88, x89, x90, x91, x92, x93, x94, x95, x96, x97, x98, x99, x100, x101, x102, x103, x104, x105, x106, x107, x108, x109, x110, x111, .bool true, x113, x114, x115, .slice a5 n3 c5_, x117, x118, x119, .slice a6 n3 c6_, (.bool true), x122, x123, x124, x125, x126, x127, x128, x129, x130, x131, x12, a1, c1_, a2, c2_, a3, c3_, a4, c4_, a5, c5_, a6, c6_, a7, c7_, (by simp only [Act.put, List.setIfInBounds_toArray, List.set_cons_zero, List.set_cons_succ]), (by simp only [Act.put, List.setIfInBounds_toArray, List.set_cons_zero, List.set_cons_succ]), hb.trans (bx.mono (Nat.le_trans hB0 hb.size)), cd0, cd1, cd2, cd3, cd4, cd5, cd6, cd7, cd8, cd9, cd10, cd11, cd12, cd13, cd14, cd15, cd16, cd17, cd18, cd19, cd20, cd21, cd22, cd23, cd24, cd25, cd26, cd27, (fun _ => rfl), cd29, cd30, cd31, (fun _ => rfl), cd33, cd34, cd35, (fun _ => rfl), (fun _ => rfl), cd38, cd39, cd40, cd41, cd42, cd43, cd44, cd45, cd46, cd47, cd48, (fun h0 => (f_r3.out h0).past bx), (fun h0 => (f_r7.out h0).past bx), (fun h0 => (f_r17.out h0).past bx), (fun h0 => (f_r25.out h0).past bx), (fun h0 => (f_r32.out h0).past bx), (fun h0 => (f_r36.out h0).past bx), (fun h0 => (f_r43.out h0).past bx)⟩
        · rintro L a w ⟨b0, b1, b2, b3, b4, b5, b6, b7, b8, b9, b10, b11, b12, b13, b14, b15, b16, b17, b18, b19, b20, b21, b22, b23, b24, b25, b26, b27, b28, b29, b30, b31, b32, b33, b34, b35, b36, b37, b38, b39, b40, b41, b42, b43, b44, b45, b46, b47, b48, x84, x85, x86, x87, x88, x89, x90, x91, x92, x93, x94, x95, x96, x97, x98, x99, x100, x101, x102, x103, x104, x105, x106, x107, x108, x109, x110, x111, x112, x113, x114, x115, x116, x117, x118, x119, x120, x121, x122, x123, x124, x125, x126, x127, x128, x129, x130, x131, x12, a1, c1_, a2, c2_, a3, c3_, a4, c4_, a5, c5_, a6, c6_, a7, c7_, rfl, rfl, hb, cd0, cd1, cd2, cd3, cd4, cd5, cd6, cd7, cd8, cd9, cd10, cd11, cd12, cd13, cd14, cd15, cd16, cd17, cd18, cd19, cd20, cd21, cd22, cd23, cd24, cd25, cd26, cd27, cd28, cd29, cd30, cd31, cd32, cd33, cd34, cd35, cd36, cd37, cd38, cd39, cd40, cd41, cd42, cd43, cd44, cd45, cd46, cd47, cd48, f_r3, f_r7, f_r17, f_r25, f_r32, f_r36, f_r43⟩ hf hd
          have hf' : b38 = false := hf
          subst hf'
          have d28 : b28 = true := hd ⟨28, .data⟩ (by simp) rfl
          subst d28
          have d37 : b37 = true := hd ⟨37, .data⟩ (by simp) rfl
          subst d37
          obtain rfl := cd28.out rfl
          obtain rfl := cd37.out rfl
          clear hf hd
          try simp only [List.setIfInBounds_toArray, List.set_cons_zero, List.set_cons_succ]
          intro K hK
          rw [if_pos (by rfl)]
          go_simp
          exact hK.out _ _ ⟨b0, b1, b2, b3, b4, b5, b6, b7, b8, b9, b10, b11, b12, b13, b14, b15, b16, b17, b18, b19, b20, b21, b22, b23, b24, b25, b26, b27, true, b29, b30, b31, b32, b33, b34, b35, b36, true, true, b39, b40, b41, b42, b43, b44, b45, b46, b47, b48, x84, x85, x86, x87, x88, x89, x90, x91, x92, x93, x94, x95, x96, x97, x98, x99, x100, x101, x102, x103, x104, x105, x106, x107, x108, x109, x110, x111, .bool true, x113, x114, x115, x116, x117, x118, x119, x120, .bool true, (.bool true), x123, x124, x125, x126, x127, x128, x129, x130, x131, x12, a1, c1_, a2, c2_, a3, c3_, a4, c4_, a5, c5_, a6, c6_, a7, c7_, (by simp only [Act.put, List.setIfInBounds_toArray, List.set_cons_zero, List.set_cons_succ]), (by simp only [Act.put, List.setIfInBounds_toArray, List.set_cons_zero, List.set_cons_succ]), hb, cd0, cd1, cd2, cd3, cd4, cd5, cd6, cd7, cd8, cd9, cd10, cd11, cd12, cd13, cd14, cd15, cd16, cd17, cd18, cd19, cd20, cd21, cd22, cd23, cd24, cd25, cd26, cd27, (fun _ => rfl), cd29, cd30, cd31, cd32, cd33, cd34, cd35, cd36, (fun _ => rfl), (fun _ => rfl), cd39, cd40, cd41, cd42, cd43, cd44, cd45, cd46, cd47, cd48, f_r3, f_r7, f_r17, f_r25, f_r32, f_r36, f_r43⟩
        · rintro L a w ⟨b0, b1, b2, b3, b4, b5, b6, b7, b8, b9, b10, b11, b12, b13, b14, b15, b16, b17, b18, b19, b20, b21, b22, b23, b24, b25, b26, b27, b28, b29, b30, b31, b32, b33, b34, b35, b36, b37, b38, b39, b40, b41, b42, b43, b44, b45, b46, b47, b48, x84, x85, x86, x87, x88, x89, x90, x91, x92, x93, x94, x95, x96, x97, x98, x99, x100, x101, x102, x103, x104, x105, x106, x107, x108, x109, x110, x111, x112, x113, x114, x115, x116, x117, x118, x119, x120, x121, x122, x123, x124, x125, x126, x127, x128, x129, x130, x131, x12, a1, c1_, a2, c2_, a3, c3_, a4, c4_, a5, c5_, a6, c6_, a7, c7_, rfl, rfl, hb, cd0, cd1, cd2, cd3, cd4, cd5, cd6, cd7, cd8, cd9, cd10, cd11, cd12, cd13, cd14, cd15, cd16, cd17, cd18, cd19, cd20, cd21, cd22, cd23, cd24, cd25, cd26, cd27, cd28, cd29, cd30, cd31, cd32, cd33, cd34, cd35, cd36, cd37, cd38, cd39, cd40, cd41, cd42, cd43, cd44, cd45, cd46, cd47, cd48, f_r3, f_r7, f_r17, f_r25, f_r32, f_r36, f_r43⟩ hf hd
          have hf' : b39 = false := hf
          subst hf'
          have d38 : b38 = true := hd ⟨38, .data⟩ (by simp) rfl
          subst d38
          have d37 : b37 = true := hd ⟨37, .chain⟩ (by simp) rfl
          subst d37
          obtain rfl := cd38.out rfl
          obtain rfl := cd37.out rfl
          clear hf hd
          try simp only [List.setIfInBounds_toArray, List.set_cons_zero, List.set_cons_succ]
          intro K hK
          rw [if_pos (by rfl)]
          go_simp
          exact hK.out _ _ ⟨b0, b1, b2, b3, b4, b5, b6, b7, b8, b9, b10, b11, b12, b13, b14, b15, b16, b17, b18, b19, b20, b21, b22, b23, b24, b25, b26, b27, b28, b29, b30, b31, b32, b33, b34, b35, b36, true, true, true, b40, b41, b42, b43, b44, b45, b46, b47, b48, x84, x85, x86, x87, x88, x89, x90, x91, x92, x93, x94, x95, x96, x97, x98, x99, x100, x101, x102, x103, x104, x105, x106, x107, x108, x109, x110, x111, x112, x113, x114, x115, x116, x117, x118, x119, x120, .bool true, .bool true, (.bool true), x124, x125, x126, x127, x128, x129, x130, x131, x12, a1, c1_, a2, c2_, a3, c3_, a4, c4_, a5, c5_, a6, c6_, a7, c7_, (by simp only [Act.put, List.setIfInBounds_toArray, List.set_cons_zero, List.set_cons_succ]), (by simp only [Act.put, List.setIfInBounds_toArray, List.set_cons_zero, List.set_cons_succ]), hb, cd0, cd1, cd2, cd3, cd4, cd5, cd6, cd7, cd8, cd9, cd10, cd11, cd12, cd13, cd14, cd15, cd16, cd17, cd18, cd19, cd20, cd21, cd22, cd23, cd24, cd25, cd26, cd27, cd28, cd29, cd30, cd31, cd32, cd33, cd34, cd35, cd36, (fun _ => rfl), (fun _ => rfl), (fun _ => rfl), cd40, cd41, cd42, cd43, cd44, cd45, cd46, cd47, cd48, f_r3, f_r7, f_r17, f_r25, f_r32, f_r36, f_r43⟩
        · rintro L a w ⟨b0, b1, b2, b3, b4, b5, b6, b7, b8, b9, b10, b11, b12, b13, b14, b15, b16, b17, b18, b19, b20, b21, b22, b23, b24, b25, b26, b27, b28, b29, b30, b31, b32, b33, b34, b35, b36, b37, b38, b39, b40, b41, b42, b43, b44, b45, b46, b47, b48, x84, x85, x86, x87, x88, x89, x90, x91, x92, x93, x94, x95, x96, x97, x98, x99, x100, x101, x102, x103, x104, x105, x106, x107, x108, x109, x110, x111, x112, x113, x114, x115, x116, x117, x118, x119, x120, x121, x122, x123, x124, x125, x126, x127, x128, x129, x130, x131, x12, a1, c1_, a2, c2_, a3, c3_, a4, c4_, a5, c5_, a6, c6_, a7, c7_, rfl, rfl, hb, cd0, cd1, cd2, cd3, cd4, cd5, cd6, cd7, cd8, cd9, cd10, cd11, cd12, cd13, cd14, cd15, cd16, cd17, cd18, cd19, cd20, cd21, cd22, cd23, cd24, cd25, cd26, cd27, cd28, cd29, cd30, cd31, cd32, cd33, cd34, cd35, cd36, cd37, cd38, cd39, cd40, cd41, cd42, cd43, cd44, cd45, cd46, cd47, cd48, f_r3, f_r7, f_r17, f_r25, f_r32, f_r36, f_r43⟩ hf hd
          have hf' : b40 = false := hf
          subst hf'
          have d39 : b39 = true := hd ⟨39, .guard⟩ (by simp) rfl
          subst d39
          obtain rfl := cd39.out rfl
          clear hf hd
          try simp only [List.setIfInBounds_toArray, List.set_cons_zero, List.set_cons_succ]
          have z0 := (hb.cell hgoB).trans o0
          have z1 := (hb.cell hgoB).trans o1
          have z2 := (hb.cell hgoB).trans o2
          have z3 := (hb.cell hgoB).trans o3
          have z4 := (hb.cell hgoB).trans o4
          intro K hK
          rw [if_pos (by rfl)]
          go_simp
          exact hK.out _ _ ⟨b0, b1, b2, b3, b4, b5, b6, b7, b8, b9, b10, b11, b12, b13, b14, b15, b16, b17, b18, b19, b20, b21, b22, b23, b24, b25, b26, b27, b28, b29, b30, b31, b32, b33, b34, b35, b36, b37, b38, true, true, b41, b42, b43, b44, b45, b46, b47, b48, x84, x85, x86, x87, x88, x89, x90, x91, x92, x93, x94, x95, x96, x97, x98, x99, x100, x101, x102, x103, x104, x105, x106, x107, x108, x109, x110, x111, x112, x113, x114, x115, x116, x117, x118, x119, x120, x121, x122, .bool true, (.agg #[.string (bsOf NM), .slice (some ⟨g, 0, none⟩) N cg, .int .i64 (KI : Nat), .bool only, .slice ro rn rc]), x125, x126, x127, x128, x129, x130, x131, x12, a1, c1_, a2, c2_, a3, c3_, a4, c4_, a5, c5_, a6, c6_, a7, c7_, (by simp only [Act.put, List.setIfInBounds_toArray, List.set_cons_zero, List.set_cons_succ]), (by simp only [Act.put, List.setIfInBounds_toArray, List.set_cons_zero, List.set_cons_succ]), hb, cd0, cd1, cd2, cd3, cd4, cd5, cd6, cd7, cd8, cd9, cd10, cd11, cd12, cd13, cd14, cd15, cd16, cd17, cd18, cd19, cd20, cd21, cd22, cd23, cd24, cd25, cd26, cd27, cd28, cd29, cd30, cd31, cd32, cd33, cd34, cd35, cd36, cd37, cd38, (fun _ => rfl), (fun _ => rfl), cd41, cd42, cd43, cd44, cd45, cd46, cd47, cd48, f_r3, f_r7, f_r17, f_r25, f_r32, f_r36, f_r43⟩
        · rintro L a w ⟨b0, b1, b2, b3, b4, b5, b6, b7, b8, b9, b10, b11, b12, b13, b14, b15, b16, b17, b18, b19, b20, b21, b22, b23, b24, b25, b26, b27, b28, b29, b30, b31, b32, b33, b34, b35, b36, b37, b38, b39, b40, b41, b42, b43, b44, b45, b46, b47, b48, x84, x85, x86, x87, x88, x89, x90, x91, x92, x93, x94, x95, x96, x97, x98, x99, x100, x101, x102, x103, x104, x105, x106, x107, x108, x109, x110, x111, x112, x113, x114, x115, x116, x117, x118, x119, x120, x121, x122, x123, x124, x125, x126, x127, x128, x129, x130, x131, x12, a1, c1_, a2, c2_, a3, c3_, a4, c4_, a5, c5_, a6, c6_, a7, c7_, rfl, rfl, hb, cd0, cd1, cd2, cd3, cd4, cd5, cd6, cd7, cd8, cd9, cd10, cd11, cd12, cd13, cd14, cd15, cd16, cd17, cd18, cd19, cd20, cd21, cd22, cd23, cd24, cd25, cd26, cd27, cd28, cd29, cd30, cd31, cd32, cd33, cd34, cd35, cd36, cd37, cd38, cd39, cd40, cd41, cd42, cd43, cd44, cd45, cd46, cd47, cd48, f_r3, f_r7, f_r17, f_r25, f_r32, f_r36, f_r43⟩ hf hd
          have hf' : b41 = false := hf
          subst hf'
          have d39 : b39 = true := hd ⟨39, .guard⟩ (by simp) rfl
          subst d39
          obtain rfl := cd39.out rfl
          clear hf hd
          try simp only [List.setIfInBounds_toArray, List.set_cons_zero, List.set_cons_succ]
          have z0 := (hb.cell hgnB).trans N0
          have z1 := (hb.cell hgnB).trans N1
          have z2 := (hb.cell hgnB).trans N2
          intro K hK
          rw [if_pos (by rfl)]
          go_simp
          exact hK.out _ _ ⟨b0, b1, b2, b3, b4, b5, b6, b7, b8, b9, b10, b11, b12, b13, b14, b15, b16, b17, b18, b19, b20, b21, b22, b23, b24, b25, b26, b27, b28, b29, b30, b31, b32, b33, b34, b35, b36, b37, b38, true, b40, true, b42, b43, b44, b45, b46, b47, b48, x84, x85, x86, x87, x88, x89, x90, x91, x92, x93, x94, x95, x96, x97, x98, x99, x100, x101, x102, x103, x104, x105, x106, x107, x108, x109, x110, x111, x112, x113, x114, x115, x116, x117, x118, x119, x120, x121, x122, .bool true, x124, (.agg #[.int .i64 0, .int .i64 0, .string ⟨#[]⟩]), x126, x127, x128, x129, x130, x131, x12, a1, c1_, a2, c2_, a3, c3_, a4, c4_, a5, c5_, a6, c6_, a7, c7_, (by simp only [Act.put, List.setIfInBounds_toArray, List.set_cons_zero, List.set_cons_succ]), (by simp only [Act.put, List.setIfInBounds_toArray, List.set_cons_zero, List.set_cons_succ]), hb, cd0, cd1, cd2, cd3, cd4, cd5, cd6, cd7, cd8, cd9, cd10, cd11, cd12, cd13, cd14, cd15, cd16, cd17, cd18, cd19, cd20, cd21, cd22, cd23, cd24, cd25, cd26, cd27, cd28, cd29, cd30, cd31, cd32, cd33, cd34, cd35, cd36, cd37, cd38, (fun _ => rfl), cd40, (fun _ => rfl), cd42, cd43, cd44, cd45, cd46, cd47, cd48, f_r3, f_r7, f_r17, f_r25, f_r32, f_r36, f_r43⟩
        · rintro L a w ⟨b0, b1, b2, b3, b4, b5, b6, b7, b8, b9, b10, b11, b12, b13, b14, b15, b16, b17, b18, b19, b20, b21, b22, b23, b24, b25, b26, b27, b28, b29, b30, b31, b32, b33, b34, b35, b36, b37, b38, b39, b40, b41, b42, b43, b44, b45, b46, b47, b48, x84, x85, x86, x87, x88, x89, x90, x91, x92, x93, x94, x95, x96, x97, x98, x99, x100, x101, x102, x103, x104, x105, x106, x107, x108, x109, x110, x111, x112, x113, x114, x115, x116, x117, x118, x119, x120, x121, x122, x123, x124, x125, x126, x127, x128, x129, x130, x131, x12, a1, c1_, a2, c2_, a3, c3_, a4, c4_, a5, c5_, a6, c6_, a7, c7_, rfl, rfl, hb, cd0, cd1, cd2, cd3, cd4, cd5, cd6, cd7, cd8, cd9, cd10, cd11, cd12, cd13, cd14, cd15, cd16, cd17, cd18, cd19, cd20, cd21, cd22, cd23, cd24, cd25, cd26, cd27, cd28, cd29, cd30, cd31, cd32, cd33, cd34, cd35, cd36, cd37, cd38, cd39, cd40, cd41, cd42, cd43, cd44, cd45, cd46, cd47, cd48, f_r3, f_r7, f_r17, f_r25, f_r32, f_r36, f_r43⟩ hf hd
          have hf' : b42 = false := hf
          subst hf'
          have d39 : b39 = true := hd ⟨39, .guard⟩ (by simp) rfl
          subst d39
          obtain rfl := cd39.out rfl
          clear hf hd
          try simp only [List.setIfInBounds_toArray, List.set_cons_zero, List.set_cons_succ]
          have z0 := (hb.cell hgnB).trans N0
          have z1 := (hb.cell hgnB).trans N1
          have z2 := (hb.cell hgnB).trans N2
          intro K hK
          rw [if_pos (by rfl)]
          go_simp
          exact hK.out _ _ ⟨b0, b1, b2, b3, b4, b5, b6, b7, b8, b9, b10, b11, b12, b13, b14, b15, b16, b17, b18, b19, b20, b21, b22, b23, b24, b25, b26, b27, b28, b29, b30, b31, b32, b33, b34, b35, b36, b37, b38, true, b40, b41, true, b43, b44, b45, b46, b47, b48, x84, x85, x86, x87, x88, x89, x90, x91, x92, x93, x94, x95, x96, x97, x98, x99, x100, x101, x102, x103, x104, x105, x106, x107, x108, x109, x110, x111, x112, x113, x114, x115, x116, x117, x118, x119, x120, x121, x122, .bool true, x124, x125, (.agg #[.int .i64 0, .int .i64 0, .string ⟨#[]⟩]), x127, x128, x129, x130, x131, x12, a1, c1_, a2, c2_, a3, c3_, a4, c4_, a5, c5_, a6, c6_, a7, c7_, (by simp only [Act.put, List.setIfInBounds_toArray, List.set_cons_zero, List.set_cons_succ]), (by simp only [Act.put, List.setIfInBounds_toArray, List.set_cons_zero, List.set_cons_succ]), hb, cd0, cd1, cd2, cd3, cd4, cd5, cd6, cd7, cd8, cd9, cd10, cd11, cd12, cd13, cd14, cd15, cd16, cd17, cd18, cd19, cd20, cd21, cd22, cd23, cd24, cd25, cd26, cd27, cd28, cd29, cd30, cd31, cd32, cd33, cd34, cd35, cd36, cd37, cd38, (fun _ => rfl), cd40, cd41, (fun _ => rfl), cd43, cd44, cd45, cd46, cd47, cd48, f_r3, f_r7, f_r17, f_r25, f_r32, f_r36, f_r43⟩
        · rintro L a w ⟨b0, b1, b2, b3, b4, b5, b6, b7, b8, b9, b10, b11, b12, b13, b14, b15, b16, b17, b18, b19, b20, b21, b22, b23, b24, b25, b26, b27, b28, b29, b30, b31, b32, b33, b34, b35, b36, b37, b38, b39, b40, b41, b42, b43, b44, b45, b46, b47, b48, x84, x85, x86, x87, x88, x89, x90, x91, x92, x93, x94, x95, x96, x97, x98, x99, x100, x101, x102, x103, x104, x105, x106, x107, x108, x109, x110, x111, x112, x113, x114, x115, x116, x117, x118, x119, x120, x121, x122, x123, x124, x125, x126, x127, x128, x129, x130, x131, x12, a1, c1_, a2, c2_, a3, c3_, a4, c4_, a5, c5_, a6, c6_, a7, c7_, rfl, rfl, hb, cd0, cd1, cd2, cd3, cd4, cd5, cd6, cd7, cd8, cd9, cd10, cd11, cd12, cd13, cd14, cd15, cd16, cd17, cd18, cd19, cd20, cd21, cd22, cd23, cd24, cd25, cd26, cd27, cd28, cd29, cd30, cd31, cd32, cd33, cd34, cd35, cd36, cd37, cd38, cd39, cd40, cd41, cd42, cd43, cd44, cd45, cd46, cd47, cd48, f_r3, f_r7, f_r17, f_r25, f_r32, f_r36, f_r43⟩ hf hd
          have hf' : b43 = false := hf
          subst hf'
          have d40 : b40 = true := hd ⟨40, .data⟩ (by simp) rfl
          subst d40
          have d41 : b41 = true := hd ⟨41, .data⟩ (by simp) rfl
          subst d41
          have d42 : b42 = true := hd ⟨42, .data⟩ (by simp) rfl
          subst d42
          have d39 : b39 = true := hd ⟨39, .chain⟩ (by simp) rfl
          subst d39
          obtain rfl := cd40.out rfl
          obtain rfl := cd41.out rfl
          obtain rfl := cd42.out rfl
          obtain rfl := cd39.out rfl
          clear hf hd
          try simp only [List.setIfInBounds_toArray, List.set_cons_zero, List.set_cons_succ]
          intro K hK
          rw [if_pos (by rfl)]
          go_simp
          go_at_call 33
          refine (HR4 _ hb).mono ?_
          rintro e w' ⟨ao2, c2, rfl, r2, bx⟩
          exact hK.out _ _ ⟨b0, b1, b2, b3, b4, b5, b6, b7, b8, b9, b10, b11, b12, b13, b14, b15, b16, b17, b18, b19, b20, b21, b22, b23, b24, b25, b26, b27, b28, b29, b30, b31, b32, b33, b34, b35, b36, b37, b38, true, true, true, true, true, b44, b45, b46, b47, b48, x84, x85, x86, x87, x88, x89, x90, x91, x92, x93, x94, x95, x96, x97, x98, x99, x100, x101, x102, x103, x104, x105, x106, x107, x108, x109, x110, x111, x112, x113, x114, x115, x116, x117, x118, x119, x120, x121, x122, .bool true, .agg #[.string (bsOf NM), .slice (some ⟨g, 0, none⟩) N cg, .int .i64 (KI : Nat), .bool only, .slice ro rn rc], .agg #[.int .i64 0, .int .i64 0, .string ⟨#[]⟩], .agg #[.int .i64 0, .int .i64 0, .string ⟨#[]⟩], (.slice ao2 rn c2), x128, x129, x130, x131, x12, a1, c1_, a2, c2_, a3, c3_, a4, c4_, a5, c5_, a6, c6_, ao2, c2, (by simp only [Act.put, List.setIfInBounds_toArray, List.set_cons_zero, List.set_cons_succ]), (by simp only [Act.put, List.setIfInBounds_toArray, List.set_cons_zero, List.set_cons_succ]), hb.trans (bx.mono (Nat.le_trans hB0 hb.size)), cd0, cd1, cd2, cd3, cd4, cd5, cd6, cd7, cd8, cd9, cd10, cd11, cd12, cd13, cd14, cd15, cd16, cd17, cd18, cd19, cd20, cd21, cd22, cd23, cd24, cd25, cd26, cd27, cd28, cd29, cd30, cd31, cd32, cd33, cd34, cd35, cd36, cd37, cd38, (fun _ => rfl), (fun _ => rfl), (fun _ => rfl), (fun _ => rfl), (fun _ => rfl), cd44, cd45, cd46, cd47, cd48, (fun h0 => (f_r3.out h0).past bx), (fun h0 => (f_r7.out h0).past bx), (fun h0 => (f_r17.out h0).past bx), (fun h0 => (f_r25.out h0).past bx), (fun h0 => (f_r32.out h0).past bx), (fun h0 => (f_r36.out h0).past bx), (fun _ => r2)⟩
        · rintro L a w ⟨b0, b1, b2, b3, b4, b5, b6, b7, b8, b9, b10, b11, b12, b13, b14, b15, b16, b17, b18, b19, b20, b21, b22, b23, b24, b25, b26, b27, b28, b29, b30, b31, b32, b33, b34, b35, b36, b37, b38, b39, b40, b41, b42, b43, b44, b45, b46, b47, b48, x84, x85, x86, x87, x88, x89, x90, x91, x92, x93, x94, x95, x96, x97, x98, x99, x100, x101, x102, x103, x104, x105, x106, x107, x108, x109, x110, x111, x112, x113, x114, x115, x116, x117, x118, x119, x120, x121, x122, x123, x124, x125, x126, x127, x128, x129, x130, x131, x12, a1, c1_, a2, c2_, a3, c3_, a4, c4_, a5, c5_, a6, c6_, a7, c7_, rfl, rfl, hb, cd0, cd1, cd2, cd3, cd4, cd5, cd6, cd7, cd8, cd9, cd10, cd11, cd12, cd13, cd14, cd15, cd16, cd17, cd18, cd19, cd20, cd21, cd22, cd23, cd24, cd25, cd26, cd27, cd28, cd29, cd30, cd31, cd32, cd33, cd34, cd35, cd36, cd37, cd38, cd39, cd40, cd41, cd42, cd43, cd44, cd45, cd46, cd47, cd48, f_r3, f_r7, f_r17, f_r25, f_r32, f_r36, f_r43⟩ hf hd
          have hf' : b44 = false := hf
          subst hf'
          have d39 : b39 = true := hd ⟨39, .guard⟩ (by simp) rfl
          subst d39
          obtain rfl := cd39.out rfl
          clear hf hd
          try simp only [List.setIfInBounds_toArray, List.set_cons_zero, List.set_cons_succ]
          intro K hK
          rw [if_pos (by rfl)]
          go_simp
          exact hK.out _ _ ⟨b0, b1, b2, b3, b4, b5, b6, b7, b8, b9, b10, b11, b12, b13, b14, b15, b16, b17, b18, b19, b20, b21, b22, b23, b24, b25, b26, b27, b28, b29, b30, b31, b32, b33, b34, b35, b36, b37, b38, true, b40, b41, b42, b43, true, b45, b46, b47, b48, x84, x85, x86, x87, x88, x89, x90, x91, x92, x93, x94, x95, x96, x97, x98, x99, x100, x101, x102, x103, x104, x105, x106, x107, x108, x109, x110, x111, x112, x113, x114, x115, x116, x117, x118, x119, x120, x121, x122, .bool true, x124, x125, x126, x127, (.pointer (some ⟨gt, 4, none⟩)), x129, x130, x131, x12, a1, c1_, a2, c2_, a3, c3_, a4, c4_, a5, c5_, a6, c6_, a7, c7_, (by simp only [Act.put, List.setIfInBounds_toArray, List.set_cons_zero, List.set_cons_succ]), (by simp only [Act.put, List.setIfInBounds_toArray, List.set_cons_zero, List.set_cons_succ]), hb, cd0, cd1, cd2, cd3, cd4, cd5, cd6, cd7, cd8, cd9, cd10, cd11, cd12, cd13, cd14, cd15, cd16, cd17, cd18, cd19, cd20, cd21, cd22, cd23, cd24, cd25, cd26, cd27, cd28, cd29, cd30, cd31, cd32, cd33, cd34, cd35, cd36, cd37, cd38, (fun _ => rfl), cd40, cd41, cd42, cd43, (fun _ => rfl), cd45, cd46, cd47, cd48, f_r3, f_r7, f_r17, f_r25, f_r32, f_r36, f_r43⟩
        · rintro L a w ⟨b0, b1, b2, b3, b4, b5, b6, b7, b8, b9, b10, b11, b12, b13, b14, b15, b16, b17, b18, b19, b20, b21, b22, b23, b24, b25, b26, b27, b28, b29, b30, b31, b32, b33, b34, b35, b36, b37, b38, b39, b40, b41, b42, b43, b44, b45, b46, b47, b48, x84, x85, x86, x87, x88, x89, x90, x91, x92, x93, x94, x95, x96, x97, x98, x99, x100, x101, x102, x103, x104, x105, x106, x107, x108, x109, x110, x111, x112, x113, x114, x115, x116, x117, x118, x119, x120, x121, x122, x123, x124, x125, x126, x127, x128, x129, x130, x131, x12, a1, c1_, a2, c2_, a3, c3_, a4, c4_, a5, c5_, a6, c6_, a7, c7_, rfl, rfl, hb, cd0, cd1, cd2, cd3, cd4, cd5, cd6, cd7, cd8, cd9, cd10, cd11, cd12, cd13, cd14, cd15, cd16, cd17, cd18, cd19, cd20, cd21, cd22, cd23, cd24, cd25, cd26, cd27, cd28, cd29, cd30, cd31, cd32, cd33, cd34, cd35, cd36, cd37, cd38, cd39, cd40, cd41, cd42, cd43, cd44, cd45, cd46, cd47, cd48, f_r3, f_r7, f_r17, f_r25, f_r32, f_r36, f_r43⟩ hf hd
          have hf' : b45 = false := hf
          subst hf'
          have d44 : b44 = true := hd ⟨44, .data⟩ (by simp) rfl
          subst d44
          have d39 : b39 = true := hd ⟨39, .guard⟩ (by simp) rfl
          subst d39
          obtain rfl := cd44.out rfl
          obtain rfl := cd39.out rfl
          clear hf hd
          try simp only [List.setIfInBounds_toArray, List.set_cons_zero, List.set_cons_succ]
          have z0 := (hb.cell hgtB).trans t4
          intro K hK
          rw [if_pos (by rfl)]
          go_simp
          exact hK.out _ _ ⟨b0, b1, b2, b3, b4, b5, b6, b7, b8, b9, b10, b11, b12, b13, b14, b15, b16, b17, b18, b19, b20, b21, b22, b23, b24, b25, b26, b27, b28, b29, b30, b31, b32, b33, b34, b35, b36, b37, b38, true, b40, b41, b42, b43, true, true, b46, b47, b48, x84, x85, x86, x87, x88, x89, x90, x91, x92, x93, x94, x95, x96, x97, x98, x99, x100, x101, x102, x103, x104, x105, x106, x107, x108, x109, x110, x111, x112, x113, x114, x115, x116, x117, x118, x119, x120, x121, x122, .bool true, x124, x125, x126, x127, .pointer (some ⟨gt, 4, none⟩), (.slice ro rn rc), x130, x131, x12, a1, c1_, a2, c2_, a3, c3_, a4, c4_, a5, c5_, a6, c6_, a7, c7_, (by simp only [Act.put, List.setIfInBounds_toArray, List.set_cons_zero, List.set_cons_succ]), (by simp only [Act.put, List.setIfInBounds_toArray, List.set_cons_zero, List.set_cons_succ]), hb, cd0, cd1, cd2, cd3, cd4, cd5, cd6, cd7, cd8, cd9, cd10, cd11, cd12, cd13, cd14, cd15, cd16, cd17, cd18, cd19, cd20, cd21, cd22, cd23, cd24, cd25, cd26, cd27, cd28, cd29, cd30, cd31, cd32, cd33, cd34, cd35, cd36, cd37, cd38, (fun _ => rfl), cd40, cd41, cd42, cd43, (fun _ => rfl), (fun _ => rfl), cd46, cd47, cd48, f_r3, f_r7, f_r17, f_r25, f_r32, f_r36, f_r43⟩
        · rintro L a w ⟨b0, b1, b2, b3, b4, b5, b6, b7, b8, b9, b10, b11, b12, b13, b14, b15, b16, b17, b18, b19, b20, b21, b22, b23, b24, b25, b26, b27, b28, b29, b30, b31, b32, b33, b34, b35, b36, b37, b38, b39, b40, b41, b42, b43, b44, b45, b46, b47, b48, x84, x85, x86, x87, x88, x89, x90, x91, x92, x93, x94, x95, x96, x97, x98, x99, x100, x101, x102, x103, x104, x105, x106, x107, x108, x109, x110, x111, x112, x113, x114, x115, x116, x117, x118, x119, x120, x121, x122, x123, x124, x125, x126, x127, x128, x129, x130, x131, x12, a1, c1_, a2, c2_, a3, c3_, a4, c4_, a5, c5_, a6, c6_, a7, c7_, rfl, rfl, hb, cd0, cd1, cd2, cd3, cd4, cd5, cd6, cd7, cd8, cd9, cd10, cd11, cd12, cd13, cd14, cd15, cd16, cd17, cd18, cd19, cd20, cd21, cd22, cd23, cd24, cd25, cd26, cd27, cd28, cd29, cd30, cd31, cd32, cd33, cd34, cd35, cd36, cd37, cd38, cd39, cd40, cd41, cd42, cd43, cd44, cd45, cd46, cd47, cd48, f_r3, f_r7, f_r17, f_r25, f_r32, f_r36, f_r43⟩ hf hd
          have hf' : b46 = false := hf
          subst hf'
          have d43 : b43 = true := hd ⟨43, .data⟩ (by simp) rfl
          subst d43
          have d45 : b45 = true := hd ⟨45, .data⟩ (by simp) rfl
          subst d45
          have d39 : b39 = true := hd ⟨39, .guard⟩ (by simp) rfl
          subst d39
          obtain rfl := cd43.out rfl
          obtain rfl := cd45.out rfl
          obtain rfl := cd39.out rfl
          clear hf hd
          have W_r43 := f_r43.out rfl
          try simp only [List.setIfInBounds_toArray, List.set_cons_zero, List.set_cons_succ]
          intro K hK
          rw [if_pos (by rfl)]
          go_simp
          go_at_call 32
          refine (HW4 _ hb _ _ W_r43).mono ?_
          rintro e w' ⟨rfl, bx⟩
          exact hK.out _ _ ⟨b0, b1, b2, b3, b4, b5, b6, b7, b8, b9, b10, b11, b12, b13, b14, b15, b16, b17, b18, b19, b20, b21, b22, b23, b24, b25, b26, b27, b28, b29, b30, b31, b32, b33, b34, b35, b36, b37, b38, true, b40, b41, b42, true, b44, true, true, b47, b48, x84, x85, x86, x87, x88, x89, x90, x91, x92, x93, x94, x95, x96, x97, x98, x99, x100, x101, x102, x103, x104, x105, x106, x107, x108, x109, x110, x111, x112, x113, x114, x115, x116, x117, x118, x119, x120, x121, x122, .bool true, x124, x125, x126, .slice a7 rn c7_, x128, .slice ro rn rc, (.bool true), x131, x12, a1, c1_, a2, c2_, a3, c3_, a4, c4_, a5, c5_, a6, c6_, a7, c7_, (by simp only [Act.put, List.setIfInBounds_toArray, List.set_cons_zero, List.set_cons_succ]), (by simp only [Act.put, List.setIfInBounds_toArray, List.set_cons_zero, List.set_cons_succ]), hb.trans (bx.mono (Nat.le_trans hB0 hb.size)), cd0, cd1, cd2, cd3, cd4, cd5, cd6, cd7, cd8, cd9, cd10, cd11, cd12, cd13, cd14, cd15, cd16, cd17, cd18, cd19, cd20, cd21, cd22, cd23, cd24, cd25, cd26, cd27, cd28, cd29, cd30, cd31, cd32, cd33, cd34, cd35, cd36, cd37, cd38, (fun _ => rfl), cd40, cd41, cd42, (fun _ => rfl), cd44, (fun _ => rfl), (fun _ => rfl), cd47, cd48, (fun h0 => (f_r3.out h0).past bx), (fun h0 => (f_r7.out h0).past bx), (fun h0 => (f_r17.out h0).past bx), (fun h0 => (f_r25.out h0).past bx), (fun h0 => (f_r32.out h0).past bx), (fun h0 => (f_r36.out h0).past bx), (fun h0 => (f_r43.out h0).past bx)⟩
        · rintro L a w ⟨b0, b1, b2, b3, b4, b5, b6, b7, b8, b9, b10, b11, b12, b13, b14, b15, b16, b17, b18, b19, b20, b21, b22, b23, b24, b25, b26, b27, b28, b29, b30, b31, b32, b33, b34, b35, b36, b37, b38, b39, b40, b41, b42, b43, b44, b45, b46, b47, b48, x84, x85, x86, x87, x88, x89, x90, x91, x92, x93, x94, x95, x96, x97, x98, x99, x100, x101, x102, x103, x104, x105, x106, x107, x108, x109, x110, x111, x112, x113, x114, x115, x116, x117, x118, x119, x120, x121, x122, x123, x124, x125, x126, x127, x128, x129, x130, x131, x12, a1, c1_, a2, c2_, a3, c3_, a4, c4_, a5, c5_, a6, c6_, a7, c7_, rfl, rfl, hb, cd0, cd1, cd2, cd3, cd4, cd5, cd6, cd7, cd8, cd9, cd10, cd11, cd12, cd13, cd14, cd15, cd16, cd17, cd18, cd19, cd20, cd21, cd22, cd23, cd24, cd25, cd26, cd27, cd28, cd29, cd30, cd31, cd32, cd33, cd34, cd35, cd36, cd37, cd38, cd39, cd40, cd41, cd42, cd43, cd44, cd45, cd46, cd47, cd48, f_r3, f_r7, f_r17, f_r25, f_r32, f_r36, f_r43⟩ hf hd
          have hf' : b47 = false := hf
          subst hf'
          have d39 : b39 = true := hd ⟨39, .data⟩ (by simp) rfl
          subst d39
          have d46 : b46 = true := hd ⟨46, .data⟩ (by simp) rfl
          subst d46
          obtain rfl := cd39.out rfl
          obtain rfl := cd46.out rfl
          clear hf hd
          try simp only [List.setIfInBounds_toArray, List.set_cons_zero, List.set_cons_succ]
          intro K hK
          rw [if_pos (by rfl)]
          go_simp
          exact hK.out _ _ ⟨b0, b1, b2, b3, b4, b5, b6, b7, b8, b9, b10, b11, b12, b13, b14, b15, b16, b17, b18, b19, b20, b21, b22, b23, b24, b25, b26, b27, b28, b29, b30, b31, b32, b33, b34, b35, b36, b37, b38, true, b40, b41, b42, b43, b44, b45, true, true, b48, x84, x85, x86, x87, x88, x89, x90, x91, x92, x93, x94, x95, x96, x97, x98, x99, x100, x101, x102, x103, x104, x105, x106, x107, x108, x109, x110, x111, x112, x113, x114, x115, x116, x117, x118, x119, x120, x121, x122, .bool true, x124, x125, x126, x127, x128, x129, .bool true, (.bool true), x12, a1, c1_, a2, c2_, a3, c3_, a4, c4_, a5, c5_, a6, c6_, a7, c7_, (by simp only [Act.put, List.setIfInBounds_toArray, List.set_cons_zero, List.set_cons_succ]), (by simp only [Act.put, List.setIfInBounds_toArray, List.set_cons_zero, List.set_cons_succ]), hb, cd0, cd1, cd2, cd3, cd4, cd5, cd6, cd7, cd8, cd9, cd10, cd11, cd12, cd13, cd14, cd15, cd16, cd17, cd18, cd19, cd20, cd21, cd22, cd23, cd24, cd25, cd26, cd27, cd28, cd29, cd30, cd31, cd32, cd33, cd34, cd35, cd36, cd37, cd38, (fun _ => rfl), cd40, cd41, cd42, cd43, cd44, cd45, (fun _ => rfl), (fun _ => rfl), cd48, f_r3, f_r7, f_r17, f_r25, f_r32, f_r36, f_r43⟩
        · rintro L a w ⟨b0, b1, b2, b3, b4, b5, b6, b7, b8, b9, b10, b11, b12, b13, b14, b15, b16, b17, b18, b19, b20, b21, b22, b23, b24, b25, b26, b27, b28, b29, b30, b31, b32, b33, b34, b35, b36, b37, b38, b39, b40, b41, b42, b43, b44, b45, b46, b47, b48, x84, x85, x86, x87, x88, x89, x90, x91, x92, x93, x94, x95, x96, x97, x98, x99, x100, x101, x102, x103, x104, x105, x106, x107, x108, x109, x110, x111, x112, x113, x114, x115, x116, x117, x118, x119, x120, x121, x122, x123, x124, x125, x126, x127, x128, x129, x130, x131, x12, a1, c1_, a2, c2_, a3, c3_, a4, c4_, a5, c5_, a6, c6_, a7, c7_, rfl, rfl, hb, cd0, cd1, cd2, cd3, cd4, cd5, cd6, cd7, cd8, cd9, cd10, cd11, cd12, cd13, cd14, cd15, cd16, cd17, cd18, cd19, cd20, cd21, cd22, cd23, cd24, cd25, cd26, cd27, cd28, cd29, cd30, cd31, cd32, cd33, cd34, cd35, cd36, cd37, cd38, cd39, cd40, cd41, cd42, cd43, cd44, cd45, cd46, cd47, cd48, f_r3, f_r7, f_r17, f_r25, f_r32, f_r36, f_r43⟩ hf hd
          have hf' : b48 = false := hf
          subst hf'
          have d47 : b47 = true := hd ⟨47, .data⟩ (by simp) rfl
          subst d47
          have d46 : b46 = true := hd ⟨46, .chain⟩ (by simp) rfl
          subst d46
          have d0 : b0 = true := hd ⟨0, .phase⟩ (by simp) rfl
          subst d0
          have d1 : b1 = true := hd ⟨1, .phase⟩ (by simp) rfl
          subst d1
          have d2 : b2 = true := hd ⟨2, .phase⟩ (by simp) rfl
          subst d2
          have d3 : b3 = true := hd ⟨3, .phase⟩ (by simp) rfl
          subst d3
          have d4 : b4 = true := hd ⟨4, .phase⟩ (by simp) rfl
          subst d4
          have d5 : b5 = true := hd ⟨5, .phase⟩ (by simp) rfl
          subst d5
          have d6 : b6 = true := hd ⟨6, .phase⟩ (by simp) rfl
          subst d6
          have d7 : b7 = true := hd ⟨7, .phase⟩ (by simp) rfl
          subst d7
          have d8 : b8 = true := hd ⟨8, .phase⟩ (by simp) rfl
          subst d8
          have d9 : b9 = true := hd ⟨9, .phase⟩ (by simp) rfl
          subst d9
          have d10 : b10 = true := hd ⟨10, .phase⟩ (by simp) rfl
          subst d10
          have d11 : b11 = true := hd ⟨11, .phase⟩ (by simp) rfl
          subst d11
          have d12 : b12 = true := hd ⟨12, .phase⟩ (by simp) rfl
          subst d12
          have d13 : b13 = true := hd ⟨13, .phase⟩ (by simp) rfl
          subst d13
          have d14 : b14 = true := hd ⟨14, .phase⟩ (by simp) rfl
          subst d14
          have d15 : b15 = true := hd ⟨15, .phase⟩ (by simp) rfl
          subst d15
          have d16 : b16 = true := hd ⟨16, .phase⟩ (by simp) rfl
          subst d16
          have d17 : b17 = true := hd ⟨17, .phase⟩ (by simp) rfl
          subst d17
          have d18 : b18 = true := hd ⟨18, .phase⟩ (by simp) rfl
          subst d18
          have d19 : b19 = true := hd ⟨19, .phase⟩ (by simp) rfl
          subst d19
          have d20 : b20 = true := hd ⟨20, .phase⟩ (by simp) rfl
          subst d20
          have d21 : b21 = true := hd ⟨21, .phase⟩ (by simp) rfl
          subst d21
          have d22 : b22 = true := hd ⟨22, .phase⟩ (by simp) rfl
          subst d22
          have d23 : b23 = true := hd ⟨23, .phase⟩ (by simp) rfl
          subst d23
          have d24 : b24 = true := hd ⟨24, .phase⟩ (by simp) rfl
          subst d24
          have d25 : b25 = true := hd ⟨25, .phase⟩ (by simp) rfl
          subst d25
          have d26 : b26 = true := hd ⟨26, .phase⟩ (by simp) rfl
          subst d26
          have d27 : b27 = true := hd ⟨27, .phase⟩ (by simp) rfl
          subst d27
          have d28 : b28 = true := hd ⟨28, .phase⟩ (by simp) rfl
          subst d28
          have d29 : b29 = true := hd ⟨29, .phase⟩ (by simp) rfl
          subst d29
          have d30 : b30 = true := hd ⟨30, .phase⟩ (by simp) rfl
          subst d30
          have d31 : b31 = true := hd ⟨31, .phase⟩ (by simp) rfl
          subst d31
          have d32 : b32 = true := hd ⟨32, .phase⟩ (by simp) rfl
          subst d32
          have d33 : b33 = true := hd ⟨33, .phase⟩ (by simp) rfl
          subst d33
          have d34 : b34 = true := hd ⟨34, .phase⟩ (by simp) rfl
          subst d34
          have d35 : b35 = true := hd ⟨35, .phase⟩ (by simp) rfl
          subst d35
          have d36 : b36 = true := hd ⟨36, .phase⟩ (by simp) rfl
          subst d36
          have d37 : b37 = true := hd ⟨37, .phase⟩ (by simp) rfl
          subst d37
          have d38 : b38 = true := hd ⟨38, .phase⟩ (by simp) rfl
          subst d38
          have d39 : b39 = true := hd ⟨39, .phase⟩ (by simp) rfl
          subst d39
          have d40 : b40 = true := hd ⟨40, .phase⟩ (by simp) rfl
          subst d40
          have d41 : b41 = true := hd ⟨41, .phase⟩ (by simp) rfl
          subst d41
          have d42 : b42 = true := hd ⟨42, .phase⟩ (by simp) rfl
          subst d42
          have d43 : b43 = true := hd ⟨43, .phase⟩ (by simp) rfl
          subst d43
          have d44 : b44 = true := hd ⟨44, .phase⟩ (by simp) rfl
          subst d44
          have d45 : b45 = true := hd ⟨45, .phase⟩ (by simp) rfl
          subst d45
          obtain rfl := cd47.out rfl
          obtain rfl := cd46.out rfl
          obtain rfl := cd0.out rfl
          obtain rfl := cd1.out rfl
          obtain rfl := cd2.out rfl
          obtain rfl := cd3.out rfl
          obtain rfl := cd4.out rfl
          obtain rfl := cd5.out rfl
          obtain rfl := cd6.out rfl
          obtain rfl := cd7.out rfl
          obtain rfl := cd8.out rfl
          obtain rfl := cd9.out rfl
          obtain rfl := cd10.out rfl
          obtain rfl := cd11.out rfl
          obtain rfl := cd12.out rfl
          obtain rfl := cd13.out rfl
          obtain rfl := cd14.out rfl
          obtain rfl := cd15.out rfl
          obtain rfl := cd16.out rfl
          obtain rfl := cd17.out rfl
          obtain rfl := cd18.out rfl
          obtain rfl := cd19.out rfl
          obtain rfl := cd20.out rfl
          obtain rfl := cd21.out rfl
          obtain rfl := cd22.out rfl
          obtain rfl := cd23.out rfl
          obtain rfl := cd24.out rfl
          obtain rfl := cd25.out rfl
          obtain rfl := cd26.out rfl
          obtain rfl := cd27.out rfl
          obtain rfl := cd28.out rfl
          obtain rfl := cd29.out rfl
          obtain rfl := cd30.out rfl
          obtain rfl := cd31.out rfl
          obtain rfl := cd32.out rfl
          obtain rfl := cd33.out rfl
          obtain rfl := cd34.out rfl
          obtain rfl := cd35.out rfl
          obtain rfl := cd36.out rfl
          obtain rfl := cd37.out rfl
          obtain rfl := cd38.out rfl
          obtain rfl := cd39.out rfl
          obtain rfl := cd40.out rfl
          obtain rfl := cd41.out rfl
          obtain rfl := cd42.out rfl
          obtain rfl := cd43.out rfl
          obtain rfl := cd44.out rfl
          obtain rfl := cd45.out rfl
          clear hf hd
          have W_r3 := f_r3.out rfl
          have W_r7 := f_r7.out rfl
          have W_r17 := f_r17.out rfl
          have W_r25 := f_r25.out rfl
          have W_r32 := f_r32.out rfl
          have W_r36 := f_r36.out rfl
          have W_r43 := f_r43.out rfl
          try simp only [List.setIfInBounds_toArray, List.set_cons_zero, List.set_cons_succ]
          intro K hK
          rw [if_pos (by rfl)]
          go_simp
          exact hK.out _ _ ⟨true, true, true, true, true, true, true, true, true, true, true, true, true, true, true, true, true, true, true, true, true, true, true, true, true, true, true, true, true, true, true, true, true, true, true, true, true, true, true, true, true, true, true, true, true, true, true, true, true, .agg #[.string (bsOf NM), .slice (some ⟨g, 0, none⟩) N cg, .int .i64 (KI : Nat), .bool only, .slice ro rn rc], .agg #[.int .i64 pk, .int .i64 pm, .string ps], .agg #[.int .i64 qk, .int .i64 qm, .string qs], .slice a1 n1 c1_, .agg #[.string (bsOf NM), .slice (some ⟨g, 0, none⟩) N cg, .int .i64 (KI : Nat), .bool only, .slice ro rn rc], .agg #[.int .i64 pk, .int .i64 pm, .string ps], .agg #[.int .i64 qk, .int .i64 qm, .string qs], .slice a2 n1 c2_, .bool true, .bool true, .agg #[.string (bsOf NM), .slice (some ⟨g, 0, none⟩) N cg, .int .i64 (KI : Nat), .bool only, .slice ro rn rc], .slice (some ⟨gv, 0, none⟩) 2 cv, .pointer (some ⟨gv, 0, none⟩), .agg #[.int .i64 uk, .int .i64 um, .string us], .slice (some ⟨gv, 0, none⟩) 2 cv, .pointer (some ⟨gv, 3, none⟩), .agg #[.int .i64 vk, .int .i64 vm, .string vs], .slice a3 n2 c3_, .agg #[.string (bsOf NM), .slice (some ⟨g, 0, none⟩) N cg, .int .i64 (KI : Nat), .bool only, .slice ro rn rc], .slice (some ⟨gv, 0, none⟩) 2 cv, .pointer (some ⟨gv, 0, none⟩), .agg #[.int .i64 uk, .int .i64 um, .string us], .slice (some ⟨gv, 0, none⟩) 2 cv, .pointer (some ⟨gv, 3, none⟩), .agg #[.int .i64 vk, .int .i64 vm, .string vs], .slice a4 n2 c4_, .bool true, .bool true, .bool true, .agg #[.string (bsOf NM), .slice (some ⟨g, 0, none⟩) N cg, .int .i64 (KI : Nat), .bool only, .slice ro rn rc], .agg #[.int .i64 0, .int .i64 0, .string ⟨#[]⟩], .agg #[.int .i64 qk, .int .i64 qm, .string qs], .slice a5 n3 c5_, .agg #[.string (bsOf NM), .slice (some ⟨g, 0, none⟩) N cg, .int .i64 (KI : Nat), .bool only, .slice ro rn rc], .agg #[.int .i64 0, .int .i64 0, .string ⟨#[]⟩], .agg #[.int .i64 qk, .int .i64 qm, .string qs], .slice a6 n3 c6_, .bool true, .bool true, .bool true, .agg #[.string (bsOf NM), .slice (some ⟨g, 0, none⟩) N cg, .int .i64 (KI : Nat), .bool only, .slice ro rn rc], .agg #[.int .i64 0, .int .i64 0, .string ⟨#[]⟩], .agg #[.int .i64 0, .int .i64 0, .string ⟨#[]⟩], .slice a7 rn c7_, .pointer (some ⟨gt, 4, none⟩), .slice ro rn rc, .bool true, .bool true, (.bool true), a1, c1_, a2, c2_, a3, c3_, a4, c4_, a5, c5_, a6, c6_, a7, c7_, (by simp only [Act.put, List.setIfInBounds_toArray, List.set_cons_zero, List.set_cons_succ]), (by simp only [Act.put, List.setIfInBounds_toArray, List.set_cons_zero, List.set_cons_succ]), hb, (fun _ => rfl), (fun _ => rfl), (fun _ => rfl), (fun _ => rfl), (fun _ => rfl), (fun _ => rfl), (fun _ => rfl), (fun _ => rfl), (fun _ => rfl), (fun _ => rfl), (fun _ => rfl), (fun _ => rfl), (fun _ => rfl), (fun _ => rfl), (fun _ => rfl), (fun _ => rfl), (fun _ => rfl), (fun _ => rfl), (fun _ => rfl), (fun _ => rfl), (fun _ => rfl), (fun _ => rfl), (fun _ => rfl), (fun _ => rfl), (fun _ => rfl), (fun _ => rfl), (fun _ => rfl), (fun _ => rfl), (fun _ => rfl), (fun _ => rfl), (fun _ => rfl), (fun _ => rfl), (fun _ => rfl), (fun _ => rfl), (fun _ => rfl), (fun _ => rfl), (fun _ => rfl), (fun _ => rfl), (fun _ => rfl), (fun _ => rfl), (fun _ => rfl), (fun _ => rfl), (fun _ => rfl), (fun _ => rfl), (fun _ => rfl), (fun _ => rfl), (fun _ => rfl), (fun _ => rfl), (fun _ => rfl), f_r3, f_r7, f_r17, f_r25, f_r32, f_r36, f_r43⟩
      · rintro act V15 ⟨b0, b1, b2, b3, b4, b5, b6, b7, b8, b9, b10, b11, b12, b13, b14, b15, b16, b17, b18, b19, b20, b21, b22, b23, b24, b25, b26, b27, b28, b29, b30, b31, b32, b33, b34, b35, b36, b37, b38, b39, b40, b41, b42, b43, b44, b45, b46, b47, b48, x84, x85, x86, x87, x88, x89, x90, x91, x92, x93, x94, x95, x96, x97, x98, x99, x100, x101, x102, x103, x104, x105, x106, x107, x108, x109, x110, x111, x112, x113, x114, x115, x116, x117, x118, x119, x120, x121, x122, x123, x124, x125, x126, x127, x128, x129, x130, x131, x12, a1, c1_, a2, c2_, a3, c3_, a4, c4_, a5, c5_, a6, c6_, a7, c7_, hL, rfl, hb, cd0, cd1, cd2, cd3, cd4, cd5, cd6, cd7, cd8, cd9, cd10, cd11, cd12, cd13, cd14, cd15, cd16, cd17, cd18, cd19, cd20, cd21, cd22, cd23, cd24, cd25, cd26, cd27, cd28, cd29, cd30, cd31, cd32, cd33, cd34, cd35, cd36, cd37, cd38, cd39, cd40, cd41, cd42, cd43, cd44, cd45, cd46, cd47, cd48, f_r3, f_r7, f_r17, f_r25, f_r32, f_r36, f_r43⟩
        have hL' : [true, true, true, true, true, true, true, true, true, true, true, true, true, true, true, true, true, true, true, true, true, true, true, true, true, true, true, true, true, true, true, true, true, true, true, true, true, true, true, true, true, true, true, true, true, true, true, true, true] = [b0, b1, b2, b3, b4, b5, b6, b7, b8, b9, b10, b11, b12, b13, b14, b15, b16, b17, b18, b19, b20, b21, b22, b23, b24, b25, b26, b27, b28, b29, b30, b31, b32, b33, b34, b35, b36, b37, b38, b39, b40, b41, b42, b43, b44, b45, b46, b47, b48] := congrArg Array.toList hL
        simp only [List.cons.injEq, and_true] at hL'
        obtain ⟨rfl, rfl, rfl, rfl, rfl, rfl, rfl, rfl, rfl, rfl, rfl, rfl, rfl, rfl, rfl, rfl, rfl, rfl, rfl, rfl, rfl, rfl, rfl, rfl, rfl, rfl, rfl, rfl, rfl, rfl, rfl, rfl, rfl, rfl, rfl, rfl, rfl, rfl, rfl, rfl, rfl, rfl, rfl, rfl, rfl, rfl, rfl, rfl, rfl⟩ := hL'
        obtain rfl := cd0.out rfl
        obtain rfl := cd1.out rfl
        obtain rfl := cd2.out rfl
        obtain rfl := cd3.out rfl
        obtain rfl := cd4.out rfl
        obtain rfl := cd5.out rfl
        obtain rfl := cd6.out rfl
        obtain rfl := cd7.out rfl
        obtain rfl := cd8.out rfl
        obtain rfl := cd9.out rfl
        obtain rfl := cd10.out rfl
        obtain rfl := cd11.out rfl
        obtain rfl := cd12.out rfl
        obtain rfl := cd13.out rfl
        obtain rfl := cd14.out rfl
        obtain rfl := cd15.out rfl
        obtain rfl := cd16.out rfl
        obtain rfl := cd17.out rfl
        obtain rfl := cd18.out rfl
        obtain rfl := cd19.out rfl
        obtain rfl := cd20.out rfl
        obtain rfl := cd21.out rfl
        obtain rfl := cd22.out rfl
        obtain rfl := cd23.out rfl
        obtain rfl := cd24.out rfl
        obtain rfl := cd25.out rfl
        obtain rfl := cd26.out rfl
        obtain rfl := cd27.out rfl
        obtain rfl := cd28.out rfl
        obtain rfl := cd29.out rfl
        obtain rfl := cd30.out rfl
        obtain rfl := cd31.out rfl
        obtain rfl := cd32.out rfl
        obtain rfl := cd33.out rfl
        obtain rfl := cd34.out rfl
        obtain rfl := cd35.out rfl
        obtain rfl := cd36.out rfl
        obtain rfl := cd37.out rfl
        obtain rfl := cd38.out rfl
        obtain rfl := cd39.out rfl
        obtain rfl := cd40.out rfl
        obtain rfl := cd41.out rfl
        obtain rfl := cd42.out rfl
        obtain rfl := cd43.out rfl
        obtain rfl := cd44.out rfl
        obtain rfl := cd45.out rfl
        obtain rfl := cd46.out rfl
        obtain rfl := cd47.out rfl
        obtain rfl := cd48.out rfl
        have W_r3 := f_r3.out rfl
        have W_r7 := f_r7.out rfl
        have W_r17 := f_r17.out rfl
        have W_r25 := f_r25.out rfl
        have W_r32 := f_r32.out rfl
        have W_r36 := f_r36.out rfl
        have W_r43 := f_r43.out rfl
        clear hL f_r3 f_r7 f_r17 f_r25 f_r32 f_r36 f_r43 cd0 cd1 cd2 cd3 cd4 cd5 cd6 cd7 cd8 cd9 cd10 cd11 cd12 cd13 cd14 cd15 cd16 cd17 cd18 cd19 cd20 cd21 cd22 cd23 cd24 cd25 cd26 cd27 cd28 cd29 cd30 cd31 cd32 cd33 cd34 cd35 cd36 cd37 cd38 cd39 cd40 cd41 cd42 cd43 cd44 cd45 cd46 cd47 cd48
        simp only [List.setIfInBounds_toArray, List.set_cons_zero, List.set_cons_succ]
        have BE := BY.trans (((Below.refl _ _).drew.trans hb).mono hpY)
        clear hb
        go_wp2_with fail
        go_ret
        exact ⟨rfl, HBZ.out _ BE⟩
end Go.Proofs.Ytllijeciodmckaa
