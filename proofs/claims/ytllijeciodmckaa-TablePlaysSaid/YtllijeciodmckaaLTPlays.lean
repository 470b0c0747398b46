/-
  TablePlays, walked (by gen_tplays.py).
-/
import Derived.Test.YtllijeciodmckaaTPlAll
import Derived.Deep.CutRange
import Derived.Deep.CutBlock
namespace Go.Proofs.Ytllijeciodmckaa
open Go.RowKit
set_option linter.unusedSimpArgs false
def VCell (w : World) (b o : Nat) (k m : Int) (s : ByteArray) : Prop := b < w.heap.size ∧ w.cell? ⟨b, o, none⟩ = some (.int .i64 k) ∧ w.cell? ⟨b, o + 1, none⟩ = some (.int .i64 m) ∧ w.cell? ⟨b, o + 2, none⟩ = some (.string s)
theorem VCell.past {w w' : World} {b o : Nat} {k m : Int} {s : ByteArray} (h : VCell w b o k m s) (bx : Below w.heap.size w w') : VCell w' b o k m s := by
  obtain ⟨h1, h2, h3, h4⟩ := h
  exact ⟨Nat.lt_of_lt_of_le h1 bx.size, (bx.cell h1).trans h2, (bx.cell h1).trans h3, (bx.cell h1).trans h4⟩
theorem VCell.grown {w w' : World} {b o x : Nat} {k m : Int} {s : ByteArray} (h : VCell w b o k m s) (g : w.grownBy w' (some x)) (hne : b ≠ x) : VCell w' b o k m s := by
  obtain ⟨h1, h2, h3, h4⟩ := h
  have q : ∀ i, (some (⟨b, i, none⟩ : Addr).block) ≠ some x := fun i e => hne (Option.some.inj e)
  exact ⟨Nat.lt_of_lt_of_le h1 g.size, g.cell h2 (q _), g.cell h3 (q _), g.cell h4 (q _)⟩
def LtV (w : World) (g : Nat) : Prop := g < w.heap.size
theorem LtV.past {w w' : World} {g : Nat} (h : LtV w g) (b : Below w.heap.size w w') : LtV w' g := Nat.lt_of_lt_of_le h b.size
def vC (k m : Int) (s : ByteArray) : Array Value := #[.int .i64 k, .int .i64 m, .string s]
theorem vC_all (k m : Int) (s : ByteArray) : (vC k m s).all (·.oneCell') = true := by simp [vC, Value.oneCell']
theorem vC_c {w : World} {p : Nat} {k m : Int} {s : ByteArray} {t : TypeId} (h : Bk w p (vC k m s) t) : w.cell? ⟨p, 0, none⟩ = some (.int .i64 k) ∧ w.cell? ⟨p, 1, none⟩ = some (.int .i64 m) ∧ w.cell? ⟨p, 2, none⟩ = some (.string s) := ⟨h.c rfl, h.c rfl, h.c rfl⟩
theorem szVl : (Try.prog.info? 55).map (·.size) = some 3 := by kernel_rfl
theorem fit_own {w : World} {e : TypeId} {B : Nat} {ao : Option Addr} {n c : Nat} {l : List V} (h : TxtR EV w e B ao n c l) (hn : 0 < n) (K : Nat) (x : V) (hx : l[K]? = some x) : ∃ g o, ao = some ⟨g, o, none⟩ ∧ VCell w g (o + K * 3) x.k x.n x.s ∧ B ≤ g := by
  obtain ⟨g, rfl, oO, hg⟩ := h.own hn
  exact ⟨g, 0, rfl, ⟨oO.lt, cells_v (off := 0) (fun i u hu => by rw [Nat.zero_add]; exact oO.cell i u hu) K x hx⟩, hg⟩
/-- The two tables: the program's in block gt, the document's in block gx; their rows lie from S on. -/
structure Tw (w : World) (gs gt gx S : Nat) (NM : List UInt8) (g N cg KI : Nat) (only : Bool) (F : List Co) (co : Option Addr) (cc : Nat) (ro : Option Addr) (rn rc : Nat) (xo : Option Addr) (xn xc : Nat) (rs : List (List V)) : Prop where
  XS : Bk w gs (scC NM (some ⟨g, 0, none⟩) N cg (KI : Nat) only) 40
  iG : IsR encCo w (some ⟨g, 0, none⟩) N cg F
  hT : Bk w gt (tbC NM co N cc (KI : Nat) only ro rn rc) 47
  cT : IsR encCo w co N cc F
  nT : ∀ a, co = some a → a.block ≠ gt ∧ a.block ≠ gx
  rT : IsRR EV w S ro rn rc rs
  hX : Bk w gx (tbC NM (some ⟨g, 0, none⟩) N cg (KI : Nat) only xo xn xc) 48
  rX : IsRR EV w S xo xn xc rs
section
variable {w w' : World} {gs gt gx S : Nat} {NM : List UInt8} {g N cg KI : Nat} {only : Bool} {F : List Co} {co : Option Addr} {cc : Nat} {ro : Option Addr} {rn rc : Nat} {xo : Option Addr} {xn xc : Nat} {rs : List (List V)}
theorem Tw.past (h : Tw w gs gt gx S NM g N cg KI only F co cc ro rn rc xo xn xc rs) (b : Below w.heap.size w w') : Tw w' gs gt gx S NM g N cg KI only F co cc ro rn rc xo xn xc rs := ⟨h.XS.past b, h.iG.past b, h.hT.past b, h.cT.past b, h.nT, h.rT.past b, h.hX.past b, h.rX.past b⟩
theorem Tw.isT (h : Tw w gs gt gx S NM g N cg KI only F co cc ro rn rc xo xn xc rs) : IsT w 0 co N cc F ro rn rc rs := ⟨h.cT, h.rT.mono (Nat.zero_le _), fun _ _ => Nat.zero_le _⟩
theorem Tw.isX (h : Tw w gs gt gx S NM g N cg KI only F co cc ro rn rc xo xn xc rs) : IsT w 0 (some ⟨g, 0, none⟩) N cg F xo xn xc rs := ⟨h.iG, h.rX.mono (Nat.zero_le _), fun _ _ => Nat.zero_le _⟩
end
def TwAt (w : World) (gs gt gx S : Nat) (NM : List UInt8) (g N cg KI : Nat) (only : Bool) (F : List Co) (rs : List (List V)) : Prop := ∃ co cc ro rn rc xo xn xc, Tw w gs gt gx S NM g N cg KI only F co cc ro rn rc xo xn xc rs
/-- The row that is put: made to fit, or raw. -/
def RowR (Y : World) (s10 : Value) (wx : World) : Prop := wx = Y ∧ ∃ ra rl rca row, s10 = .slice ra rl rca ∧ IsR EV wx ra rl rca row ∧ rl ≤ 12
/-- What stands behind the change. -/
def AftR (w : World) (p0 gs gt gx S : Nat) (NM : List UInt8) (g N cg KI : Nat) (only : Bool) (F : List Co) (i gk : Nat) (kk km : Int) (ks : ByteArray) (wx : World) : Prop :=
  ∃ rs, TwAt wx gs gt gx S NM g N cg KI only F rs ∧ RowsOk F KI rs ∧ rs.length ≤ i + 1 ∧ Bk wx gk (vC kk km ks) 55 ∧ S ≤ wx.heap.size ∧ Below p0 w wx
/-- What stands while the region's operations come up. -/
inductive TPl28 (B : Nat) (gt : Nat) (gx : Nat) (NM : List UInt8) (g : Nat) (N : Nat) (cg : Nat) (KI : Nat) (only : Bool) (co : Option Addr) (cc : Nat) (ro : Option Addr) (rn : Nat) (rc : Nat) (xo : Option Addr) (xn : Nat) (xc : Nat) (pa : Option Addr) (pn : Nat) (pc : Nat) (qa : Option Addr) (qn : Nat) (qc : Nat) (tk : Bool) (a0 : Act) (w0 : World) (L : Array Bool) (a : Act) (w : World) : Prop
  | mk (b0 b1 b2 b3 b4 b5 b6 b7 b8 b9 b10 b11 b12 b13 b14 b15 b16 b17 b18 b19 b20 b21 b22 : Bool) (x148 x149 x150 x151 x152 x153 x154 x155 x156 x157 x158 x159 x160 x161 x162 x163 x164 x165 x166 x167 x168 x169 x170 : Value) (hL : L = #[b0, b1, b2, b3, b4, b5, b6, b7, b8, b9, b10, b11, b12, b13, b14, b15, b16, b17, b18, b19, b20, b21, b22]) (ha : a = ⟨(((((((((((((((((((((((a0.tmps.setIfInBounds 148 x148).setIfInBounds 149 x149).setIfInBounds 150 x150).setIfInBounds 151 x151).setIfInBounds 152 x152).setIfInBounds 153 x153).setIfInBounds 154 x154).setIfInBounds 155 x155).setIfInBounds 156 x156).setIfInBounds 157 x157).setIfInBounds 158 x158).setIfInBounds 159 x159).setIfInBounds 160 x160).setIfInBounds 161 x161).setIfInBounds 162 x162).setIfInBounds 163 x163).setIfInBounds 164 x164).setIfInBounds 165 x165).setIfInBounds 166 x166).setIfInBounds 167 x167).setIfInBounds 168 x168).setIfInBounds 169 x169).setIfInBounds 170 x170), a0.defers⟩) (hb : Below B w0 w) (cd0 : Hid (b0 = true → x148 = .agg #[.string (bsOf NM), .slice co N cc, .int .i64 (KI : Nat), .bool only, .slice ro rn rc])) (cd1 : Hid (b1 = true → x149 = .agg #[.string (bsOf NM), .slice (some ⟨g, 0, none⟩) N cg, .int .i64 (KI : Nat), .bool only, .slice xo xn xc])) (cd2 : Hid (b2 = true → x150 = .agg #[.string (bsOf NM), .slice (some ⟨g, 0, none⟩) N cg, .int .i64 (KI : Nat), .bool only, .slice xo xn xc])) (cd3 : Hid (b3 = true → x151 = .bool true)) (cd4 : Hid (b4 = true → x152 = .bool false)) (cd5 : Hid (b5 = true → x153 = .bool false)) (cd6 : Hid (b6 = true → x154 = .agg #[.string (bsOf NM), .slice co N cc, .int .i64 (KI : Nat), .bool only, .slice ro rn rc])) (cd7 : Hid (b7 = true → x155 = .agg #[.string (bsOf NM), .slice co N cc, .int .i64 (KI : Nat), .bool only, .slice ro rn rc])) (cd8 : Hid (b8 = true → x156 = .agg #[.string (bsOf NM), .slice (some ⟨g, 0, none⟩) N cg, .int .i64 (KI : Nat), .bool only, .slice xo xn xc])) (cd9 : Hid (b9 = true → x157 = .bool true)) (cd10 : Hid (b10 = true → x158 = .bool false)) (cd11 : Hid (b11 = true → x159 = .bool false)) (cd12 : Hid (b12 = true → x160 = .bool false)) (cd13 : Hid (b13 = true → x161 = .slice pa pn pc)) (cd14 : Hid (b14 = true → x162 = .slice qa qn qc)) (cd15 : Hid (b15 = true → x163 = .bool true)) (cd16 : Hid (b16 = true → x164 = .bool false)) (cd17 : Hid (b17 = true → x165 = .bool false)) (cd18 : Hid (b18 = true → x166 = .bool false)) (cd19 : Hid (b19 = true → x167 = .bool tk)) (cd20 : Hid (b20 = true → x168 = .bool tk)) (cd21 : Hid (b21 = true → x169 = .bool false)) (cd22 : Hid (b22 = true → x170 = .bool false)) : TPl28 B gt gx NM g N cg KI only co cc ro rn rc xo xn xc pa pn pc qa qn qc tk a0 w0 L a w

/-- What stands while the region's operations come up. -/
inductive TPl20 (B : Nat) (S : Nat) (gs : Nat) (gt : Nat) (gx : Nat) (gk : Nat) (gu : Nat) (gy : Nat) (NM : List UInt8) (g : Nat) (N : Nat) (cg : Nat) (KI : Nat) (only : Bool) (co : Option Addr) (cc : Nat) (ro : Option Addr) (rn : Nat) (rc : Nat) (xo : Option Addr) (xn : Nat) (xc : Nat) (co2 : Option Addr) (cc2 : Nat) (ro2 : Option Addr) (rn2 : Nat) (rc2 : Nat) (xo2 : Option Addr) (xn2 : Nat) (xc2 : Nat) (F : List Co) (rs2 : List (List V)) (kk : Int) (km : Int) (ks : ByteArray) (a0 : Act) (w0 : World) (L : Array Bool) (a : Act) (w : World) : Prop
  | mk (b0 b1 b2 b3 : Bool) (x109 x110 : Value) (hL : L = #[b0, b1, b2, b3]) (ha : a = ⟨((a0.tmps.setIfInBounds 109 x109).setIfInBounds 110 x110), a0.defers⟩) (hb : Below B w0 w) (cd0 : Hid (b0 = true → x109 = .agg #[.string (bsOf NM), .slice co2 N cc2, .int .i64 (KI : Nat), .bool only, .slice ro2 rn2 rc2])) (cd1 : Hid (b1 = true → x110 = .agg #[.string (bsOf NM), .slice (some ⟨g, 0, none⟩) N cg, .int .i64 (KI : Nat), .bool only, .slice xo2 xn2 xc2])) (f_xs : Hid (Bk w gs (scC NM (some ⟨g, 0, none⟩) N cg (KI : Nat) only) 40)) (f_ig : Hid (IsR encCo w (some ⟨g, 0, none⟩) N cg F)) (f_c : Hid (IsR encCo w co2 N cc2 F)) (f_r : Hid (IsRR EV w S ro2 rn2 rc2 rs2)) (f_rx : Hid (IsRR EV w S xo2 xn2 xc2 rs2)) (f_vk : Hid (Bk w gk (vC kk km ks) 55)) (f_tu : Hid (Bk w gu (tbC NM co2 N cc2 (KI : Nat) only ro2 rn2 rc2) 47)) (f_ty : Hid (Bk w gy (tbC NM (some ⟨g, 0, none⟩) N cg (KI : Nat) only xo2 xn2 xc2) 48)) (f_ht : Hid (b2 = false → Bk w gt (tbC NM co N cc (KI : Nat) only ro rn rc) 47)) (f_hx : Hid (b3 = false → Bk w gx (tbC NM (some ⟨g, 0, none⟩) N cg (KI : Nat) only xo xn xc) 48)) (f_st : Hid (b2 = true → Bk w gt (tbC NM co2 N cc2 (KI : Nat) only ro2 rn2 rc2) 47)) (f_sx : Hid (b3 = true → Bk w gx (tbC NM (some ⟨g, 0, none⟩) N cg (KI : Nat) only xo2 xn2 xc2) 48)) : TPl20 B S gs gt gx gk gu gy NM g N cg KI only co cc ro rn rc xo xn xc co2 cc2 ro2 rn2 rc2 xo2 xn2 xc2 F rs2 kk km ks a0 w0 L a w

/-- What stands while the region's operations come up. -/
inductive TPl25 (B : Nat) (S : Nat) (gs : Nat) (gt : Nat) (gx : Nat) (gk : Nat) (gu : Nat) (gy : Nat) (NM : List UInt8) (g : Nat) (N : Nat) (cg : Nat) (KI : Nat) (only : Bool) (co : Option Addr) (cc : Nat) (ro : Option Addr) (rn : Nat) (rc : Nat) (xo : Option Addr) (xn : Nat) (xc : Nat) (co2 : Option Addr) (cc2 : Nat) (ro2 : Option Addr) (rn2 : Nat) (rc2 : Nat) (xo2 : Option Addr) (xn2 : Nat) (xc2 : Nat) (F : List Co) (rs2 : List (List V)) (kk : Int) (km : Int) (ks : ByteArray) (a0 : Act) (w0 : World) (L : Array Bool) (a : Act) (w : World) : Prop
  | mk (b0 b1 b2 b3 : Bool) (x134 x135 : Value) (hL : L = #[b0, b1, b2, b3]) (ha : a = ⟨((a0.tmps.setIfInBounds 134 x134).setIfInBounds 135 x135), a0.defers⟩) (hb : Below B w0 w) (cd0 : Hid (b0 = true → x134 = .agg #[.string (bsOf NM), .slice co2 N cc2, .int .i64 (KI : Nat), .bool only, .slice ro2 rn2 rc2])) (cd1 : Hid (b1 = true → x135 = .agg #[.string (bsOf NM), .slice (some ⟨g, 0, none⟩) N cg, .int .i64 (KI : Nat), .bool only, .slice xo2 xn2 xc2])) (f_xs : Hid (Bk w gs (scC NM (some ⟨g, 0, none⟩) N cg (KI : Nat) only) 40)) (f_ig : Hid (IsR encCo w (some ⟨g, 0, none⟩) N cg F)) (f_c : Hid (IsR encCo w co2 N cc2 F)) (f_r : Hid (IsRR EV w S ro2 rn2 rc2 rs2)) (f_rx : Hid (IsRR EV w S xo2 xn2 xc2 rs2)) (f_vk : Hid (Bk w gk (vC kk km ks) 55)) (f_tu : Hid (Bk w gu (tbC NM co2 N cc2 (KI : Nat) only ro2 rn2 rc2) 47)) (f_ty : Hid (Bk w gy (tbC NM (some ⟨g, 0, none⟩) N cg (KI : Nat) only xo2 xn2 xc2) 48)) (f_ht : Hid (b2 = false → Bk w gt (tbC NM co N cc (KI : Nat) only ro rn rc) 47)) (f_hx : Hid (b3 = false → Bk w gx (tbC NM (some ⟨g, 0, none⟩) N cg (KI : Nat) only xo xn xc) 48)) (f_st : Hid (b2 = true → Bk w gt (tbC NM co2 N cc2 (KI : Nat) only ro2 rn2 rc2) 47)) (f_sx : Hid (b3 = true → Bk w gx (tbC NM (some ⟨g, 0, none⟩) N cg (KI : Nat) only xo2 xn2 xc2) 48)) : TPl25 B S gs gt gx gk gu gy NM g N cg KI only co cc ro rn rc xo xn xc co2 cc2 ro2 rn2 rc2 xo2 xn2 xc2 F rs2 kk km ks a0 w0 L a w

/-- What stands while the region's operations come up. -/
inductive TPl16 (B : Nat) (gt : Nat) (NM : List UInt8) (g : Nat) (N : Nat) (cg : Nat) (KI : Nat) (only : Bool) (co : Option Addr) (cc : Nat) (ro : Option Addr) (rn : Nat) (rc : Nat) (ra2 : Option Addr) (rl : Nat) (rca2 : Nat) (row : List V) (F : List Co) (E : Int) (rs2 : List (List V)) (a0 : Act) (w0 : World) (L : Array Bool) (a : Act) (w : World) : Prop
  | mk (b0 b1 b2 b3 b4 b5 b6 b7 b8 b9 b10 : Bool) (x87 x88 x89 x90 x91 x86 x92 x93 x12 x13 : Value) (gb : Nat) (wa : Option Addr) (wd : Nat) (co2 : Option Addr) (cc2 : Nat) (ro2 : Option Addr) (rn2 : Nat) (rc2 : Nat) (gu : Nat) (hL : L = #[b0, b1, b2, b3, b4, b5, b6, b7, b8, b9, b10]) (ha : a = ⟨((((((((((a0.tmps.setIfInBounds 87 x87).setIfInBounds 88 x88).setIfInBounds 89 x89).setIfInBounds 90 x90).setIfInBounds 91 x91).setIfInBounds 86 x86).setIfInBounds 92 x92).setIfInBounds 93 x93).setIfInBounds 12 x12).setIfInBounds 13 x13), a0.defers⟩) (hb : Below B w0 w) (cd0 : Hid (b0 = true → x87 = .agg #[.string (bsOf NM), .slice co N cc, .int .i64 (KI : Nat), .bool only, .slice ro rn rc])) (cd1 : Hid (b1 = true → x88 = .slice (some ⟨gb, 0, none⟩) 0 0)) (cd2 : Hid (b2 = true → x89 = .slice ra2 rl rca2)) (cd3 : Hid (b3 = true → x90 = .slice wa rl wd)) (cd4 : Hid (b4 = true → x91 = .tuple #[.agg #[.string (bsOf NM), .slice co2 N cc2, .int .i64 (KI : Nat), .bool only, .slice ro2 rn2 rc2], .int .i64 E])) (cd5 : Hid (b5 = true → x86 = .tuple #[.agg #[.string (bsOf NM), .slice co2 N cc2, .int .i64 (KI : Nat), .bool only, .slice ro2 rn2 rc2], .int .i64 E])) (cd6 : Hid (b6 = true → x92 = .agg #[.string (bsOf NM), .slice co2 N cc2, .int .i64 (KI : Nat), .bool only, .slice ro2 rn2 rc2])) (cd7 : Hid (b7 = true → x93 = .int .i64 E)) (cd8 : Hid (b8 = true → x12 = .pointer (some ⟨gu, 0, none⟩))) (cd10 : Hid (b10 = true → x13 = .int .i64 E)) (f_ob : Hid (b1 = true → b3 = false → OwnR EV w 55 gb 0 0 [])) (f_lb : Hid (b1 = true → B ≤ gb)) (f_tb : Hid (b1 = true → LtV w gb)) (f_wr : Hid (b3 = true → b4 = false → TxtR EV w 55 B wa rl wd row)) (f_q43 : Hid (b4 = true → b3 = true)) (f_q41 : Hid (b4 = true → b1 = true)) (f_q31 : Hid (b3 = true → b1 = true)) (f_tt : Hid (b4 = true → IsT w w0.heap.size co2 N cc2 F ro2 rn2 rc2 rs2)) (f_st : Hid (b4 = true → b9 = false → (b8 = true → ∀ w'', w.grownBy w'' (some gu) → IsT w'' w0.heap.size co2 N cc2 F ro2 rn2 rc2 rs2))) (f_lt : Hid (b8 = true → LtV w gu)) (f_n3 : Hid (b8 = true → (b1 = true → gu ≠ gb))) (f_z : Hid (b8 = true → b9 = false → Bk w gu (tbC [] none 0 0 0 false none 0 0) 47)) (f_lg : Hid (b8 = true → w0.heap.size ≤ gu)) (f_s : Hid (b9 = true → Bk w gu (tbC NM co2 N cc2 (KI : Nat) only ro2 rn2 rc2) 47)) (f_o9 : Hid (b9 = true → b4 = true)) (f_o9b : Hid (b9 = true → b8 = true)) (f_o93 : Hid (b9 = true → b3 = true)) (w_5_4 : Hid (b5 = true → b4 = true)) (w_6_4 : Hid (b6 = true → b4 = true)) : TPl16 B gt NM g N cg KI only co cc ro rn rc ra2 rl rca2 row F E rs2 a0 w0 L a w

/-- What stands while the region's operations come up. -/
inductive TPl14 (B : Nat) (gs : Nat) (NM : List UInt8) (g : Nat) (N : Nat) (cg : Nat) (KI : Nat) (only : Bool) (ab : Nat) (aoff : Nat) (an : Nat) (ac : Nat) (i : Nat) (nn : Int) (F : List Co) (kk : Int) (km : Int) (ks : ByteArray) (a0 : Act) (w0 : World) (L : Array Bool) (a : Act) (w : World) : Prop
  | mk (b0 b1 b2 b3 b4 b5 b6 b7 b8 b9 b10 b11 b12 : Bool) (x68 x69 x70 x71 x72 x73 x74 x75 x76 x77 x78 x11 : Value) (fa : Nat) (fo : Nat) (fc : Nat) (gk : Nat) (hL : L = #[b0, b1, b2, b3, b4, b5, b6, b7, b8, b9, b10, b11, b12]) (ha : a = ⟨((((((((((((a0.tmps.setIfInBounds 68 x68).setIfInBounds 69 x69).setIfInBounds 70 x70).setIfInBounds 71 x71).setIfInBounds 72 x72).setIfInBounds 73 x73).setIfInBounds 74 x74).setIfInBounds 75 x75).setIfInBounds 76 x76).setIfInBounds 77 x77).setIfInBounds 78 x78).setIfInBounds 11 x11), a0.defers⟩) (hb : Below B w0 w) (cd0 : Hid (b0 = true → x68 = .agg #[.string (bsOf NM), .slice (some ⟨g, 0, none⟩) N cg, .int .i64 (KI : Nat), .bool only])) (cd1 : Hid (b1 = true → x69 = .slice (some ⟨ab, aoff, none⟩) an ac)) (cd2 : Hid (b2 = true → x70 = .int .i64 (i : Nat))) (cd3 : Hid (b3 = true → x71 = .pointer (some ⟨ab, aoff + i * 3, none⟩))) (cd4 : Hid (b4 = true → x72 = .pointer (some ⟨ab, aoff + i * 3 + 1, none⟩))) (cd5 : Hid (b5 = true → x73 = .int .i64 nn)) (cd6 : Hid (b6 = true → x74 = .slice (some ⟨fa, fo, none⟩) N fc)) (cd7 : Hid (b7 = true → x75 = .pointer (some ⟨gs, 2, none⟩))) (cd8 : Hid (b8 = true → x76 = .int .i64 (KI : Nat))) (cd9 : Hid (b9 = true → x77 = .pointer (some ⟨fa, fo + KI * 3, none⟩))) (cd10 : Hid (b10 = true → x78 = .agg #[.int .i64 kk, .int .i64 km, .string ks])) (cd11 : Hid (b11 = true → x11 = .pointer (some ⟨gk, 0, none⟩))) (f_va : Hid (b6 = true → b10 = false → VCell w fa (fo + KI * 3) kk km ks)) (f_zk : Hid (b11 = true → b12 = false → Bk w gk (vC 0 0 ⟨#[]⟩) 55)) (f_lk : Hid (b11 = true → B ≤ gk)) (f_sk : Hid (b12 = true → Bk w gk (vC kk km ks) 55)) (f_qk : Hid (b12 = true → b11 = true)) (w_9_6 : Hid (b9 = true → b6 = true)) : TPl14 B gs NM g N cg KI only ab aoff an ac i nn F kk km ks a0 w0 L a w

/-- What stands while the region's operations come up. -/
inductive TPl11 (B : Nat) (gs : Nat) (NM : List UInt8) (g : Nat) (N : Nat) (cg : Nat) (KI : Nat) (only : Bool) (ab : Nat) (aoff : Nat) (an : Nat) (ac : Nat) (i : Nat) (nn : Int) (F : List Co) (a0 : Act) (w0 : World) (L : Array Bool) (a : Act) (w : World) : Prop
  | mk (b0 b1 b2 b3 b4 b5 b6 b7 : Bool) (x49 x50 x51 x52 x53 x54 x55 x10 : Value) (ra : Option Addr) (rca : Nat) (hL : L = #[b0, b1, b2, b3, b4, b5, b6, b7]) (ha : a = ⟨((((((((a0.tmps.setIfInBounds 49 x49).setIfInBounds 50 x50).setIfInBounds 51 x51).setIfInBounds 52 x52).setIfInBounds 53 x53).setIfInBounds 54 x54).setIfInBounds 55 x55).setIfInBounds 10 x10), a0.defers⟩) (hb : Below B w0 w) (cd0 : Hid (b0 = true → x49 = .agg #[.string (bsOf NM), .slice (some ⟨g, 0, none⟩) N cg, .int .i64 (KI : Nat), .bool only])) (cd1 : Hid (b1 = true → x50 = .slice (some ⟨ab, aoff, none⟩) an ac)) (cd2 : Hid (b2 = true → x51 = .int .i64 (i : Nat))) (cd3 : Hid (b3 = true → x52 = .pointer (some ⟨ab, aoff + i * 3, none⟩))) (cd4 : Hid (b4 = true → x53 = .pointer (some ⟨ab, aoff + i * 3 + 1, none⟩))) (cd5 : Hid (b5 = true → x54 = .int .i64 nn)) (cd6 : Hid (b6 = true → x55 = .slice ra N rca)) (cd7 : Hid (b7 = true → x10 = .slice ra N rca)) (f_r : Hid (b6 = true → TxtR EV w 55 w0.heap.size ra N rca (fitRow F nn))) (w_7_6 : Hid (b7 = true → b6 = true)) : TPl11 B gs NM g N cg KI only ab aoff an ac i nn F a0 w0 L a w

/-- What stands while the region's operations come up. -/
inductive TPl6 (B : Nat) (gs : Nat) (NM : List UInt8) (g : Nat) (N : Nat) (cg : Nat) (KI : Nat) (only : Bool) (a0 : Act) (w0 : World) (L : Array Bool) (a : Act) (w : World) : Prop
  | mk (b0 b1 b2 b3 b4 b5 b6 b7 : Bool) (x38 x39 x40 x41 x6 x7 : Value) (gt : Nat) (gx : Nat) (hL : L = #[b0, b1, b2, b3, b4, b5, b6, b7]) (ha : a = ⟨((((((a0.tmps.setIfInBounds 38 x38).setIfInBounds 39 x39).setIfInBounds 40 x40).setIfInBounds 41 x41).setIfInBounds 6 x6).setIfInBounds 7 x7), a0.defers⟩) (hb : Below B w0 w) (cd0 : Hid (b0 = true → x38 = .agg #[.string (bsOf NM), .slice (some ⟨g, 0, none⟩) N cg, .int .i64 (KI : Nat), .bool only])) (cd1 : Hid (b1 = true → x39 = .agg #[.string (bsOf NM), .slice (some ⟨g, 0, none⟩) N cg, .int .i64 (KI : Nat), .bool only, .slice none 0 0])) (cd2 : Hid (b2 = true → x40 = .agg #[.string (bsOf NM), .slice (some ⟨g, 0, none⟩) N cg, .int .i64 (KI : Nat), .bool only])) (cd3 : Hid (b3 = true → x41 = .agg #[.string (bsOf NM), .slice (some ⟨g, 0, none⟩) N cg, .int .i64 (KI : Nat), .bool only, .slice none 0 0])) (cd4 : Hid (b4 = true → x6 = .pointer (some ⟨gt, 0, none⟩))) (cd5 : Hid (b5 = true → x7 = .pointer (some ⟨gx, 0, none⟩))) (f_zt : Hid (b4 = true → b6 = false → Bk w gt (tbC [] none 0 0 0 false none 0 0) 47)) (f_zx : Hid (b5 = true → b7 = false → Bk w gx (tbC [] none 0 0 0 false none 0 0) 48)) (f_lt : Hid (b4 = true → B ≤ gt)) (f_lx : Hid (b5 = true → B ≤ gx)) (f_tt : Hid (b4 = true → LtV w gt)) (f_tx : Hid (b5 = true → LtV w gx)) (f_n2 : Hid (b4 = true → (b5 = true → gt ≠ gx))) (f_st : Hid (b6 = true → Bk w gt (tbC NM (some ⟨g, 0, none⟩) N cg (KI : Nat) only none 0 0) 47)) (f_q4 : Hid (b6 = true → b4 = true)) (f_sx : Hid (b7 = true → Bk w gx (tbC NM (some ⟨g, 0, none⟩) N cg (KI : Nat) only none 0 0) 48)) (f_q5 : Hid (b7 = true → b5 = true)) : TPl6 B gs NM g N cg KI only a0 w0 L a w
set_option maxRecDepth 100000 in
set_option maxHeartbeats 8000000 in
theorem tablePlays_walk (l : List UInt8) (ao : Option Addr) (n c : Nat) (key : Int) (only : Bool) (cs : List Co) (aa : Option Addr) (an ac : Nat) (la : List At10) (w : World) (_hl : l.length ≤ maxLen) (_hkey : (Lit.int .i64 key).wf = true) (h : IsR encCo w ao n c cs) (_hcs : ∀ x ∈ cs, (Lit.int .i64 x.kind).wf = true ∧ x.name.length ≤ maxLen) (hA : IsR EAt w aa an ac la) (hact : ∀ a ∈ la, a.ok w) :
    Calls Try.prog 4 #[scV l ao n c key only, .slice aa an ac] w (Told w true) := by
  unfold scV
  have X0 := ScB.new w l ao n c key only
  have B0 := (Below.refl w.heap.size w).alloc (Nat.le_refl _) (.cells #[.string (bsOf l), .slice ao n c, .int .i64 key, .bool only] 40)
  go_enter Try.func4, Try.ntmps4
  go_upto_region 1 with fail
  generalize w.alloc (.cells #[.string (bsOf l), .slice ao n c, .int .i64 key, .bool only] 40) = W0 at X0 B0 ⊢
  obtain ⟨p0, hp0⟩ : ∃ p0, w.heap.size = p0 := ⟨_, rfl⟩
  have HP := Lib.hid hp0
  rw [hp0] at X0 B0
  simp only [hp0]
  clear hp0
  have hW0 : p0 ≤ W0.heap.size := Nat.le_of_lt X0.lt
  go_upto_region 3 with (go_at_call 14; refine (known10 _).mono ?_; rintro e w1 ⟨rfl, b1⟩)
  have X1 := X0.past b1
  have B1 := B0.trans (b1.mono hW0)
  have hW1 := Nat.le_trans hW0 b1.size
  have h1 : IsR encCo w1 ao n c cs := h.past (by rw [HP.out]; exact B1)
  have HFw := few9_any w1 l ao n c cs key only h1
  unfold scV at HFw
  have y0 : w1.cell? ⟨p0, 0, none⟩ = some (.string (bsOf l)) := cell_blk X1 rfl
  have y1 : w1.cell? ⟨p0, 1, none⟩ = some (.slice ao n c) := cell_blk X1 rfl
  have y2 : w1.cell? ⟨p0, 2, none⟩ = some (.int .i64 key) := cell_blk X1 rfl
  have y3 : w1.cell? ⟨p0, 3, none⟩ = some (.bool only) := cell_blk X1 rfl
  cases hfw : fewS l cs
  · rw [hfw] at HFw
    go_wp2_with (go_at_call 15; refine HFw.mono ?_; rintro e w2 ⟨rfl, b2⟩)
    go_ret
    exact ⟨rfl, by rw [HP.out]; exact B1.trans (b2.mono hW1)⟩
  rw [hfw] at HFw
  have hn9 : n ≤ 9 := by
    unfold fewS at hfw
    simp only [Bool.and_eq_true, decide_eq_true_eq] at hfw
    have := h.len
    omega
  clear hfw
  obtain ⟨vsf, hvsf⟩ := acts_vs hact
  have HF10 := fun (w2 : World) (b : Below w1.heap.size w1 w2) => few10_any w2 aa an ac la (hA.past (show Below w.heap.size w w2 by rw [HP.out]; exact B1.trans (b.mono hW1))) vsf (fun a ha => (hvsf a ha).past (show Below w.heap.size w w2 by rw [HP.out]; exact B1.trans (b.mono hW1)))
  cases hf10 : few10B vsf an la
  · simp only [hf10] at HF10
    go_wp2_with (first
      | (go_at_call 15; refine HFw.mono ?_; rintro e w2 ⟨rfl, b2⟩)
      | (go_at_call 16; refine (HF10 _ b2).mono ?_; rintro e w4 ⟨rfl, b4⟩))
    go_ret
    exact ⟨rfl, by rw [HP.out]; exact (B1.trans (b2.mono hW1)).trans (b4.mono (Nat.le_trans hW1 b2.size))⟩
  simp only [hf10] at HF10
  obtain ⟨hn60, hv12⟩ := few10_true hf10
  clear hf10
  go_upto_region 5 with (first
    | (go_at_call 15; refine HFw.mono ?_; rintro e w2a ⟨rfl, b2a⟩)
    | (go_at_call 16; refine (HF10 _ b2a).mono ?_; rintro e w2 ⟨rfl, b2b⟩))
  have b2 := b2a.trans (b2b.mono b2a.size)
  clear HF10 b2a b2b
  have X2 := X1.past b2
  have B2 := B1.trans (b2.mono hW1)
  have hW2 := Nat.le_trans hW1 b2.size
  have h2 := h1.past b2
  clear y0 y1 y2 y3 HFw
  have y0 : w2.cell? ⟨p0, 0, none⟩ = some (.string (bsOf l)) := cell_blk X2 rfl
  have y1 : w2.cell? ⟨p0, 1, none⟩ = some (.slice ao n c) := cell_blk X2 rfl
  have y2 : w2.cell? ⟨p0, 2, none⟩ = some (.int .i64 key) := cell_blk X2 rfl
  have y3 : w2.cell? ⟨p0, 3, none⟩ = some (.bool only) := cell_blk X2 rfl
  have HG := good9_any w2 l ao n c cs key 3 only h2 (by omega)
  unfold GoodIs scV at HG
  have hNp := gN_pos cs
  have hKl := (gKey_lt cs key).1
  have hFl := gFin_len cs key
  have hFk := gFin_kinds cs key
  have hFn := gFin_keyN cs key
  obtain ⟨N, hN⟩ : ∃ N, gN cs = N := ⟨_, rfl⟩
  obtain ⟨KI, hKI⟩ : ∃ KI, gKey cs key = KI := ⟨_, rfl⟩
  obtain ⟨F, hF⟩ : ∃ F, gFin cs key = F := ⟨_, rfl⟩
  obtain ⟨NM, hNM⟩ : ∃ NM, gNm 3 = NM := ⟨_, rfl⟩
  simp only [hN, hKI, hF, hNM] at HG hNp hKl hFl hFk hFn
  clear hN hKI hF hNM
  go_upto_region 6 with (go_at_call 17; refine HG.mono ?_; rintro e w3 ⟨g, cg, rfl, og, b3, q3⟩)
  have hW3 := Nat.le_trans hW2 b3.size
  have B3 : Below p0 w (w3.alloc (.cells #[.string (bsOf NM), .slice (some ⟨g, 0, none⟩) N cg, .int .i64 (KI : Nat), .bool only] 40)) := (B2.trans (b3.mono hW2)).alloc hW3 _
  have XS : Bk (w3.alloc (.cells #[.string (bsOf NM), .slice (some ⟨g, 0, none⟩) N cg, .int .i64 (KI : Nat), .bool only] 40)) w3.heap.size (scC NM (some ⟨g, 0, none⟩) N cg (KI : Nat) only) 40 := Bk.new w3 _ _
  have oG := og.alloc (.cells #[.string (bsOf NM), .slice (some ⟨g, 0, none⟩) N cg, .int .i64 (KI : Nat), .bool only] 40)
  have hgl := og.lt
  have hg0 : p0 ≤ g := Nat.le_trans hW2 q3
  generalize w3.alloc (.cells #[.string (bsOf NM), .slice (some ⟨g, 0, none⟩) N cg, .int .i64 (KI : Nat), .bool only] 40) = W at B3 XS oG ⊢
  obtain ⟨gs, hgs⟩ : ∃ gs, w3.heap.size = gs := ⟨_, rfl⟩
  rw [hgs] at XS hgl hW3
  simp only [hgs]
  obtain ⟨z0, z1, z2, z3⟩ := sc_cells XS
  have hgsW : gs < W.heap.size := XS.lt
  have iG := oG.isR
  clear hgs og b3 q3 HG y0 y1 y2 y3 X2 X1 X0 B2 B1 B0 b1 b2 h2 h1 hW2 hW1 hW0
  have hgsB := hgsW
  have hB0 : W.heap.size ≤ W.heap.size := Nat.le_refl _
  refine region_inv (TPl6 W.heap.size gs NM g N cg KI only) (by kernel_rfl) (by kernel_rfl) ?_ ?_ ?_
  · exact ⟨false, false, false, false, false, false, false, false, undef, undef, undef, undef, undef, undef, 0, 0, rfl, (by simp only [Act.put, List.setIfInBounds_toArray, List.set_cons_zero, List.set_cons_succ]), Below.refl _ _, (fun h => by cases h), (fun h => by cases h), (fun h => by cases h), (fun h => by cases h), (fun h => by cases h), (fun h => by cases h), (fun h => by cases h), (fun h => by cases h), (fun h => by cases h), (fun h => by cases h), (fun h => by cases h), (fun h => by cases h), (fun h => by cases h), (fun h => by cases h), (fun h => by cases h), (fun h => by cases h), (fun h => by cases h)⟩
  · refine ⟨?_, ?_, ?_, ?_, ?_, ?_, ?_, ?_, trivial⟩
    · rintro L a w ⟨b0, b1, b2, b3, b4, b5, b6, b7, x38, x39, x40, x41, x6, x7, gt, gx, rfl, rfl, hb, cd0, cd1, cd2, cd3, cd4, cd5, f_zt, f_zx, f_lt, f_lx, f_tt, f_tx, f_n2, f_st, f_q4, f_sx, f_q5⟩ hf hd
      have hf' : b0 = false := hf
      subst hf'
      clear hf hd
      try simp only [List.setIfInBounds_toArray, List.set_cons_zero, List.set_cons_succ]
      have z0 := (hb.cell hgsB).trans z0
      have z1 := (hb.cell hgsB).trans z1
      have z2 := (hb.cell hgsB).trans z2
      have z3 := (hb.cell hgsB).trans z3
      intro K hK
      rw [if_pos (by rfl)]
      go_simp
      exact hK.out _ _ ⟨true, b1, b2, b3, b4, b5, b6, b7, (.agg #[.string (bsOf NM), .slice (some ⟨g, 0, none⟩) N cg, .int .i64 (KI : Nat), .bool only]), x39, x40, x41, x6, x7, gt, gx, (by simp only [Act.put, List.setIfInBounds_toArray, List.set_cons_zero, List.set_cons_succ]), (by simp only [Act.put, List.setIfInBounds_toArray, List.set_cons_zero, List.set_cons_succ]), hb, (fun _ => rfl), cd1, cd2, cd3, cd4, cd5, f_zt, f_zx, f_lt, f_lx, f_tt, f_tx, f_n2, f_st, f_q4, f_sx, f_q5⟩
    · rintro L a w ⟨b0, b1, b2, b3, b4, b5, b6, b7, x38, x39, x40, x41, x6, x7, gt, gx, rfl, rfl, hb, cd0, cd1, cd2, cd3, cd4, cd5, f_zt, f_zx, f_lt, f_lx, f_tt, f_tx, f_n2, f_st, f_q4, f_sx, f_q5⟩ hf hd
      have hf' : b1 = false := hf
      subst hf'
      have d0 : b0 = true := hd ⟨0, .data⟩ (by simp) rfl
      subst d0
      obtain rfl := cd0.out rfl
      clear hf hd
      try simp only [List.setIfInBounds_toArray, List.set_cons_zero, List.set_cons_succ]
      intro K hK
      rw [if_pos (by rfl)]
      go_simp
      exact hK.out _ _ ⟨true, true, b2, b3, b4, b5, b6, b7, .agg #[.string (bsOf NM), .slice (some ⟨g, 0, none⟩) N cg, .int .i64 (KI : Nat), .bool only], (.agg #[.string (bsOf NM), .slice (some ⟨g, 0, none⟩) N cg, .int .i64 (KI : Nat), .bool only, .slice none 0 0]), x40, x41, x6, x7, gt, gx, (by simp only [Act.put, List.setIfInBounds_toArray, List.set_cons_zero, List.set_cons_succ]), (by simp only [Act.put, List.setIfInBounds_toArray, List.set_cons_zero, List.set_cons_succ]), hb, (fun _ => rfl), (fun _ => rfl), cd2, cd3, cd4, cd5, f_zt, f_zx, f_lt, f_lx, f_tt, f_tx, f_n2, f_st, f_q4, f_sx, f_q5⟩
    · rintro L a w ⟨b0, b1, b2, b3, b4, b5, b6, b7, x38, x39, x40, x41, x6, x7, gt, gx, rfl, rfl, hb, cd0, cd1, cd2, cd3, cd4, cd5, f_zt, f_zx, f_lt, f_lx, f_tt, f_tx, f_n2, f_st, f_q4, f_sx, f_q5⟩ hf hd
      have hf' : b2 = false := hf
      subst hf'
      clear hf hd
      try simp only [List.setIfInBounds_toArray, List.set_cons_zero, List.set_cons_succ]
      have z0 := (hb.cell hgsB).trans z0
      have z1 := (hb.cell hgsB).trans z1
      have z2 := (hb.cell hgsB).trans z2
      have z3 := (hb.cell hgsB).trans z3
      intro K hK
      rw [if_pos (by rfl)]
      go_simp
      exact hK.out _ _ ⟨b0, b1, true, b3, b4, b5, b6, b7, x38, x39, (.agg #[.string (bsOf NM), .slice (some ⟨g, 0, none⟩) N cg, .int .i64 (KI : Nat), .bool only]), x41, x6, x7, gt, gx, (by simp only [Act.put, List.setIfInBounds_toArray, List.set_cons_zero, List.set_cons_succ]), (by simp only [Act.put, List.setIfInBounds_toArray, List.set_cons_zero, List.set_cons_succ]), hb, cd0, cd1, (fun _ => rfl), cd3, cd4, cd5, f_zt, f_zx, f_lt, f_lx, f_tt, f_tx, f_n2, f_st, f_q4, f_sx, f_q5⟩
    · rintro L a w ⟨b0, b1, b2, b3, b4, b5, b6, b7, x38, x39, x40, x41, x6, x7, gt, gx, rfl, rfl, hb, cd0, cd1, cd2, cd3, cd4, cd5, f_zt, f_zx, f_lt, f_lx, f_tt, f_tx, f_n2, f_st, f_q4, f_sx, f_q5⟩ hf hd
      have hf' : b3 = false := hf
      subst hf'
      have d2 : b2 = true := hd ⟨2, .data⟩ (by simp) rfl
      subst d2
      obtain rfl := cd2.out rfl
      clear hf hd
      try simp only [List.setIfInBounds_toArray, List.set_cons_zero, List.set_cons_succ]
      intro K hK
      rw [if_pos (by rfl)]
      go_simp
      exact hK.out _ _ ⟨b0, b1, true, true, b4, b5, b6, b7, x38, x39, .agg #[.string (bsOf NM), .slice (some ⟨g, 0, none⟩) N cg, .int .i64 (KI : Nat), .bool only], (.agg #[.string (bsOf NM), .slice (some ⟨g, 0, none⟩) N cg, .int .i64 (KI : Nat), .bool only, .slice none 0 0]), x6, x7, gt, gx, (by simp only [Act.put, List.setIfInBounds_toArray, List.set_cons_zero, List.set_cons_succ]), (by simp only [Act.put, List.setIfInBounds_toArray, List.set_cons_zero, List.set_cons_succ]), hb, cd0, cd1, (fun _ => rfl), (fun _ => rfl), cd4, cd5, f_zt, f_zx, f_lt, f_lx, f_tt, f_tx, f_n2, f_st, f_q4, f_sx, f_q5⟩
    · rintro L a w ⟨b0, b1, b2, b3, b4, b5, b6, b7, x38, x39, x40, x41, x6, x7, gt, gx, rfl, rfl, hb, cd0, cd1, cd2, cd3, cd4, cd5, f_zt, f_zx, f_lt, f_lx, f_tt, f_tx, f_n2, f_st, f_q4, f_sx, f_q5⟩ hf hd
      have hf' : b4 = false := hf
      subst hf'
      clear hf hd
      try simp only [List.setIfInBounds_toArray, List.set_cons_zero, List.set_cons_succ]
      intro K hK
      rw [if_pos (by rfl)]
      go_simp
      have bx : Below w.heap.size w (w.alloc (.cells #[.string ⟨#[]⟩, .slice none 0 0, .int .i64 0, .bool false, .slice none 0 0] 47)) := (Below.refl _ _).alloc (Nat.le_refl _) _
      exact hK.out _ _ ⟨b0, b1, b2, b3, true, b5, b6, b7, x38, x39, x40, x41, (.pointer (some ⟨(w.heap.size), 0, none⟩)), x7, w.heap.size, gx, (by simp only [Act.put, List.setIfInBounds_toArray, List.set_cons_zero, List.set_cons_succ]), (by simp only [Act.put, List.setIfInBounds_toArray, List.set_cons_zero, List.set_cons_succ]), hb.trans (bx.mono (Nat.le_trans hB0 hb.size)), cd0, cd1, cd2, cd3, (fun _ => rfl), cd5, (fun _ _ => Bk.new w _ _), (fun h0 h1 => (f_zx.out h0 h1).past bx), (fun _ => hb.size), f_lx, (fun _ => (by show _ < _; rw [World.size_alloc]; omega)), (fun h0 => (f_tx.out h0).past bx), (fun _ => fun h e => Nat.ne_of_gt (f_tx.out h) e), (fun h0 => absurd (f_q4.out h0) (by simp)), (fun _ => rfl), (fun h0 => (f_sx.out h0).past bx), f_q5⟩
    · rintro L a w ⟨b0, b1, b2, b3, b4, b5, b6, b7, x38, x39, x40, x41, x6, x7, gt, gx, rfl, rfl, hb, cd0, cd1, cd2, cd3, cd4, cd5, f_zt, f_zx, f_lt, f_lx, f_tt, f_tx, f_n2, f_st, f_q4, f_sx, f_q5⟩ hf hd
      have hf' : b5 = false := hf
      subst hf'
      clear hf hd
      try simp only [List.setIfInBounds_toArray, List.set_cons_zero, List.set_cons_succ]
      intro K hK
      rw [if_pos (by rfl)]
      go_simp
      have bx : Below w.heap.size w (w.alloc (.cells #[.string ⟨#[]⟩, .slice none 0 0, .int .i64 0, .bool false, .slice none 0 0] 48)) := (Below.refl _ _).alloc (Nat.le_refl _) _
      exact hK.out _ _ ⟨b0, b1, b2, b3, b4, true, b6, b7, x38, x39, x40, x41, x6, (.pointer (some ⟨(w.heap.size), 0, none⟩)), gt, w.heap.size, (by simp only [Act.put, List.setIfInBounds_toArray, List.set_cons_zero, List.set_cons_succ]), (by simp only [Act.put, List.setIfInBounds_toArray, List.set_cons_zero, List.set_cons_succ]), hb.trans (bx.mono (Nat.le_trans hB0 hb.size)), cd0, cd1, cd2, cd3, cd4, (fun _ => rfl), (fun h0 h1 => (f_zt.out h0 h1).past bx), (fun _ _ => Bk.new w _ _), f_lt, (fun _ => hb.size), (fun h0 => (f_tt.out h0).past bx), (fun _ => (by show _ < _; rw [World.size_alloc]; omega)), (fun h0 _ e => Nat.ne_of_gt (f_tt.out h0) e.symm), (fun h0 => (f_st.out h0).past bx), f_q4, (fun h0 => absurd (f_q5.out h0) (by simp)), (fun _ => rfl)⟩
    · rintro L a w ⟨b0, b1, b2, b3, b4, b5, b6, b7, x38, x39, x40, x41, x6, x7, gt, gx, rfl, rfl, hb, cd0, cd1, cd2, cd3, cd4, cd5, f_zt, f_zx, f_lt, f_lx, f_tt, f_tx, f_n2, f_st, f_q4, f_sx, f_q5⟩ hf hd
      have hf' : b6 = false := hf
      subst hf'
      have d4 : b4 = true := hd ⟨4, .data⟩ (by simp) rfl
      subst d4
      have d1 : b1 = true := hd ⟨1, .data⟩ (by simp) rfl
      subst d1
      have d0 : b0 = true := hd ⟨0, .phase⟩ (by simp) rfl
      subst d0
      have d5 : b5 = true := hd ⟨5, .phase⟩ (by simp) rfl
      subst d5
      obtain rfl := cd4.out rfl
      obtain rfl := cd1.out rfl
      obtain rfl := cd0.out rfl
      obtain rfl := cd5.out rfl
      clear hf hd
      have W_zt := f_zt.out rfl rfl
      have W_lt := f_lt.out rfl
      have W_lx := f_lx.out rfl
      have W_tt := f_tt.out rfl
      have W_tx := f_tx.out rfl
      have W_n2 := f_n2.out rfl
      try simp only [List.setIfInBounds_toArray, List.set_cons_zero, List.set_cons_succ]
      intro K hK
      rw [if_pos (by rfl)]
      refine wp_store_blkT 47 _ _ rfl gt (tbC [] none 0 0 0 false none 0 0) (tbC NM (some ⟨g, 0, none⟩) N cg (KI : Nat) only none 0 0) rfl rfl _ (Lib.hid W_zt) 5 szTb (tbC_size ..) (tbC_size ..) (tbC_all ..) fun w2 h8 g8 => ?_
      have hb2 := hb.grown g8 (Nat.le_trans hB0 hb.size) (fun z hz => by cases hz; exact W_lt)
      exact hK.out _ _ ⟨true, true, b2, b3, true, true, true, b7, .agg #[.string (bsOf NM), .slice (some ⟨g, 0, none⟩) N cg, .int .i64 (KI : Nat), .bool only], .agg #[.string (bsOf NM), .slice (some ⟨g, 0, none⟩) N cg, .int .i64 (KI : Nat), .bool only, .slice none 0 0], x40, x41, .pointer (some ⟨gt, 0, none⟩), .pointer (some ⟨gx, 0, none⟩), gt, gx, (by simp only [Act.put, List.setIfInBounds_toArray, List.set_cons_zero, List.set_cons_succ]), (by simp only [Act.put, List.setIfInBounds_toArray, List.set_cons_zero, List.set_cons_succ]), hb2, (fun _ => rfl), (fun _ => rfl), cd2, cd3, (fun _ => rfl), (fun _ => rfl), (fun _ h => by cases h), (fun h0 h1 => ((f_zx.out h0 h1)).grown g8 (fun e => f_n2.out rfl h0 (Option.some.inj e).symm)), f_lt, f_lx, (fun h0 => Nat.lt_of_lt_of_le ((f_tt.out h0)) g8.size), (fun h0 => Nat.lt_of_lt_of_le ((f_tx.out h0)) g8.size), f_n2, (fun _ => h8.out), (fun _ => rfl), (fun h0 => ((f_sx.out h0)).grown g8 (fun e => f_n2.out rfl rfl (Option.some.inj e).symm)), f_q5⟩
    · rintro L a w ⟨b0, b1, b2, b3, b4, b5, b6, b7, x38, x39, x40, x41, x6, x7, gt, gx, rfl, rfl, hb, cd0, cd1, cd2, cd3, cd4, cd5, f_zt, f_zx, f_lt, f_lx, f_tt, f_tx, f_n2, f_st, f_q4, f_sx, f_q5⟩ hf hd
      have hf' : b7 = false := hf
      subst hf'
      have d5 : b5 = true := hd ⟨5, .data⟩ (by simp) rfl
      subst d5
      have d3 : b3 = true := hd ⟨3, .data⟩ (by simp) rfl
      subst d3
      have d6 : b6 = true := hd ⟨6, .chain⟩ (by simp) rfl
      subst d6
      have d0 : b0 = true := hd ⟨0, .phase⟩ (by simp) rfl
      subst d0
      have d1 : b1 = true := hd ⟨1, .phase⟩ (by simp) rfl
      subst d1
      have d2 : b2 = true := hd ⟨2, .phase⟩ (by simp) rfl
      subst d2
      have d4 : b4 = true := hd ⟨4, .phase⟩ (by simp) rfl
      subst d4
      obtain rfl := cd5.out rfl
      obtain rfl := cd3.out rfl
      obtain rfl := cd0.out rfl
      obtain rfl := cd1.out rfl
      obtain rfl := cd2.out rfl
      obtain rfl := cd4.out rfl
      clear hf hd
      have W_zx := f_zx.out rfl rfl
      have W_lt := f_lt.out rfl
      have W_lx := f_lx.out rfl
      have W_tt := f_tt.out rfl
      have W_tx := f_tx.out rfl
      have W_n2 := f_n2.out rfl
      have W_st := f_st.out rfl
      have W_q4 := f_q4.out rfl
      try simp only [List.setIfInBounds_toArray, List.set_cons_zero, List.set_cons_succ]
      intro K hK
      rw [if_pos (by rfl)]
      refine wp_store_blkT 48 _ _ rfl gx (tbC [] none 0 0 0 false none 0 0) (tbC NM (some ⟨g, 0, none⟩) N cg (KI : Nat) only none 0 0) rfl rfl _ (Lib.hid W_zx) 5 szRT (tbC_size ..) (tbC_size ..) (tbC_all ..) fun w2 h8 g8 => ?_
      have hb2 := hb.grown g8 (Nat.le_trans hB0 hb.size) (fun z hz => by cases hz; exact W_lx)
      exact hK.out _ _ ⟨true, true, true, true, true, true, true, true, .agg #[.string (bsOf NM), .slice (some ⟨g, 0, none⟩) N cg, .int .i64 (KI : Nat), .bool only], .agg #[.string (bsOf NM), .slice (some ⟨g, 0, none⟩) N cg, .int .i64 (KI : Nat), .bool only, .slice none 0 0], .agg #[.string (bsOf NM), .slice (some ⟨g, 0, none⟩) N cg, .int .i64 (KI : Nat), .bool only], .agg #[.string (bsOf NM), .slice (some ⟨g, 0, none⟩) N cg, .int .i64 (KI : Nat), .bool only, .slice none 0 0], .pointer (some ⟨gt, 0, none⟩), .pointer (some ⟨gx, 0, none⟩), gt, gx, (by simp only [Act.put, List.setIfInBounds_toArray, List.set_cons_zero, List.set_cons_succ]), (by simp only [Act.put, List.setIfInBounds_toArray, List.set_cons_zero, List.set_cons_succ]), hb2, (fun _ => rfl), (fun _ => rfl), (fun _ => rfl), (fun _ => rfl), (fun _ => rfl), (fun _ => rfl), (fun _ h => by cases h), (fun _ h => by cases h), f_lt, f_lx, (fun h0 => Nat.lt_of_lt_of_le ((f_tt.out h0)) g8.size), (fun h0 => Nat.lt_of_lt_of_le ((f_tx.out h0)) g8.size), f_n2, (fun h0 => ((f_st.out h0)).grown g8 (fun e => f_n2.out rfl rfl (Option.some.inj e))), f_q4, (fun _ => h8.out), (fun _ => rfl)⟩
  · rintro act V6 ⟨b0, b1, b2, b3, b4, b5, b6, b7, x38, x39, x40, x41, x6, x7, gt, gx, hL, rfl, hb, cd0, cd1, cd2, cd3, cd4, cd5, f_zt, f_zx, f_lt, f_lx, f_tt, f_tx, f_n2, f_st, f_q4, f_sx, f_q5⟩
    have hL' : [true, true, true, true, true, true, true, true] = [b0, b1, b2, b3, b4, b5, b6, b7] := congrArg Array.toList hL
    simp only [List.cons.injEq, and_true] at hL'
    obtain ⟨rfl, rfl, rfl, rfl, rfl, rfl, rfl, rfl⟩ := hL'
    obtain rfl := cd0.out rfl
    obtain rfl := cd1.out rfl
    obtain rfl := cd2.out rfl
    obtain rfl := cd3.out rfl
    obtain rfl := cd4.out rfl
    obtain rfl := cd5.out rfl
    have W_lt := f_lt.out rfl
    have W_lx := f_lx.out rfl
    have W_tt := f_tt.out rfl
    have W_tx := f_tx.out rfl
    have W_n2 := f_n2.out rfl
    have W_st := f_st.out rfl
    have W_q4 := f_q4.out rfl
    have W_sx := f_sx.out rfl
    have W_q5 := f_q5.out rfl
    clear hL f_zt f_zx f_lt f_lx f_tt f_tx f_n2 f_st f_q4 f_sx f_q5 cd0 cd1 cd2 cd3 cd4 cd5
    simp only [List.setIfInBounds_toArray, List.set_cons_zero, List.set_cons_succ]
    have bV : Below W.heap.size W V6 := (Below.refl _ _).drew.trans hb
    have hpW : p0 ≤ W.heap.size := by omega
    have B := B3.trans (bV.mono hpW)
    have hgtx := W_n2 rfl
    have hgtS : gt < V6.heap.size := W_tt
    have hgxS : gx < V6.heap.size := W_tx
    have hgtW := W_lt
    have hgxW := W_lx
    have D0 : TwAt V6 gs gt gx V6.heap.size NM g N cg KI only F [] := ⟨_, _, _, _, _, _, _, _, ⟨XS.past bV, iG.past bV, W_st, iG.past bV, (fun a ha => by cases ha; exact ⟨by show g ≠ gt; omega, by show g ≠ gx; omega⟩), IsRR.nil _ _, W_sx, IsRR.nil _ _⟩⟩
    have hpS : p0 ≤ V6.heap.size := Nat.le_trans hpW bV.size
    have hgsgt : gs < gt := by omega
    have hgsgx : gs < gx := by omega
    clear hb W_n2 W_tt W_tx W_lt W_lx W_st W_sx W_q4 W_q5 XS iG oG B3 z0 z1 z2 z3 bV hgtW hgxW hgsB hB0
    obtain ⟨S, hS⟩ : ∃ z_, V6.heap.size = z_ := ⟨_, rfl⟩
    have hSw : S ≤ V6.heap.size := by omega
    rw [hS] at D0 hgtS hgxS hpS
    clear hS
    generalize V6 = U0 at D0 B hSw ⊢
    have hok0 : Hid (RowsOk F KI []) := Lib.hid (RowsOk.nil F KI)
    go_wp2_with fail
    go_loopw [8] (fun zi wr => ∃ (i : Nat) (rs : List (List V)), i ≤ an ∧ zi = .int .i64 (i : Nat) ∧ TwAt wr gs gt gx S NM g N cg KI only F rs ∧ Hid (RowsOk F KI rs) ∧ Hid (rs.length ≤ i) ∧ S ≤ wr.heap.size ∧ Below p0 w wr) (fun zi _ => an - (intOf zi).toNat)
    case atStart => exact ⟨0, [], Nat.zero_le _, rfl, D0, hok0, Lib.hid (Nat.le_refl _), hSw, B⟩
    case round =>
      clear D0 hok0 B
      obtain ⟨i, rs, hi, rfl, D0, hok, hln, hSw, B⟩ := hrel
      obtain ⟨co, cc, ro, rn, rc, xo, xn, xc, DD⟩ := D0
      have hpw := Nat.le_trans hpS hSw
      by_cases hlt : i < an
      · have hlti : (i : Int) < (an : Int) := by omega
        have hlr := DD.rT.len
        have hlx := DD.rX.len
        have hlnO := hln.out
        have hrn3 : rn ≤ 100 := by omega
        have hxn3 : xn ≤ 100 := by omega
        clear hlr hlx hlnO
        obtain ⟨a, hai⟩ : ∃ a, la[i]? = some a := ⟨la[i]'(by have := hA.len; omega), List.getElem?_eq_getElem _⟩
        have ham := List.mem_of_getElem? hai
        obtain ⟨ab, aoff, rfl, hab, hac⟩ := hA.open (by omega) (by decide)
        obtain ⟨a0_, a1_, a2_⟩ := cells_at hac i a hai
        have habp : ab < p0 := by rw [← HP.out]; exact hab
        rw [← B.cell (show (⟨ab, aoff + i * 3, none⟩ : Addr).block < p0 from habp)] at a0_
        rw [← B.cell (show (⟨ab, aoff + i * 3 + 1, none⟩ : Addr).block < p0 from habp)] at a1_
        rw [← B.cell (show (⟨ab, aoff + i * 3 + 2, none⟩ : Addr).block < p0 from habp)] at a2_
        obtain ⟨_, hnw, _⟩ := hact a ham
        have hvs := hvsf a ham
        have h12 := hv12 a ham
        obtain ⟨row0, hrow0⟩ : ∃ z_, vsf a = z_ := ⟨_, rfl⟩
        rw [hrow0] at hvs
        clear hac hai ham hrow0
        obtain ⟨k, nn, vo, vn, vc⟩ := a
        simp only at hnw hvs h12 a0_ a1_ a2_
        obtain ⟨t0, t1, t2, t3, t4⟩ := tb_cells DD.hT
        go_upto_region 11 with fail
        have bA : Below wr.heap.size wr (wr.alloc (.cells #[.string (bsOf NM), .slice co N cc, .int .i64 (KI : Nat), .bool only, .slice ro rn rc] 47)) := (Below.refl _ _).alloc (Nat.le_refl _) _
        have hWw : Bk (wr.alloc (.cells #[.string (bsOf NM), .slice co N cc, .int .i64 (KI : Nat), .bool only, .slice ro rn rc] 47)) wr.heap.size (tbC NM co N cc (KI : Nat) only ro rn rc) 47 := Bk.new wr _ _
        have DD := DD.past bA
        have habw : ab < wr.heap.size := by omega
        have a0_ := (bA.cell habw).trans a0_
        have a1_ := (bA.cell habw).trans a1_
        have a2_ := (bA.cell habw).trans a2_
        have B := B.trans (bA.mono hpw)
        have hS0 := Nat.le_trans hSw bA.size
        have hp0_ := Nat.le_trans hpw bA.size
        have habB := Nat.lt_of_lt_of_le habw bA.size
        clear t0 t1 t2 t3 t4 bA habw hSw hpw hab
        generalize wr.alloc (.cells #[.string (bsOf NM), .slice co N cc, .int .i64 (KI : Nat), .bool only, .slice ro rn rc] 47) = Y0 at hWw DD a0_ a1_ a2_ B hS0 hp0_ habB ⊢
        obtain ⟨gw, hgw⟩ : ∃ z_, wr.heap.size = z_ := ⟨_, rfl⟩
        rw [hgw] at hWw
        simp only [hgw]
        clear hgw
        obtain ⟨z0, z1, z2, z3⟩ := sc_cells DD.XS
        have hgsB := DD.XS.lt
        have hB0 : Y0.heap.size ≤ Y0.heap.size := Nat.le_refl _
        have HFit := fun (w' : World) (hb : Below Y0.heap.size Y0.drew w') => fit_any w' NM (some ⟨g, 0, none⟩) N cg F (KI : Nat) only ((DD.iG.past (Below.refl _ _).drew).past hb) (by omega) hFk nn hnw
        unfold scV at HFit
        refine region_inv (TPl11 Y0.heap.size gs NM g N cg KI only ab aoff an ac i nn F) (by kernel_rfl) (by kernel_rfl) ?_ ?_ ?_
        · exact ⟨false, false, false, false, false, false, false, false, u49, u50, u51, u52, u53, u54, u55, u10, none, 0, rfl, (by simp only [Act.put, List.setIfInBounds_toArray, List.set_cons_zero, List.set_cons_succ]), Below.refl _ _, (fun h => by cases h), (fun h => by cases h), (fun h => by cases h), (fun h => by cases h), (fun h => by cases h), (fun h => by cases h), (fun h => by cases h), (fun h => by cases h), (fun h => by cases h), (fun h => by cases h)⟩
        · refine ⟨?_, ?_, ?_, ?_, ?_, ?_, ?_, ?_, trivial⟩
          · rintro L a w ⟨b0, b1, b2, b3, b4, b5, b6, b7, x49, x50, x51, x52, x53, x54, x55, x10, ra, rca, rfl, rfl, hb, cd0, cd1, cd2, cd3, cd4, cd5, cd6, cd7, f_r, w_7_6⟩ hf hd
            have hf' : b0 = false := hf
            subst hf'
            clear hf hd
            try simp only [List.setIfInBounds_toArray, List.set_cons_zero, List.set_cons_succ]
            have z0 := (hb.cell hgsB).trans z0
            have z1 := (hb.cell hgsB).trans z1
            have z2 := (hb.cell hgsB).trans z2
            have z3 := (hb.cell hgsB).trans z3
            intro K hK
            rw [if_pos (by rfl)]
            go_simp
            exact hK.out _ _ ⟨true, b1, b2, b3, b4, b5, b6, b7, (.agg #[.string (bsOf NM), .slice (some ⟨g, 0, none⟩) N cg, .int .i64 (KI : Nat), .bool only]), x50, x51, x52, x53, x54, x55, x10, ra, rca, (by simp only [Act.put, List.setIfInBounds_toArray, List.set_cons_zero, List.set_cons_succ]), (by simp only [Act.put, List.setIfInBounds_toArray, List.set_cons_zero, List.set_cons_succ]), hb, (fun _ => rfl), cd1, cd2, cd3, cd4, cd5, cd6, cd7, f_r, w_7_6⟩
          · rintro L a w ⟨b0, b1, b2, b3, b4, b5, b6, b7, x49, x50, x51, x52, x53, x54, x55, x10, ra, rca, rfl, rfl, hb, cd0, cd1, cd2, cd3, cd4, cd5, cd6, cd7, f_r, w_7_6⟩ hf hd
            have hf' : b1 = false := hf
            subst hf'
            clear hf hd
            try simp only [List.setIfInBounds_toArray, List.set_cons_zero, List.set_cons_succ]
            intro K hK
            rw [if_pos (by rfl)]
            go_simp
            exact hK.out _ _ ⟨b0, true, b2, b3, b4, b5, b6, b7, x49, (.slice (some ⟨ab, aoff, none⟩) an ac), x51, x52, x53, x54, x55, x10, ra, rca, (by simp only [Act.put, List.setIfInBounds_toArray, List.set_cons_zero, List.set_cons_succ]), (by simp only [Act.put, List.setIfInBounds_toArray, List.set_cons_zero, List.set_cons_succ]), hb, cd0, (fun _ => rfl), cd2, cd3, cd4, cd5, cd6, cd7, f_r, w_7_6⟩
          · rintro L a w ⟨b0, b1, b2, b3, b4, b5, b6, b7, x49, x50, x51, x52, x53, x54, x55, x10, ra, rca, rfl, rfl, hb, cd0, cd1, cd2, cd3, cd4, cd5, cd6, cd7, f_r, w_7_6⟩ hf hd
            have hf' : b2 = false := hf
            subst hf'
            clear hf hd
            try simp only [List.setIfInBounds_toArray, List.set_cons_zero, List.set_cons_succ]
            intro K hK
            rw [if_pos (by rfl)]
            go_simp
            exact hK.out _ _ ⟨b0, b1, true, b3, b4, b5, b6, b7, x49, x50, (.int .i64 (i : Nat)), x52, x53, x54, x55, x10, ra, rca, (by simp only [Act.put, List.setIfInBounds_toArray, List.set_cons_zero, List.set_cons_succ]), (by simp only [Act.put, List.setIfInBounds_toArray, List.set_cons_zero, List.set_cons_succ]), hb, cd0, cd1, (fun _ => rfl), cd3, cd4, cd5, cd6, cd7, f_r, w_7_6⟩
          · rintro L a w ⟨b0, b1, b2, b3, b4, b5, b6, b7, x49, x50, x51, x52, x53, x54, x55, x10, ra, rca, rfl, rfl, hb, cd0, cd1, cd2, cd3, cd4, cd5, cd6, cd7, f_r, w_7_6⟩ hf hd
            have hf' : b3 = false := hf
            subst hf'
            have d1 : b1 = true := hd ⟨1, .data⟩ (by simp) rfl
            subst d1
            have d2 : b2 = true := hd ⟨2, .data⟩ (by simp) rfl
            subst d2
            obtain rfl := cd1.out rfl
            obtain rfl := cd2.out rfl
            clear hf hd
            try simp only [List.setIfInBounds_toArray, List.set_cons_zero, List.set_cons_succ]
            intro K hK
            rw [if_pos (by rfl)]
            go_simp
            exact hK.out _ _ ⟨b0, true, true, true, b4, b5, b6, b7, x49, .slice (some ⟨ab, aoff, none⟩) an ac, .int .i64 (i : Nat), (.pointer (some ⟨ab, aoff + i * 3, none⟩)), x53, x54, x55, x10, ra, rca, (by simp only [Act.put, List.setIfInBounds_toArray, List.set_cons_zero, List.set_cons_succ]), (by simp only [Act.put, List.setIfInBounds_toArray, List.set_cons_zero, List.set_cons_succ]), hb, cd0, (fun _ => rfl), (fun _ => rfl), (fun _ => rfl), cd4, cd5, cd6, cd7, f_r, w_7_6⟩
          · rintro L a w ⟨b0, b1, b2, b3, b4, b5, b6, b7, x49, x50, x51, x52, x53, x54, x55, x10, ra, rca, rfl, rfl, hb, cd0, cd1, cd2, cd3, cd4, cd5, cd6, cd7, f_r, w_7_6⟩ hf hd
            have hf' : b4 = false := hf
            subst hf'
            have d3 : b3 = true := hd ⟨3, .data⟩ (by simp) rfl
            subst d3
            obtain rfl := cd3.out rfl
            clear hf hd
            try simp only [List.setIfInBounds_toArray, List.set_cons_zero, List.set_cons_succ]
            intro K hK
            rw [if_pos (by rfl)]
            go_simp
            exact hK.out _ _ ⟨b0, b1, b2, true, true, b5, b6, b7, x49, x50, x51, .pointer (some ⟨ab, aoff + i * 3, none⟩), (.pointer (some ⟨ab, aoff + i * 3 + 1, none⟩)), x54, x55, x10, ra, rca, (by simp only [Act.put, List.setIfInBounds_toArray, List.set_cons_zero, List.set_cons_succ]), (by simp only [Act.put, List.setIfInBounds_toArray, List.set_cons_zero, List.set_cons_succ]), hb, cd0, cd1, cd2, (fun _ => rfl), (fun _ => rfl), cd5, cd6, cd7, f_r, w_7_6⟩
          · rintro L a w ⟨b0, b1, b2, b3, b4, b5, b6, b7, x49, x50, x51, x52, x53, x54, x55, x10, ra, rca, rfl, rfl, hb, cd0, cd1, cd2, cd3, cd4, cd5, cd6, cd7, f_r, w_7_6⟩ hf hd
            have hf' : b5 = false := hf
            subst hf'
            have d4 : b4 = true := hd ⟨4, .data⟩ (by simp) rfl
            subst d4
            obtain rfl := cd4.out rfl
            clear hf hd
            try simp only [List.setIfInBounds_toArray, List.set_cons_zero, List.set_cons_succ]
            have z0 := (hb.cell habB).trans a1_
            intro K hK
            rw [if_pos (by rfl)]
            go_simp
            exact hK.out _ _ ⟨b0, b1, b2, b3, true, true, b6, b7, x49, x50, x51, x52, .pointer (some ⟨ab, aoff + i * 3 + 1, none⟩), (.int .i64 nn), x55, x10, ra, rca, (by simp only [Act.put, List.setIfInBounds_toArray, List.set_cons_zero, List.set_cons_succ]), (by simp only [Act.put, List.setIfInBounds_toArray, List.set_cons_zero, List.set_cons_succ]), hb, cd0, cd1, cd2, cd3, (fun _ => rfl), (fun _ => rfl), cd6, cd7, f_r, w_7_6⟩
          · rintro L a w ⟨b0, b1, b2, b3, b4, b5, b6, b7, x49, x50, x51, x52, x53, x54, x55, x10, ra, rca, rfl, rfl, hb, cd0, cd1, cd2, cd3, cd4, cd5, cd6, cd7, f_r, w_7_6⟩ hf hd
            have hf' : b6 = false := hf
            subst hf'
            have d0 : b0 = true := hd ⟨0, .data⟩ (by simp) rfl
            subst d0
            have d5 : b5 = true := hd ⟨5, .data⟩ (by simp) rfl
            subst d5
            obtain rfl := cd0.out rfl
            obtain rfl := cd5.out rfl
            clear hf hd
            try simp only [List.setIfInBounds_toArray, List.set_cons_zero, List.set_cons_succ]
            intro K hK
            rw [if_pos (by rfl)]
            go_simp
            go_at_call 18
            refine (HFit _ hb).mono ?_
            rintro e w' ⟨ra2, rca2, rfl, oT, bx⟩
            have e_7 : b7 = false := by cases hq : b7 with | false => rfl | true => exact absurd (w_7_6.out hq) (by simp)
            subst e_7
            exact hK.out _ _ ⟨true, b1, b2, b3, b4, true, true, false, .agg #[.string (bsOf NM), .slice (some ⟨g, 0, none⟩) N cg, .int .i64 (KI : Nat), .bool only], x50, x51, x52, x53, .int .i64 nn, (.slice ra2 N rca2), x10, ra2, rca2, (by simp only [Act.put, List.setIfInBounds_toArray, List.set_cons_zero, List.set_cons_succ]), (by simp only [Act.put, List.setIfInBounds_toArray, List.set_cons_zero, List.set_cons_succ]), hb.trans (bx.mono (Nat.le_trans hB0 hb.size)), (fun _ => rfl), cd1, cd2, cd3, cd4, (fun _ => rfl), (fun _ => rfl), (fun h => by cases h), (fun _ => oT.lower hb.size), (fun _ => rfl)⟩
          · rintro L a w ⟨b0, b1, b2, b3, b4, b5, b6, b7, x49, x50, x51, x52, x53, x54, x55, x10, ra, rca, rfl, rfl, hb, cd0, cd1, cd2, cd3, cd4, cd5, cd6, cd7, f_r, w_7_6⟩ hf hd
            have hf' : b7 = false := hf
            subst hf'
            have d6 : b6 = true := hd ⟨6, .data⟩ (by simp) rfl
            subst d6
            have d0 : b0 = true := hd ⟨0, .phase⟩ (by simp) rfl
            subst d0
            have d1 : b1 = true := hd ⟨1, .phase⟩ (by simp) rfl
            subst d1
            have d2 : b2 = true := hd ⟨2, .phase⟩ (by simp) rfl
            subst d2
            have d3 : b3 = true := hd ⟨3, .phase⟩ (by simp) rfl
            subst d3
            have d4 : b4 = true := hd ⟨4, .phase⟩ (by simp) rfl
            subst d4
            have d5 : b5 = true := hd ⟨5, .phase⟩ (by simp) rfl
            subst d5
            obtain rfl := cd6.out rfl
            obtain rfl := cd0.out rfl
            obtain rfl := cd1.out rfl
            obtain rfl := cd2.out rfl
            obtain rfl := cd3.out rfl
            obtain rfl := cd4.out rfl
            obtain rfl := cd5.out rfl
            clear hf hd
            have W_r := f_r.out rfl
            try simp only [List.setIfInBounds_toArray, List.set_cons_zero, List.set_cons_succ]
            intro K hK
            rw [if_pos (by rfl)]
            go_simp
            exact hK.out _ _ ⟨true, true, true, true, true, true, true, true, .agg #[.string (bsOf NM), .slice (some ⟨g, 0, none⟩) N cg, .int .i64 (KI : Nat), .bool only], .slice (some ⟨ab, aoff, none⟩) an ac, .int .i64 (i : Nat), .pointer (some ⟨ab, aoff + i * 3, none⟩), .pointer (some ⟨ab, aoff + i * 3 + 1, none⟩), .int .i64 nn, .slice ra N rca, (.slice ra N rca), ra, rca, (by simp only [Act.put, List.setIfInBounds_toArray, List.set_cons_zero, List.set_cons_succ]), (by simp only [Act.put, List.setIfInBounds_toArray, List.set_cons_zero, List.set_cons_succ]), hb, (fun _ => rfl), (fun _ => rfl), (fun _ => rfl), (fun _ => rfl), (fun _ => rfl), (fun _ => rfl), (fun _ => rfl), (fun _ => rfl), f_r, (fun _ => rfl)⟩
        · rintro act V11 ⟨b0, b1, b2, b3, b4, b5, b6, b7, x49, x50, x51, x52, x53, x54, x55, x10, ra, rca, hL, rfl, hb, cd0, cd1, cd2, cd3, cd4, cd5, cd6, cd7, f_r, w_7_6⟩
          have hL' : [true, true, true, true, true, true, true, true] = [b0, b1, b2, b3, b4, b5, b6, b7] := congrArg Array.toList hL
          simp only [List.cons.injEq, and_true] at hL'
          obtain ⟨rfl, rfl, rfl, rfl, rfl, rfl, rfl, rfl⟩ := hL'
          obtain rfl := cd0.out rfl
          obtain rfl := cd1.out rfl
          obtain rfl := cd2.out rfl
          obtain rfl := cd3.out rfl
          obtain rfl := cd4.out rfl
          obtain rfl := cd5.out rfl
          obtain rfl := cd6.out rfl
          obtain rfl := cd7.out rfl
          have W_r := f_r.out rfl
          clear hL f_r cd0 cd1 cd2 cd3 cd4 cd5 cd6 cd7 w_7_6
          simp only [List.setIfInBounds_toArray, List.set_cons_zero, List.set_cons_succ]
          have bV : Below Y0.heap.size Y0 V11 := (Below.refl _ _).drew.trans hb
          have DD := DD.past bV
          have hWw := hWw.past bV
          have a0_ := (bV.cell habB).trans a0_
          have a1_ := (bV.cell habB).trans a1_
          have a2_ := (bV.cell habB).trans a2_
          have B := B.trans (bV.mono hp0_)
          have iFit := W_r.isR
          have hS1 := Nat.le_trans hS0 bV.size
          have hp1 := Nat.le_trans hp0_ bV.size
          have habB := Nat.lt_of_lt_of_le habB bV.size
          clear hb W_r bV z0 z1 z2 z3 hgsB HFit hB0 hS0 hp0_
          generalize V11 = Y1 at DD hWw a0_ a1_ a2_ B iFit hS1 hp1 habB ⊢
          have hvs := hvs.past (show Below w.heap.size w Y1 by rw [HP.out]; exact B)
          have HWk := fun w => within10_any k 6 w (by decide) (by decide)
          obtain ⟨KK, hKK⟩ : ∃ KK, wth k 6 = KK := ⟨_, rfl⟩
          simp only [hKK] at HWk
          clear hKK
          obtain ⟨z0, z1, z2, z3⟩ := sc_cells DD.XS
          have hgsB := DD.XS.lt
          have hB0 : Y1.heap.size ≤ Y1.heap.size := Nat.le_refl _
          have HFit := fun (w' : World) (hb : Below Y1.heap.size Y1.drew w') => fit_any w' NM (some ⟨g, 0, none⟩) N cg F (KI : Nat) only ((DD.iG.past (Below.refl _ _).drew).past hb) (by omega) hFk nn hnw
          unfold scV at HFit
          go_upto_if 62 with (go_at_call 19; refine (HWk _).mono ?_; rintro e w' ⟨rfl, rfl⟩)
          go_cut [10] from 42 to 170 (fun s10 wx => RowR Y1 s10 wx)
          case first =>
            by_cases h3 : KK = 3
            · have h3b : (KK == 3) = true := by simp [h3]
              clear h3
              go_wp2_with fail
              go_meet
              exact ⟨rfl, vo, vn, vc, row0, rfl, hvs, h12⟩
            · have h3b : (KK == 3) = false := by simp [h3]
              clear h3
              go_wp2_with fail
              go_meet
              exact ⟨rfl, _, N, _, _, rfl, iFit, by omega⟩
          case rest =>
            clear a2_ hvs iFit h12
            obtain ⟨ewc, ra2, rl, rca2, row, rfl, iRow, hr12⟩ := hcut
            rw [ewc] at iRow ⊢
            clear ewc
            obtain ⟨cK, hcK⟩ : ∃ x, F[KI]? = some x := ⟨F[KI]'(by omega), List.getElem?_eq_getElem _⟩
            have hka := fitRow_get (n := nn) hcK
            have hvk := fit_val nn KI cK
            generalize fitVal nn KI cK = vk at hka hvk
            obtain ⟨kk, km, ks⟩ := vk
            simp only at hvk
            have hKi : (KI : Int) < (N : Int) := by omega
            have hNp1 : 0 < N := by omega
            clear hcK
            go_upto_region 14 with fail
            refine region_inv (TPl14 Y1.heap.size gs NM g N cg KI only ab aoff an ac i nn F kk km ks) (by kernel_rfl) (by kernel_rfl) ?_ ?_ ?_
            · exact ⟨false, false, false, false, false, false, false, false, false, false, false, false, false, u68, u69, u70, u71, u72, u73, u74, u75, u76, u77, u78, u11, 0, 0, 0, 0, rfl, (by simp only [Act.put, List.setIfInBounds_toArray, List.set_cons_zero, List.set_cons_succ]), Below.refl _ _, (fun h => by cases h), (fun h => by cases h), (fun h => by cases h), (fun h => by cases h), (fun h => by cases h), (fun h => by cases h), (fun h => by cases h), (fun h => by cases h), (fun h => by cases h), (fun h => by cases h), (fun h => by cases h), (fun h => by cases h), (fun h => by cases h), (fun h => by cases h), (fun h => by cases h), (fun h => by cases h), (fun h => by cases h), (fun h => by cases h)⟩
            · refine ⟨?_, ?_, ?_, ?_, ?_, ?_, ?_, ?_, ?_, ?_, ?_, ?_, ?_, trivial⟩
              · rintro L a w ⟨b0, b1, b2, b3, b4, b5, b6, b7, b8, b9, b10, b11, b12, x68, x69, x70, x71, x72, x73, x74, x75, x76, x77, x78, x11, fa, fo, fc, gk, rfl, rfl, hb, cd0, cd1, cd2, cd3, cd4, cd5, cd6, cd7, cd8, cd9, cd10, cd11, f_va, f_zk, f_lk, f_sk, f_qk, w_9_6⟩ hf hd
                have hf' : b0 = false := hf
                subst hf'
                clear hf hd
                try simp only [List.setIfInBounds_toArray, List.set_cons_zero, List.set_cons_succ]
                have z0 := (hb.cell hgsB).trans z0
                have z1 := (hb.cell hgsB).trans z1
                have z2 := (hb.cell hgsB).trans z2
                have z3 := (hb.cell hgsB).trans z3
                intro K hK
                rw [if_pos (by rfl)]
                go_simp
                exact hK.out _ _ ⟨true, b1, b2, b3, b4, b5, b6, b7, b8, b9, b10, b11, b12, (.agg #[.string (bsOf NM), .slice (some ⟨g, 0, none⟩) N cg, .int .i64 (KI : Nat), .bool only]), x69, x70, x71, x72, x73, x74, x75, x76, x77, x78, x11, fa, fo, fc, gk, (by simp only [Act.put, List.setIfInBounds_toArray, List.set_cons_zero, List.set_cons_succ]), (by simp only [Act.put, List.setIfInBounds_toArray, List.set_cons_zero, List.set_cons_succ]), hb, (fun _ => rfl), cd1, cd2, cd3, cd4, cd5, cd6, cd7, cd8, cd9, cd10, cd11, f_va, f_zk, f_lk, f_sk, f_qk, w_9_6⟩
              · rintro L a w ⟨b0, b1, b2, b3, b4, b5, b6, b7, b8, b9, b10, b11, b12, x68, x69, x70, x71, x72, x73, x74, x75, x76, x77, x78, x11, fa, fo, fc, gk, rfl, rfl, hb, cd0, cd1, cd2, cd3, cd4, cd5, cd6, cd7, cd8, cd9, cd10, cd11, f_va, f_zk, f_lk, f_sk, f_qk, w_9_6⟩ hf hd
                have hf' : b1 = false := hf
                subst hf'
                clear hf hd
                try simp only [List.setIfInBounds_toArray, List.set_cons_zero, List.set_cons_succ]
                intro K hK
                rw [if_pos (by rfl)]
                go_simp
                exact hK.out _ _ ⟨b0, true, b2, b3, b4, b5, b6, b7, b8, b9, b10, b11, b12, x68, (.slice (some ⟨ab, aoff, none⟩) an ac), x70, x71, x72, x73, x74, x75, x76, x77, x78, x11, fa, fo, fc, gk, (by simp only [Act.put, List.setIfInBounds_toArray, List.set_cons_zero, List.set_cons_succ]), (by simp only [Act.put, List.setIfInBounds_toArray, List.set_cons_zero, List.set_cons_succ]), hb, cd0, (fun _ => rfl), cd2, cd3, cd4, cd5, cd6, cd7, cd8, cd9, cd10, cd11, f_va, f_zk, f_lk, f_sk, f_qk, w_9_6⟩
              · rintro L a w ⟨b0, b1, b2, b3, b4, b5, b6, b7, b8, b9, b10, b11, b12, x68, x69, x70, x71, x72, x73, x74, x75, x76, x77, x78, x11, fa, fo, fc, gk, rfl, rfl, hb, cd0, cd1, cd2, cd3, cd4, cd5, cd6, cd7, cd8, cd9, cd10, cd11, f_va, f_zk, f_lk, f_sk, f_qk, w_9_6⟩ hf hd
                have hf' : b2 = false := hf
                subst hf'
                clear hf hd
                try simp only [List.setIfInBounds_toArray, List.set_cons_zero, List.set_cons_succ]
                intro K hK
                rw [if_pos (by rfl)]
                go_simp
                exact hK.out _ _ ⟨b0, b1, true, b3, b4, b5, b6, b7, b8, b9, b10, b11, b12, x68, x69, (.int .i64 (i : Nat)), x71, x72, x73, x74, x75, x76, x77, x78, x11, fa, fo, fc, gk, (by simp only [Act.put, List.setIfInBounds_toArray, List.set_cons_zero, List.set_cons_succ]), (by simp only [Act.put, List.setIfInBounds_toArray, List.set_cons_zero, List.set_cons_succ]), hb, cd0, cd1, (fun _ => rfl), cd3, cd4, cd5, cd6, cd7, cd8, cd9, cd10, cd11, f_va, f_zk, f_lk, f_sk, f_qk, w_9_6⟩
              · rintro L a w ⟨b0, b1, b2, b3, b4, b5, b6, b7, b8, b9, b10, b11, b12, x68, x69, x70, x71, x72, x73, x74, x75, x76, x77, x78, x11, fa, fo, fc, gk, rfl, rfl, hb, cd0, cd1, cd2, cd3, cd4, cd5, cd6, cd7, cd8, cd9, cd10, cd11, f_va, f_zk, f_lk, f_sk, f_qk, w_9_6⟩ hf hd
                have hf' : b3 = false := hf
                subst hf'
                have d1 : b1 = true := hd ⟨1, .data⟩ (by simp) rfl
                subst d1
                have d2 : b2 = true := hd ⟨2, .data⟩ (by simp) rfl
                subst d2
                obtain rfl := cd1.out rfl
                obtain rfl := cd2.out rfl
                clear hf hd
                try simp only [List.setIfInBounds_toArray, List.set_cons_zero, List.set_cons_succ]
                intro K hK
                rw [if_pos (by rfl)]
                go_simp
                exact hK.out _ _ ⟨b0, true, true, true, b4, b5, b6, b7, b8, b9, b10, b11, b12, x68, .slice (some ⟨ab, aoff, none⟩) an ac, .int .i64 (i : Nat), (.pointer (some ⟨ab, aoff + i * 3, none⟩)), x72, x73, x74, x75, x76, x77, x78, x11, fa, fo, fc, gk, (by simp only [Act.put, List.setIfInBounds_toArray, List.set_cons_zero, List.set_cons_succ]), (by simp only [Act.put, List.setIfInBounds_toArray, List.set_cons_zero, List.set_cons_succ]), hb, cd0, (fun _ => rfl), (fun _ => rfl), (fun _ => rfl), cd4, cd5, cd6, cd7, cd8, cd9, cd10, cd11, f_va, f_zk, f_lk, f_sk, f_qk, w_9_6⟩
              · rintro L a w ⟨b0, b1, b2, b3, b4, b5, b6, b7, b8, b9, b10, b11, b12, x68, x69, x70, x71, x72, x73, x74, x75, x76, x77, x78, x11, fa, fo, fc, gk, rfl, rfl, hb, cd0, cd1, cd2, cd3, cd4, cd5, cd6, cd7, cd8, cd9, cd10, cd11, f_va, f_zk, f_lk, f_sk, f_qk, w_9_6⟩ hf hd
                have hf' : b4 = false := hf
                subst hf'
                have d3 : b3 = true := hd ⟨3, .data⟩ (by simp) rfl
                subst d3
                obtain rfl := cd3.out rfl
                clear hf hd
                try simp only [List.setIfInBounds_toArray, List.set_cons_zero, List.set_cons_succ]
                intro K hK
                rw [if_pos (by rfl)]
                go_simp
                exact hK.out _ _ ⟨b0, b1, b2, true, true, b5, b6, b7, b8, b9, b10, b11, b12, x68, x69, x70, .pointer (some ⟨ab, aoff + i * 3, none⟩), (.pointer (some ⟨ab, aoff + i * 3 + 1, none⟩)), x73, x74, x75, x76, x77, x78, x11, fa, fo, fc, gk, (by simp only [Act.put, List.setIfInBounds_toArray, List.set_cons_zero, List.set_cons_succ]), (by simp only [Act.put, List.setIfInBounds_toArray, List.set_cons_zero, List.set_cons_succ]), hb, cd0, cd1, cd2, (fun _ => rfl), (fun _ => rfl), cd5, cd6, cd7, cd8, cd9, cd10, cd11, f_va, f_zk, f_lk, f_sk, f_qk, w_9_6⟩
              · rintro L a w ⟨b0, b1, b2, b3, b4, b5, b6, b7, b8, b9, b10, b11, b12, x68, x69, x70, x71, x72, x73, x74, x75, x76, x77, x78, x11, fa, fo, fc, gk, rfl, rfl, hb, cd0, cd1, cd2, cd3, cd4, cd5, cd6, cd7, cd8, cd9, cd10, cd11, f_va, f_zk, f_lk, f_sk, f_qk, w_9_6⟩ hf hd
                have hf' : b5 = false := hf
                subst hf'
                have d4 : b4 = true := hd ⟨4, .data⟩ (by simp) rfl
                subst d4
                obtain rfl := cd4.out rfl
                clear hf hd
                try simp only [List.setIfInBounds_toArray, List.set_cons_zero, List.set_cons_succ]
                have z0 := (hb.cell habB).trans a1_
                intro K hK
                rw [if_pos (by rfl)]
                go_simp
                exact hK.out _ _ ⟨b0, b1, b2, b3, true, true, b6, b7, b8, b9, b10, b11, b12, x68, x69, x70, x71, .pointer (some ⟨ab, aoff + i * 3 + 1, none⟩), (.int .i64 nn), x74, x75, x76, x77, x78, x11, fa, fo, fc, gk, (by simp only [Act.put, List.setIfInBounds_toArray, List.set_cons_zero, List.set_cons_succ]), (by simp only [Act.put, List.setIfInBounds_toArray, List.set_cons_zero, List.set_cons_succ]), hb, cd0, cd1, cd2, cd3, (fun _ => rfl), (fun _ => rfl), cd6, cd7, cd8, cd9, cd10, cd11, f_va, f_zk, f_lk, f_sk, f_qk, w_9_6⟩
              · rintro L a w ⟨b0, b1, b2, b3, b4, b5, b6, b7, b8, b9, b10, b11, b12, x68, x69, x70, x71, x72, x73, x74, x75, x76, x77, x78, x11, fa, fo, fc, gk, rfl, rfl, hb, cd0, cd1, cd2, cd3, cd4, cd5, cd6, cd7, cd8, cd9, cd10, cd11, f_va, f_zk, f_lk, f_sk, f_qk, w_9_6⟩ hf hd
                have hf' : b6 = false := hf
                subst hf'
                have d0 : b0 = true := hd ⟨0, .data⟩ (by simp) rfl
                subst d0
                have d5 : b5 = true := hd ⟨5, .data⟩ (by simp) rfl
                subst d5
                obtain rfl := cd0.out rfl
                obtain rfl := cd5.out rfl
                clear hf hd
                try simp only [List.setIfInBounds_toArray, List.set_cons_zero, List.set_cons_succ]
                intro K hK
                rw [if_pos (by rfl)]
                go_simp
                go_at_call 18
                refine (HFit _ hb).mono ?_
                rintro e w' ⟨ra2, rca2, rfl, oT, bx⟩
                obtain ⟨fa2, fo2, rfl, vc, hfa2⟩ := fit_own oT hNp1 KI _ hka
                have e_9 : b9 = false := by cases hq : b9 with | false => rfl | true => exact absurd (w_9_6.out hq) (by simp)
                subst e_9
                exact hK.out _ _ ⟨true, b1, b2, b3, b4, true, true, b7, b8, false, b10, b11, b12, .agg #[.string (bsOf NM), .slice (some ⟨g, 0, none⟩) N cg, .int .i64 (KI : Nat), .bool only], x69, x70, x71, x72, .int .i64 nn, (.slice (some ⟨fa2, fo2, none⟩) N rca2), x75, x76, x77, x78, x11, fa2, fo2, rca2, gk, (by simp only [Act.put, List.setIfInBounds_toArray, List.set_cons_zero, List.set_cons_succ]), (by simp only [Act.put, List.setIfInBounds_toArray, List.set_cons_zero, List.set_cons_succ]), hb.trans (bx.mono (Nat.le_trans hB0 hb.size)), (fun _ => rfl), cd1, cd2, cd3, cd4, (fun _ => rfl), (fun _ => rfl), cd7, cd8, (fun h => by cases h), cd10, cd11, (fun _ _ => vc), (fun h0 h1 => (f_zk.out h0 h1).past bx), f_lk, (fun h0 => (f_sk.out h0).past bx), f_qk, (fun _ => rfl)⟩
              · rintro L a w ⟨b0, b1, b2, b3, b4, b5, b6, b7, b8, b9, b10, b11, b12, x68, x69, x70, x71, x72, x73, x74, x75, x76, x77, x78, x11, fa, fo, fc, gk, rfl, rfl, hb, cd0, cd1, cd2, cd3, cd4, cd5, cd6, cd7, cd8, cd9, cd10, cd11, f_va, f_zk, f_lk, f_sk, f_qk, w_9_6⟩ hf hd
                have hf' : b7 = false := hf
                subst hf'
                clear hf hd
                try simp only [List.setIfInBounds_toArray, List.set_cons_zero, List.set_cons_succ]
                intro K hK
                rw [if_pos (by rfl)]
                go_simp
                exact hK.out _ _ ⟨b0, b1, b2, b3, b4, b5, b6, true, b8, b9, b10, b11, b12, x68, x69, x70, x71, x72, x73, x74, (.pointer (some ⟨gs, 2, none⟩)), x76, x77, x78, x11, fa, fo, fc, gk, (by simp only [Act.put, List.setIfInBounds_toArray, List.set_cons_zero, List.set_cons_succ]), (by simp only [Act.put, List.setIfInBounds_toArray, List.set_cons_zero, List.set_cons_succ]), hb, cd0, cd1, cd2, cd3, cd4, cd5, cd6, (fun _ => rfl), cd8, cd9, cd10, cd11, f_va, f_zk, f_lk, f_sk, f_qk, w_9_6⟩
              · rintro L a w ⟨b0, b1, b2, b3, b4, b5, b6, b7, b8, b9, b10, b11, b12, x68, x69, x70, x71, x72, x73, x74, x75, x76, x77, x78, x11, fa, fo, fc, gk, rfl, rfl, hb, cd0, cd1, cd2, cd3, cd4, cd5, cd6, cd7, cd8, cd9, cd10, cd11, f_va, f_zk, f_lk, f_sk, f_qk, w_9_6⟩ hf hd
                have hf' : b8 = false := hf
                subst hf'
                have d7 : b7 = true := hd ⟨7, .data⟩ (by simp) rfl
                subst d7
                obtain rfl := cd7.out rfl
                clear hf hd
                try simp only [List.setIfInBounds_toArray, List.set_cons_zero, List.set_cons_succ]
                have z0 := (hb.cell hgsB).trans z2
                intro K hK
                rw [if_pos (by rfl)]
                go_simp
                exact hK.out _ _ ⟨b0, b1, b2, b3, b4, b5, b6, true, true, b9, b10, b11, b12, x68, x69, x70, x71, x72, x73, x74, .pointer (some ⟨gs, 2, none⟩), (.int .i64 (KI : Nat)), x77, x78, x11, fa, fo, fc, gk, (by simp only [Act.put, List.setIfInBounds_toArray, List.set_cons_zero, List.set_cons_succ]), (by simp only [Act.put, List.setIfInBounds_toArray, List.set_cons_zero, List.set_cons_succ]), hb, cd0, cd1, cd2, cd3, cd4, cd5, cd6, (fun _ => rfl), (fun _ => rfl), cd9, cd10, cd11, f_va, f_zk, f_lk, f_sk, f_qk, w_9_6⟩
              · rintro L a w ⟨b0, b1, b2, b3, b4, b5, b6, b7, b8, b9, b10, b11, b12, x68, x69, x70, x71, x72, x73, x74, x75, x76, x77, x78, x11, fa, fo, fc, gk, rfl, rfl, hb, cd0, cd1, cd2, cd3, cd4, cd5, cd6, cd7, cd8, cd9, cd10, cd11, f_va, f_zk, f_lk, f_sk, f_qk, w_9_6⟩ hf hd
                have hf' : b9 = false := hf
                subst hf'
                have d6 : b6 = true := hd ⟨6, .data⟩ (by simp) rfl
                subst d6
                have d8 : b8 = true := hd ⟨8, .data⟩ (by simp) rfl
                subst d8
                obtain rfl := cd6.out rfl
                obtain rfl := cd8.out rfl
                clear hf hd
                try simp only [List.setIfInBounds_toArray, List.set_cons_zero, List.set_cons_succ]
                intro K hK
                rw [if_pos (by rfl)]
                go_simp
                exact hK.out _ _ ⟨b0, b1, b2, b3, b4, b5, true, b7, true, true, b10, b11, b12, x68, x69, x70, x71, x72, x73, .slice (some ⟨fa, fo, none⟩) N fc, x75, .int .i64 (KI : Nat), (.pointer (some ⟨fa, fo + KI * 3, none⟩)), x78, x11, fa, fo, fc, gk, (by simp only [Act.put, List.setIfInBounds_toArray, List.set_cons_zero, List.set_cons_succ]), (by simp only [Act.put, List.setIfInBounds_toArray, List.set_cons_zero, List.set_cons_succ]), hb, cd0, cd1, cd2, cd3, cd4, cd5, (fun _ => rfl), cd7, (fun _ => rfl), (fun _ => rfl), cd10, cd11, f_va, f_zk, f_lk, f_sk, f_qk, (fun _ => rfl)⟩
              · rintro L a w ⟨b0, b1, b2, b3, b4, b5, b6, b7, b8, b9, b10, b11, b12, x68, x69, x70, x71, x72, x73, x74, x75, x76, x77, x78, x11, fa, fo, fc, gk, rfl, rfl, hb, cd0, cd1, cd2, cd3, cd4, cd5, cd6, cd7, cd8, cd9, cd10, cd11, f_va, f_zk, f_lk, f_sk, f_qk, w_9_6⟩ hf hd
                have hf' : b10 = false := hf
                subst hf'
                have d9 : b9 = true := hd ⟨9, .data⟩ (by simp) rfl
                subst d9
                obtain rfl := cd9.out rfl
                clear hf hd
                try simp only [List.setIfInBounds_toArray, List.set_cons_zero, List.set_cons_succ]
                have W_va := f_va.out (w_9_6.out rfl) rfl
                obtain ⟨-, z0, z1, z2⟩ := W_va
                intro K hK
                rw [if_pos (by rfl)]
                go_simp
                exact hK.out _ _ ⟨b0, b1, b2, b3, b4, b5, b6, b7, b8, true, true, b11, b12, x68, x69, x70, x71, x72, x73, x74, x75, x76, .pointer (some ⟨fa, fo + KI * 3, none⟩), (.agg #[.int .i64 kk, .int .i64 km, .string ks]), x11, fa, fo, fc, gk, (by simp only [Act.put, List.setIfInBounds_toArray, List.set_cons_zero, List.set_cons_succ]), (by simp only [Act.put, List.setIfInBounds_toArray, List.set_cons_zero, List.set_cons_succ]), hb, cd0, cd1, cd2, cd3, cd4, cd5, cd6, cd7, cd8, (fun _ => rfl), (fun _ => rfl), cd11, (fun _ h => by cases h), f_zk, f_lk, f_sk, f_qk, w_9_6⟩
              · rintro L a w ⟨b0, b1, b2, b3, b4, b5, b6, b7, b8, b9, b10, b11, b12, x68, x69, x70, x71, x72, x73, x74, x75, x76, x77, x78, x11, fa, fo, fc, gk, rfl, rfl, hb, cd0, cd1, cd2, cd3, cd4, cd5, cd6, cd7, cd8, cd9, cd10, cd11, f_va, f_zk, f_lk, f_sk, f_qk, w_9_6⟩ hf hd
                have hf' : b11 = false := hf
                subst hf'
                clear hf hd
                try simp only [List.setIfInBounds_toArray, List.set_cons_zero, List.set_cons_succ]
                intro K hK
                rw [if_pos (by rfl)]
                go_simp
                have bx : Below w.heap.size w (w.alloc (.cells #[.int .i64 0, .int .i64 0, .string ⟨#[]⟩] 55)) := (Below.refl _ _).alloc (Nat.le_refl _) _
                exact hK.out _ _ ⟨b0, b1, b2, b3, b4, b5, b6, b7, b8, b9, b10, true, b12, x68, x69, x70, x71, x72, x73, x74, x75, x76, x77, x78, (.pointer (some ⟨(w.heap.size), 0, none⟩)), fa, fo, fc, w.heap.size, (by simp only [Act.put, List.setIfInBounds_toArray, List.set_cons_zero, List.set_cons_succ]), (by simp only [Act.put, List.setIfInBounds_toArray, List.set_cons_zero, List.set_cons_succ]), hb.trans (bx.mono (Nat.le_trans hB0 hb.size)), cd0, cd1, cd2, cd3, cd4, cd5, cd6, cd7, cd8, cd9, cd10, (fun _ => rfl), (fun h0 h1 => (f_va.out h0 h1).past bx), (fun _ _ => Bk.new w _ _), (fun _ => hb.size), (fun h0 => absurd (f_qk.out h0) (by simp)), (fun _ => rfl), w_9_6⟩
              · rintro L a w ⟨b0, b1, b2, b3, b4, b5, b6, b7, b8, b9, b10, b11, b12, x68, x69, x70, x71, x72, x73, x74, x75, x76, x77, x78, x11, fa, fo, fc, gk, rfl, rfl, hb, cd0, cd1, cd2, cd3, cd4, cd5, cd6, cd7, cd8, cd9, cd10, cd11, f_va, f_zk, f_lk, f_sk, f_qk, w_9_6⟩ hf hd
                have hf' : b12 = false := hf
                subst hf'
                have d11 : b11 = true := hd ⟨11, .data⟩ (by simp) rfl
                subst d11
                have d10 : b10 = true := hd ⟨10, .data⟩ (by simp) rfl
                subst d10
                have d6 : b6 = true := hd ⟨6, .chain⟩ (by simp) rfl
                subst d6
                have d0 : b0 = true := hd ⟨0, .phase⟩ (by simp) rfl
                subst d0
                have d1 : b1 = true := hd ⟨1, .phase⟩ (by simp) rfl
                subst d1
                have d2 : b2 = true := hd ⟨2, .phase⟩ (by simp) rfl
                subst d2
                have d3 : b3 = true := hd ⟨3, .phase⟩ (by simp) rfl
                subst d3
                have d4 : b4 = true := hd ⟨4, .phase⟩ (by simp) rfl
                subst d4
                have d5 : b5 = true := hd ⟨5, .phase⟩ (by simp) rfl
                subst d5
                have d7 : b7 = true := hd ⟨7, .phase⟩ (by simp) rfl
                subst d7
                have d8 : b8 = true := hd ⟨8, .phase⟩ (by simp) rfl
                subst d8
                have d9 : b9 = true := hd ⟨9, .phase⟩ (by simp) rfl
                subst d9
                obtain rfl := cd11.out rfl
                obtain rfl := cd10.out rfl
                obtain rfl := cd6.out rfl
                obtain rfl := cd0.out rfl
                obtain rfl := cd1.out rfl
                obtain rfl := cd2.out rfl
                obtain rfl := cd3.out rfl
                obtain rfl := cd4.out rfl
                obtain rfl := cd5.out rfl
                obtain rfl := cd7.out rfl
                obtain rfl := cd8.out rfl
                obtain rfl := cd9.out rfl
                clear hf hd
                have W_zk := f_zk.out rfl rfl
                have W_lk := f_lk.out rfl
                try simp only [List.setIfInBounds_toArray, List.set_cons_zero, List.set_cons_succ]
                intro K hK
                rw [if_pos (by rfl)]
                refine wp_store_blkT 55 _ _ rfl gk (vC 0 0 ⟨#[]⟩) (vC kk km ks) rfl rfl _ (Lib.hid W_zk) 3 szVl rfl rfl (vC_all ..) fun w2 h8 g8 => ?_
                have hb2 := hb.grown g8 (Nat.le_trans hB0 hb.size) (fun z hz => by cases hz; exact W_lk)
                exact hK.out _ _ ⟨true, true, true, true, true, true, true, true, true, true, true, true, true, .agg #[.string (bsOf NM), .slice (some ⟨g, 0, none⟩) N cg, .int .i64 (KI : Nat), .bool only], .slice (some ⟨ab, aoff, none⟩) an ac, .int .i64 (i : Nat), .pointer (some ⟨ab, aoff + i * 3, none⟩), .pointer (some ⟨ab, aoff + i * 3 + 1, none⟩), .int .i64 nn, .slice (some ⟨fa, fo, none⟩) N fc, .pointer (some ⟨gs, 2, none⟩), .int .i64 (KI : Nat), .pointer (some ⟨fa, fo + KI * 3, none⟩), .agg #[.int .i64 kk, .int .i64 km, .string ks], .pointer (some ⟨gk, 0, none⟩), fa, fo, fc, gk, (by simp only [Act.put, List.setIfInBounds_toArray, List.set_cons_zero, List.set_cons_succ]), (by simp only [Act.put, List.setIfInBounds_toArray, List.set_cons_zero, List.set_cons_succ]), hb2, (fun _ => rfl), (fun _ => rfl), (fun _ => rfl), (fun _ => rfl), (fun _ => rfl), (fun _ => rfl), (fun _ => rfl), (fun _ => rfl), (fun _ => rfl), (fun _ => rfl), (fun _ => rfl), (fun _ => rfl), (fun _ h => by cases h), (fun _ h => by cases h), f_lk, (fun _ => h8.out), (fun _ => rfl), (fun _ => rfl)⟩
            · rintro act V14 ⟨b0, b1, b2, b3, b4, b5, b6, b7, b8, b9, b10, b11, b12, x68, x69, x70, x71, x72, x73, x74, x75, x76, x77, x78, x11, fa, fo, fc, gk, hL, rfl, hb, cd0, cd1, cd2, cd3, cd4, cd5, cd6, cd7, cd8, cd9, cd10, cd11, f_va, f_zk, f_lk, f_sk, f_qk, w_9_6⟩
              have hL' : [true, true, true, true, true, true, true, true, true, true, true, true, true] = [b0, b1, b2, b3, b4, b5, b6, b7, b8, b9, b10, b11, b12] := congrArg Array.toList hL
              simp only [List.cons.injEq, and_true] at hL'
              obtain ⟨rfl, rfl, rfl, rfl, rfl, rfl, rfl, rfl, rfl, rfl, rfl, rfl, rfl⟩ := hL'
              obtain rfl := cd0.out rfl
              obtain rfl := cd1.out rfl
              obtain rfl := cd2.out rfl
              obtain rfl := cd3.out rfl
              obtain rfl := cd4.out rfl
              obtain rfl := cd5.out rfl
              obtain rfl := cd6.out rfl
              obtain rfl := cd7.out rfl
              obtain rfl := cd8.out rfl
              obtain rfl := cd9.out rfl
              obtain rfl := cd10.out rfl
              obtain rfl := cd11.out rfl
              have W_lk := f_lk.out rfl
              have W_sk := f_sk.out rfl
              have W_qk := f_qk.out rfl
              clear hL f_va f_zk f_lk f_sk f_qk cd0 cd1 cd2 cd3 cd4 cd5 cd6 cd7 cd8 cd9 cd10 cd11 w_9_6
              simp only [List.setIfInBounds_toArray, List.set_cons_zero, List.set_cons_succ]
              have bV : Below Y1.heap.size Y1 V14 := (Below.refl _ _).drew.trans hb
              have DD := DD.past bV
              have hWw := hWw.past bV
              have iRow := iRow.past bV
              have a0_ := (bV.cell habB).trans a0_
              have B := B.trans (bV.mono hp1)
              have VK := W_sk
              have hS2 := Nat.le_trans hS1 bV.size
              have hp2 := Nat.le_trans hp1 bV.size
              have hgk0 : S ≤ gk := Nat.le_trans hS1 W_lk
              clear hb W_sk W_lk W_qk bV a1_ z0 z1 z2 z3 hgsB habB HFit hka hB0 hS1 hp1
              generalize V14 = Y2 at DD hWw iRow a0_ B VK hS2 hp2 ⊢
              go_upto_if 85 with (go_at_call 19; refine (HWk _).mono ?_; rintro e w' ⟨rfl, rfl⟩)
              go_cut [12, 13, 14, 15, 16, 17, 18, 19, 20, 21] from 42 to 170 (fun _ _ _ _ _ _ _ _ _ _ wx => AftR w p0 gs gt gx S NM g N cg KI only F i gk kk km ks wx)
              case first =>
                by_cases h4 : KK < 4
                · skip
                  have h4i : (KK : Int) < 4 := h4
                  clear h4
                  obtain ⟨E, hE⟩ : ∃ z_, putE F KI row rs = z_ := ⟨_, rfl⟩
                  obtain ⟨rs2, hrs2⟩ : ∃ z_, putR F KI row rs = z_ := ⟨_, rfl⟩
                  have hok2 : Hid (RowsOk F KI rs2) := Lib.hid (by rw [← hrs2]; exact hok.out.putR row)
                  have hln2 : Hid (rs2.length ≤ i + 1) := Lib.hid (by rw [← hrs2]; have := putR_len F KI row rs; have := hln.out; omega)
                  have hrl := iRow.len
                  have HPc := fun (w' : World) (hb : Below Y2.heap.size Y2.drew w') (a : Option Addr) (c : Nat) (hr : IsR EV w' a rl c row) => put_any w' NM co N cc KI only ro rn rc F (by omega) (by omega) 0 rs ((DD.isT.past (Below.refl _ _).drew).past hb) a rl c row hr hok.out.srt (by omega) (fun r hr => by rw [hok.out.len r hr]; omega) (by omega)
                  have HRp := fun (w' : World) (b : Below Y2.heap.size Y2 w') => rput_any w' NM (some ⟨g, 0, none⟩) N cg KI only xo xn xc S (Nat.le_trans hS2 b.size) F (DD.iG.past b) rs (DD.rX.past b) ra2 rl rca2 row (iRow.past b) (hok.out.key (by omega)) (fun e => by have := fitsE_key (K := KI) e (by omega); rw [← hrl]; exact this) (by omega) (fun r hr => by rw [hok.out.len r hr]; omega) (by omega)
                  simp only [hE, hrs2] at HPc HRp
                  unfold tbV at HPc HRp
                  clear hE hrs2
                  have HSr := fun (w' : World) (hb : Below Y2.heap.size Y2.drew w') => ((iRow.past (Below.refl _ _).drew).past hb).src (P := Try.prog) (t := 49) Try.underlying49
                  obtain ⟨t0, t1, t2, t3, t4⟩ := tb_cells DD.hT
                  have hgtB := DD.hT.lt
                  have hB0 : Y2.heap.size ≤ Y2.heap.size := Nat.le_refl _
                  go_upto_region 16 with fail
                  have h4d : decide ((KK : Int) < 4) = true := by simp [h4i]
                  simp only [h4d]
                  clear h4i h4d
                  clear a0_ HWk
                  refine region_inv (TPl16 Y2.heap.size gt NM g N cg KI only co cc ro rn rc ra2 rl rca2 row F E rs2) (by kernel_rfl) (by kernel_rfl) ?_ ?_ ?_
                  · exact ⟨false, false, false, false, false, false, false, false, false, false, false, u87, u88, u89, u90, u91, u86, u92, u93, u12, u13, 0, none, 0, none, 0, none, 0, 0, 0, rfl, (by simp only [Act.put, List.setIfInBounds_toArray, List.set_cons_zero, List.set_cons_succ]), Below.refl _ _, (fun h => by cases h), (fun h => by cases h), (fun h => by cases h), (fun h => by cases h), (fun h => by cases h), (fun h => by cases h), (fun h => by cases h), (fun h => by cases h), (fun h => by cases h), (fun h => by cases h), (fun h => by cases h), (fun h => by cases h), (fun h => by cases h), (fun h => by cases h), (fun h => by cases h), (fun h => by cases h), (fun h => by cases h), (fun h => by cases h), (fun h => by cases h), (fun h => by cases h), (fun h => by cases h), (fun h => by cases h), (fun h => by cases h), (fun h => by cases h), (fun h => by cases h), (fun h => by cases h), (fun h => by cases h), (fun h => by cases h), (fun h => by cases h)⟩
                  · refine ⟨?_, ?_, ?_, ?_, ?_, ?_, ?_, ?_, ?_, ?_, ?_, trivial⟩
                    · rintro L a w ⟨b0, b1, b2, b3, b4, b5, b6, b7, b8, b9, b10, x87, x88, x89, x90, x91, x86, x92, x93, x12, x13, gb, wa, wd, co2, cc2, ro2, rn2, rc2, gu, rfl, rfl, hb, cd0, cd1, cd2, cd3, cd4, cd5, cd6, cd7, cd8, cd10, f_ob, f_lb, f_tb, f_wr, f_q43, f_q41, f_q31, f_tt, f_st, f_lt, f_n3, f_z, f_lg, f_s, f_o9, f_o9b, f_o93, w_5_4, w_6_4⟩ hf hd
                      have hf' : b0 = false := hf
                      subst hf'
                      clear hf hd
                      try simp only [List.setIfInBounds_toArray, List.set_cons_zero, List.set_cons_succ]
                      have z0 := (hb.cell hgtB).trans t0
                      have z1 := (hb.cell hgtB).trans t1
                      have z2 := (hb.cell hgtB).trans t2
                      have z3 := (hb.cell hgtB).trans t3
                      have z4 := (hb.cell hgtB).trans t4
                      intro K hK
                      rw [if_pos (by rfl)]
                      go_simp
                      exact hK.out _ _ ⟨true, b1, b2, b3, b4, b5, b6, b7, b8, b9, b10, (.agg #[.string (bsOf NM), .slice co N cc, .int .i64 (KI : Nat), .bool only, .slice ro rn rc]), x88, x89, x90, x91, x86, x92, x93, x12, x13, gb, wa, wd, co2, cc2, ro2, rn2, rc2, gu, (by simp only [Act.put, List.setIfInBounds_toArray, List.set_cons_zero, List.set_cons_succ]), (by simp only [Act.put, List.setIfInBounds_toArray, List.set_cons_zero, List.set_cons_succ]), hb, (fun _ => rfl), cd1, cd2, cd3, cd4, cd5, cd6, cd7, cd8, cd10, f_ob, f_lb, f_tb, f_wr, f_q43, f_q41, f_q31, f_tt, f_st, f_lt, f_n3, f_z, f_lg, f_s, f_o9, f_o9b, f_o93, w_5_4, w_6_4⟩
                    · rintro L a w ⟨b0, b1, b2, b3, b4, b5, b6, b7, b8, b9, b10, x87, x88, x89, x90, x91, x86, x92, x93, x12, x13, gb, wa, wd, co2, cc2, ro2, rn2, rc2, gu, rfl, rfl, hb, cd0, cd1, cd2, cd3, cd4, cd5, cd6, cd7, cd8, cd10, f_ob, f_lb, f_tb, f_wr, f_q43, f_q41, f_q31, f_tt, f_st, f_lt, f_n3, f_z, f_lg, f_s, f_o9, f_o9b, f_o93, w_5_4, w_6_4⟩ hf hd
                      have hf' : b1 = false := hf
                      subst hf'
                      clear hf hd
                      try simp only [List.setIfInBounds_toArray, List.set_cons_zero, List.set_cons_succ]
                      intro K hK
                      rw [if_pos (by rfl)]
                      go_simp
                      have bx : Below w.heap.size w (w.alloc (.cells #[] 55)) := (Below.refl _ _).alloc (Nat.le_refl _) _
                      exact hK.out _ _ ⟨b0, true, b2, b3, b4, b5, b6, b7, b8, b9, b10, x87, (.slice (some ⟨(w.heap.size), 0, none⟩) 0 0), x89, x90, x91, x86, x92, x93, x12, x13, w.heap.size, wa, wd, co2, cc2, ro2, rn2, rc2, gu, (by simp only [Act.put, List.setIfInBounds_toArray, List.set_cons_zero, List.set_cons_succ]), (by simp only [Act.put, List.setIfInBounds_toArray, List.set_cons_zero, List.set_cons_succ]), hb.trans (bx.mono (Nat.le_trans hB0 hb.size)), cd0, (fun _ => rfl), cd2, cd3, cd4, cd5, cd6, cd7, cd8, cd10, (fun _ _ => own_emptyR w _), (fun _ => hb.size), (fun _ => (by show _ < _; rw [World.size_alloc]; omega)), (fun h0 h1 => (f_wr.out h0 h1).past bx), f_q43, (fun _ => rfl), (fun _ => rfl), (fun h0 => (f_tt.out h0).past bx), (fun h0 _ => absurd (f_q41.out h0) (by simp)), (fun h0 => (f_lt.out h0).past bx), (fun h0 _ e => Nat.ne_of_gt (f_lt.out h0) e.symm), (fun h0 h1 => (f_z.out h0 h1).past bx), f_lg, (fun h0 => (f_s.out h0).past bx), f_o9, f_o9b, f_o93, w_5_4, w_6_4⟩
                    · rintro L a w ⟨b0, b1, b2, b3, b4, b5, b6, b7, b8, b9, b10, x87, x88, x89, x90, x91, x86, x92, x93, x12, x13, gb, wa, wd, co2, cc2, ro2, rn2, rc2, gu, rfl, rfl, hb, cd0, cd1, cd2, cd3, cd4, cd5, cd6, cd7, cd8, cd10, f_ob, f_lb, f_tb, f_wr, f_q43, f_q41, f_q31, f_tt, f_st, f_lt, f_n3, f_z, f_lg, f_s, f_o9, f_o9b, f_o93, w_5_4, w_6_4⟩ hf hd
                      have hf' : b2 = false := hf
                      subst hf'
                      clear hf hd
                      try simp only [List.setIfInBounds_toArray, List.set_cons_zero, List.set_cons_succ]
                      intro K hK
                      rw [if_pos (by rfl)]
                      go_simp
                      exact hK.out _ _ ⟨b0, b1, true, b3, b4, b5, b6, b7, b8, b9, b10, x87, x88, (.slice ra2 rl rca2), x90, x91, x86, x92, x93, x12, x13, gb, wa, wd, co2, cc2, ro2, rn2, rc2, gu, (by simp only [Act.put, List.setIfInBounds_toArray, List.set_cons_zero, List.set_cons_succ]), (by simp only [Act.put, List.setIfInBounds_toArray, List.set_cons_zero, List.set_cons_succ]), hb, cd0, cd1, (fun _ => rfl), cd3, cd4, cd5, cd6, cd7, cd8, cd10, f_ob, f_lb, f_tb, f_wr, f_q43, f_q41, f_q31, f_tt, f_st, f_lt, f_n3, f_z, f_lg, f_s, f_o9, f_o9b, f_o93, w_5_4, w_6_4⟩
                    · rintro L a w ⟨b0, b1, b2, b3, b4, b5, b6, b7, b8, b9, b10, x87, x88, x89, x90, x91, x86, x92, x93, x12, x13, gb, wa, wd, co2, cc2, ro2, rn2, rc2, gu, rfl, rfl, hb, cd0, cd1, cd2, cd3, cd4, cd5, cd6, cd7, cd8, cd10, f_ob, f_lb, f_tb, f_wr, f_q43, f_q41, f_q31, f_tt, f_st, f_lt, f_n3, f_z, f_lg, f_s, f_o9, f_o9b, f_o93, w_5_4, w_6_4⟩ hf hd
                      have hf' : b3 = false := hf
                      subst hf'
                      have d1 : b1 = true := hd ⟨1, .data⟩ (by simp) rfl
                      subst d1
                      have d2 : b2 = true := hd ⟨2, .data⟩ (by simp) rfl
                      subst d2
                      obtain rfl := cd1.out rfl
                      obtain rfl := cd2.out rfl
                      clear hf hd
                      have W_ob := f_ob.out rfl rfl
                      have W_lb := f_lb.out rfl
                      have W_tb := f_tb.out rfl
                      try simp only [List.setIfInBounds_toArray, List.set_cons_zero, List.set_cons_succ]
                      intro K hK
                      rw [if_pos (by rfl)]
                      refine wp_append_gb (.tmp 88) (.tmp 89) 49 49 rfl 55 rowTyV Y2.heap.size gb rfl W_ob W_lb (Nat.le_trans hB0 hb.size) _ rfl rl row (HSr _ hb) hrl (by omega) fun a9 c9 w2 oz g8 bz => ?_
                      have hb2 := hb.trans bz
                      exact hK.out _ _ ⟨b0, true, true, true, b4, b5, b6, b7, b8, b9, b10, x87, .slice (some ⟨gb, 0, none⟩) 0 0, .slice ra2 rl rca2, (.slice a9 rl c9), x91, x86, x92, x93, x12, x13, gb, a9, c9, co2, cc2, ro2, rn2, rc2, gu, (by simp only [Act.put, List.setIfInBounds_toArray, List.set_cons_zero, List.set_cons_succ]), (by simp only [Act.put, List.setIfInBounds_toArray, List.set_cons_zero, List.set_cons_succ]), hb2, cd0, (fun _ => rfl), (fun _ => rfl), (fun _ => rfl), cd4, cd5, cd6, cd7, cd8, cd10, (fun _ h => by cases h), f_lb, (fun h0 => Nat.lt_of_lt_of_le ((f_tb.out h0)) g8.size), (fun _ _ => oz), (fun _ => rfl), f_q41, (fun _ => rfl), (fun h0 => absurd (f_q43.out h0) (by simp)), (fun h0 h1 => absurd (f_q43.out h0) (by simp)), (fun h0 => Nat.lt_of_lt_of_le ((f_lt.out h0)) g8.size), f_n3, (fun h0 h1 => ((f_z.out h0 h1)).grown g8 (fun e => f_n3.out h0 rfl (Option.some.inj e))), f_lg, (fun h0 => absurd (f_o93.out h0) (by simp)), f_o9, f_o9b, (fun _ => rfl), w_5_4, w_6_4⟩
                    · rintro L a w ⟨b0, b1, b2, b3, b4, b5, b6, b7, b8, b9, b10, x87, x88, x89, x90, x91, x86, x92, x93, x12, x13, gb, wa, wd, co2, cc2, ro2, rn2, rc2, gu, rfl, rfl, hb, cd0, cd1, cd2, cd3, cd4, cd5, cd6, cd7, cd8, cd10, f_ob, f_lb, f_tb, f_wr, f_q43, f_q41, f_q31, f_tt, f_st, f_lt, f_n3, f_z, f_lg, f_s, f_o9, f_o9b, f_o93, w_5_4, w_6_4⟩ hf hd
                      have hf' : b4 = false := hf
                      subst hf'
                      have d0 : b0 = true := hd ⟨0, .data⟩ (by simp) rfl
                      subst d0
                      have d3 : b3 = true := hd ⟨3, .data⟩ (by simp) rfl
                      subst d3
                      obtain rfl := cd0.out rfl
                      obtain rfl := cd3.out rfl
                      clear hf hd
                      have W_wr := f_wr.out rfl rfl
                      have W_q31 := f_q31.out rfl
                      try simp only [List.setIfInBounds_toArray, List.set_cons_zero, List.set_cons_succ]
                      intro K hK
                      rw [if_pos (by rfl)]
                      go_simp
                      go_at_call 20
                      refine (HPc _ hb _ _ W_wr.isR).mono ?_
                      rintro e w' ⟨co3, cc3, ro3, rn3, rc3, rfl, i1, bx⟩
                      unfold tbV
                      have e_5 : b5 = false := by cases hq : b5 with | false => rfl | true => exact absurd (w_5_4.out hq) (by simp)
                      subst e_5
                      have e_6 : b6 = false := by cases hq : b6 with | false => rfl | true => exact absurd (w_6_4.out hq) (by simp)
                      subst e_6
                      exact hK.out _ _ ⟨true, b1, b2, true, true, false, false, b7, b8, b9, b10, .agg #[.string (bsOf NM), .slice co N cc, .int .i64 (KI : Nat), .bool only, .slice ro rn rc], x88, x89, .slice wa rl wd, (.tuple #[.agg #[.string (bsOf NM), .slice co3 N cc3, .int .i64 (KI : Nat), .bool only, .slice ro3 rn3 rc3], .int .i64 E]), x86, x92, x93, x12, x13, gb, wa, wd, co3, cc3, ro3, rn3, rc3, gu, (by simp only [Act.put, List.setIfInBounds_toArray, List.set_cons_zero, List.set_cons_succ]), (by simp only [Act.put, List.setIfInBounds_toArray, List.set_cons_zero, List.set_cons_succ]), hb.trans (bx.mono (Nat.le_trans hB0 hb.size)), (fun _ => rfl), cd1, cd2, (fun _ => rfl), (fun _ => rfl), (fun h => by cases h), (fun h => by cases h), cd7, cd8, cd10, (fun _ h => by cases h), f_lb, (fun h0 => (f_tb.out h0).past bx), (fun _ h => by cases h), (fun _ => rfl), (fun _ => (f_q31.out rfl)), f_q31, (fun _ => i1.mono hb.size), (fun _ _ => fun h w'' gw => (i1.grown gw (f_lt.out h)).mono hb.size), (fun h0 => (f_lt.out h0).past bx), f_n3, (fun h0 h1 => (f_z.out h0 h1).past bx), f_lg, (fun h0 => absurd (f_o9.out h0) (by simp)), (fun _ => rfl), f_o9b, f_o93, (fun _ => rfl), (fun _ => rfl)⟩
                    · rintro L a w ⟨b0, b1, b2, b3, b4, b5, b6, b7, b8, b9, b10, x87, x88, x89, x90, x91, x86, x92, x93, x12, x13, gb, wa, wd, co2, cc2, ro2, rn2, rc2, gu, rfl, rfl, hb, cd0, cd1, cd2, cd3, cd4, cd5, cd6, cd7, cd8, cd10, f_ob, f_lb, f_tb, f_wr, f_q43, f_q41, f_q31, f_tt, f_st, f_lt, f_n3, f_z, f_lg, f_s, f_o9, f_o9b, f_o93, w_5_4, w_6_4⟩ hf hd
                      have hf' : b5 = false := hf
                      subst hf'
                      have d4 : b4 = true := hd ⟨4, .data⟩ (by simp) rfl
                      subst d4
                      obtain rfl := cd4.out rfl
                      clear hf hd
                      have W_q43 := f_q43.out rfl
                      have W_q41 := f_q41.out rfl
                      have W_tt := f_tt.out rfl
                      try simp only [List.setIfInBounds_toArray, List.set_cons_zero, List.set_cons_succ]
                      intro K hK
                      rw [if_pos (by rfl)]
                      go_simp
                      exact hK.out _ _ ⟨b0, b1, b2, b3, true, true, b6, b7, b8, b9, b10, x87, x88, x89, x90, .tuple #[.agg #[.string (bsOf NM), .slice co2 N cc2, .int .i64 (KI : Nat), .bool only, .slice ro2 rn2 rc2], .int .i64 E], (.tuple #[.agg #[.string (bsOf NM), .slice co2 N cc2, .int .i64 (KI : Nat), .bool only, .slice ro2 rn2 rc2], .int .i64 E]), x92, x93, x12, x13, gb, wa, wd, co2, cc2, ro2, rn2, rc2, gu, (by simp only [Act.put, List.setIfInBounds_toArray, List.set_cons_zero, List.set_cons_succ]), (by simp only [Act.put, List.setIfInBounds_toArray, List.set_cons_zero, List.set_cons_succ]), hb, cd0, cd1, cd2, cd3, (fun _ => rfl), (fun _ => rfl), cd6, cd7, cd8, cd10, f_ob, f_lb, f_tb, (fun _ h => by cases h), f_q43, f_q41, f_q31, f_tt, f_st, f_lt, f_n3, f_z, f_lg, f_s, f_o9, f_o9b, f_o93, (fun _ => rfl), (fun _ => rfl)⟩
                    · rintro L a w ⟨b0, b1, b2, b3, b4, b5, b6, b7, b8, b9, b10, x87, x88, x89, x90, x91, x86, x92, x93, x12, x13, gb, wa, wd, co2, cc2, ro2, rn2, rc2, gu, rfl, rfl, hb, cd0, cd1, cd2, cd3, cd4, cd5, cd6, cd7, cd8, cd10, f_ob, f_lb, f_tb, f_wr, f_q43, f_q41, f_q31, f_tt, f_st, f_lt, f_n3, f_z, f_lg, f_s, f_o9, f_o9b, f_o93, w_5_4, w_6_4⟩ hf hd
                      have hf' : b6 = false := hf
                      subst hf'
                      have d5 : b5 = true := hd ⟨5, .data⟩ (by simp) rfl
                      subst d5
                      obtain rfl := cd5.out rfl
                      clear hf hd
                      try simp only [List.setIfInBounds_toArray, List.set_cons_zero, List.set_cons_succ]
                      intro K hK
                      rw [if_pos (by rfl)]
                      go_simp
                      exact hK.out _ _ ⟨b0, b1, b2, b3, b4, true, true, b7, b8, b9, b10, x87, x88, x89, x90, x91, .tuple #[.agg #[.string (bsOf NM), .slice co2 N cc2, .int .i64 (KI : Nat), .bool only, .slice ro2 rn2 rc2], .int .i64 E], (.agg #[.string (bsOf NM), .slice co2 N cc2, .int .i64 (KI : Nat), .bool only, .slice ro2 rn2 rc2]), x93, x12, x13, gb, wa, wd, co2, cc2, ro2, rn2, rc2, gu, (by simp only [Act.put, List.setIfInBounds_toArray, List.set_cons_zero, List.set_cons_succ]), (by simp only [Act.put, List.setIfInBounds_toArray, List.set_cons_zero, List.set_cons_succ]), hb, cd0, cd1, cd2, cd3, cd4, (fun _ => rfl), (fun _ => rfl), cd7, cd8, cd10, f_ob, f_lb, f_tb, f_wr, f_q43, f_q41, f_q31, f_tt, f_st, f_lt, f_n3, f_z, f_lg, f_s, f_o9, f_o9b, f_o93, w_5_4, (fun _ => w_5_4.out rfl)⟩
                    · rintro L a w ⟨b0, b1, b2, b3, b4, b5, b6, b7, b8, b9, b10, x87, x88, x89, x90, x91, x86, x92, x93, x12, x13, gb, wa, wd, co2, cc2, ro2, rn2, rc2, gu, rfl, rfl, hb, cd0, cd1, cd2, cd3, cd4, cd5, cd6, cd7, cd8, cd10, f_ob, f_lb, f_tb, f_wr, f_q43, f_q41, f_q31, f_tt, f_st, f_lt, f_n3, f_z, f_lg, f_s, f_o9, f_o9b, f_o93, w_5_4, w_6_4⟩ hf hd
                      have hf' : b7 = false := hf
                      subst hf'
                      have d5 : b5 = true := hd ⟨5, .data⟩ (by simp) rfl
                      subst d5
                      obtain rfl := cd5.out rfl
                      clear hf hd
                      try simp only [List.setIfInBounds_toArray, List.set_cons_zero, List.set_cons_succ]
                      intro K hK
                      rw [if_pos (by rfl)]
                      go_simp
                      exact hK.out _ _ ⟨b0, b1, b2, b3, b4, true, b6, true, b8, b9, b10, x87, x88, x89, x90, x91, .tuple #[.agg #[.string (bsOf NM), .slice co2 N cc2, .int .i64 (KI : Nat), .bool only, .slice ro2 rn2 rc2], .int .i64 E], x92, (.int .i64 E), x12, x13, gb, wa, wd, co2, cc2, ro2, rn2, rc2, gu, (by simp only [Act.put, List.setIfInBounds_toArray, List.set_cons_zero, List.set_cons_succ]), (by simp only [Act.put, List.setIfInBounds_toArray, List.set_cons_zero, List.set_cons_succ]), hb, cd0, cd1, cd2, cd3, cd4, (fun _ => rfl), cd6, (fun _ => rfl), cd8, cd10, f_ob, f_lb, f_tb, f_wr, f_q43, f_q41, f_q31, f_tt, f_st, f_lt, f_n3, f_z, f_lg, f_s, f_o9, f_o9b, f_o93, w_5_4, w_6_4⟩
                    · rintro L a w ⟨b0, b1, b2, b3, b4, b5, b6, b7, b8, b9, b10, x87, x88, x89, x90, x91, x86, x92, x93, x12, x13, gb, wa, wd, co2, cc2, ro2, rn2, rc2, gu, rfl, rfl, hb, cd0, cd1, cd2, cd3, cd4, cd5, cd6, cd7, cd8, cd10, f_ob, f_lb, f_tb, f_wr, f_q43, f_q41, f_q31, f_tt, f_st, f_lt, f_n3, f_z, f_lg, f_s, f_o9, f_o9b, f_o93, w_5_4, w_6_4⟩ hf hd
                      have hf' : b8 = false := hf
                      subst hf'
                      clear hf hd
                      try simp only [List.setIfInBounds_toArray, List.set_cons_zero, List.set_cons_succ]
                      intro K hK
                      rw [if_pos (by rfl)]
                      go_simp
                      have bx : Below w.heap.size w (w.alloc (.cells #[.string ⟨#[]⟩, .slice none 0 0, .int .i64 0, .bool false, .slice none 0 0] 47)) := (Below.refl _ _).alloc (Nat.le_refl _) _
                      exact hK.out _ _ ⟨b0, b1, b2, b3, b4, b5, b6, b7, true, b9, b10, x87, x88, x89, x90, x91, x86, x92, x93, (.pointer (some ⟨(w.heap.size), 0, none⟩)), x13, gb, wa, wd, co2, cc2, ro2, rn2, rc2, w.heap.size, (by simp only [Act.put, List.setIfInBounds_toArray, List.set_cons_zero, List.set_cons_succ]), (by simp only [Act.put, List.setIfInBounds_toArray, List.set_cons_zero, List.set_cons_succ]), hb.trans (bx.mono (Nat.le_trans hB0 hb.size)), cd0, cd1, cd2, cd3, cd4, cd5, cd6, cd7, (fun _ => rfl), cd10, (fun h0 h1 => (f_ob.out h0 h1).past bx), f_lb, (fun h0 => (f_tb.out h0).past bx), (fun h0 h1 => (f_wr.out h0 h1).past bx), f_q43, f_q41, f_q31, (fun h0 => (f_tt.out h0).past bx), (fun h0 _ _ w'' gw => (f_tt.out h0).past (below_new gw)), (fun _ => (by show _ < _; rw [World.size_alloc]; omega)), (fun _ => fun h e => Nat.ne_of_gt (f_tb.out h) e), (fun _ _ => Bk.new w _ _), (fun _ => hb.size), (fun h0 => absurd (f_o9b.out h0) (by simp)), f_o9, (fun _ => rfl), f_o93, w_5_4, w_6_4⟩
                    · rintro L a w ⟨b0, b1, b2, b3, b4, b5, b6, b7, b8, b9, b10, x87, x88, x89, x90, x91, x86, x92, x93, x12, x13, gb, wa, wd, co2, cc2, ro2, rn2, rc2, gu, rfl, rfl, hb, cd0, cd1, cd2, cd3, cd4, cd5, cd6, cd7, cd8, cd10, f_ob, f_lb, f_tb, f_wr, f_q43, f_q41, f_q31, f_tt, f_st, f_lt, f_n3, f_z, f_lg, f_s, f_o9, f_o9b, f_o93, w_5_4, w_6_4⟩ hf hd
                      have hf' : b9 = false := hf
                      subst hf'
                      have d8 : b8 = true := hd ⟨8, .data⟩ (by simp) rfl
                      subst d8
                      have d6 : b6 = true := hd ⟨6, .data⟩ (by simp) rfl
                      subst d6
                      have d4 : b4 = true := hd ⟨4, .chain⟩ (by simp) rfl
                      subst d4
                      have d0 : b0 = true := hd ⟨0, .phase⟩ (by simp) rfl
                      subst d0
                      have d1 : b1 = true := hd ⟨1, .phase⟩ (by simp) rfl
                      subst d1
                      have d2 : b2 = true := hd ⟨2, .phase⟩ (by simp) rfl
                      subst d2
                      have d3 : b3 = true := hd ⟨3, .phase⟩ (by simp) rfl
                      subst d3
                      have d5 : b5 = true := hd ⟨5, .phase⟩ (by simp) rfl
                      subst d5
                      obtain rfl := cd8.out rfl
                      obtain rfl := cd6.out rfl
                      obtain rfl := cd4.out rfl
                      obtain rfl := cd0.out rfl
                      obtain rfl := cd1.out rfl
                      obtain rfl := cd2.out rfl
                      obtain rfl := cd3.out rfl
                      obtain rfl := cd5.out rfl
                      clear hf hd
                      have W_lb := f_lb.out rfl
                      have W_tb := f_tb.out rfl
                      have W_q43 := f_q43.out rfl
                      have W_q41 := f_q41.out rfl
                      have W_q31 := f_q31.out rfl
                      have W_tt := f_tt.out rfl
                      have W_st := f_st.out rfl rfl
                      have W_lt := f_lt.out rfl
                      have W_n3 := f_n3.out rfl
                      have W_z := f_z.out rfl rfl
                      have W_lg := f_lg.out rfl
                      try simp only [List.setIfInBounds_toArray, List.set_cons_zero, List.set_cons_succ]
                      intro K hK
                      rw [if_pos (by rfl)]
                      refine wp_store_blkT 47 _ _ rfl gu (tbC [] none 0 0 0 false none 0 0) (tbC NM co2 N cc2 (KI : Nat) only ro2 rn2 rc2) rfl rfl _ (Lib.hid W_z) 5 szTb (tbC_size ..) (tbC_size ..) (tbC_all ..) fun w2 h8 g8 => ?_
                      have hb2 := hb.grown g8 (Nat.le_trans hB0 hb.size) (fun z hz => by cases hz; exact W_lg)
                      exact hK.out _ _ ⟨true, true, true, true, true, true, true, b7, true, true, b10, .agg #[.string (bsOf NM), .slice co N cc, .int .i64 (KI : Nat), .bool only, .slice ro rn rc], .slice (some ⟨gb, 0, none⟩) 0 0, .slice ra2 rl rca2, .slice wa rl wd, .tuple #[.agg #[.string (bsOf NM), .slice co2 N cc2, .int .i64 (KI : Nat), .bool only, .slice ro2 rn2 rc2], .int .i64 E], .tuple #[.agg #[.string (bsOf NM), .slice co2 N cc2, .int .i64 (KI : Nat), .bool only, .slice ro2 rn2 rc2], .int .i64 E], .agg #[.string (bsOf NM), .slice co2 N cc2, .int .i64 (KI : Nat), .bool only, .slice ro2 rn2 rc2], x93, .pointer (some ⟨gu, 0, none⟩), x13, gb, wa, wd, co2, cc2, ro2, rn2, rc2, gu, (by simp only [Act.put, List.setIfInBounds_toArray, List.set_cons_zero, List.set_cons_succ]), (by simp only [Act.put, List.setIfInBounds_toArray, List.set_cons_zero, List.set_cons_succ]), hb2, (fun _ => rfl), (fun _ => rfl), (fun _ => rfl), (fun _ => rfl), (fun _ => rfl), (fun _ => rfl), (fun _ => rfl), cd7, (fun _ => rfl), cd10, (fun _ h => by cases h), f_lb, (fun h0 => Nat.lt_of_lt_of_le ((f_tb.out h0)) g8.size), (fun _ h => by cases h), f_q43, f_q41, f_q31, (fun h0 => (f_st.out h0 rfl rfl) _ g8), (fun _ h => by cases h), (fun h0 => Nat.lt_of_lt_of_le ((f_lt.out h0)) g8.size), f_n3, (fun _ h => by cases h), f_lg, (fun _ => h8.out), (fun _ => rfl), (fun _ => rfl), (fun _ => rfl), (fun _ => rfl), (fun _ => rfl)⟩
                    · rintro L a w ⟨b0, b1, b2, b3, b4, b5, b6, b7, b8, b9, b10, x87, x88, x89, x90, x91, x86, x92, x93, x12, x13, gb, wa, wd, co2, cc2, ro2, rn2, rc2, gu, rfl, rfl, hb, cd0, cd1, cd2, cd3, cd4, cd5, cd6, cd7, cd8, cd10, f_ob, f_lb, f_tb, f_wr, f_q43, f_q41, f_q31, f_tt, f_st, f_lt, f_n3, f_z, f_lg, f_s, f_o9, f_o9b, f_o93, w_5_4, w_6_4⟩ hf hd
                      have hf' : b10 = false := hf
                      subst hf'
                      have d7 : b7 = true := hd ⟨7, .data⟩ (by simp) rfl
                      subst d7
                      have d9 : b9 = true := hd ⟨9, .chain⟩ (by simp) rfl
                      subst d9
                      have d0 : b0 = true := hd ⟨0, .phase⟩ (by simp) rfl
                      subst d0
                      have d1 : b1 = true := hd ⟨1, .phase⟩ (by simp) rfl
                      subst d1
                      have d2 : b2 = true := hd ⟨2, .phase⟩ (by simp) rfl
                      subst d2
                      have d3 : b3 = true := hd ⟨3, .phase⟩ (by simp) rfl
                      subst d3
                      have d4 : b4 = true := hd ⟨4, .phase⟩ (by simp) rfl
                      subst d4
                      have d5 : b5 = true := hd ⟨5, .phase⟩ (by simp) rfl
                      subst d5
                      have d6 : b6 = true := hd ⟨6, .phase⟩ (by simp) rfl
                      subst d6
                      have d8 : b8 = true := hd ⟨8, .phase⟩ (by simp) rfl
                      subst d8
                      obtain rfl := cd7.out rfl
                      obtain rfl := cd0.out rfl
                      obtain rfl := cd1.out rfl
                      obtain rfl := cd2.out rfl
                      obtain rfl := cd3.out rfl
                      obtain rfl := cd4.out rfl
                      obtain rfl := cd5.out rfl
                      obtain rfl := cd6.out rfl
                      obtain rfl := cd8.out rfl
                      clear hf hd
                      have W_lb := f_lb.out rfl
                      have W_tb := f_tb.out rfl
                      have W_q43 := f_q43.out rfl
                      have W_q41 := f_q41.out rfl
                      have W_q31 := f_q31.out rfl
                      have W_tt := f_tt.out rfl
                      have W_lt := f_lt.out rfl
                      have W_n3 := f_n3.out rfl
                      have W_lg := f_lg.out rfl
                      have W_s := f_s.out rfl
                      have W_o9 := f_o9.out rfl
                      have W_o9b := f_o9b.out rfl
                      have W_o93 := f_o93.out rfl
                      try simp only [List.setIfInBounds_toArray, List.set_cons_zero, List.set_cons_succ]
                      intro K hK
                      rw [if_pos (by rfl)]
                      go_simp
                      exact hK.out _ _ ⟨true, true, true, true, true, true, true, true, true, true, true, .agg #[.string (bsOf NM), .slice co N cc, .int .i64 (KI : Nat), .bool only, .slice ro rn rc], .slice (some ⟨gb, 0, none⟩) 0 0, .slice ra2 rl rca2, .slice wa rl wd, .tuple #[.agg #[.string (bsOf NM), .slice co2 N cc2, .int .i64 (KI : Nat), .bool only, .slice ro2 rn2 rc2], .int .i64 E], .tuple #[.agg #[.string (bsOf NM), .slice co2 N cc2, .int .i64 (KI : Nat), .bool only, .slice ro2 rn2 rc2], .int .i64 E], .agg #[.string (bsOf NM), .slice co2 N cc2, .int .i64 (KI : Nat), .bool only, .slice ro2 rn2 rc2], .int .i64 E, .pointer (some ⟨gu, 0, none⟩), (.int .i64 E), gb, wa, wd, co2, cc2, ro2, rn2, rc2, gu, (by simp only [Act.put, List.setIfInBounds_toArray, List.set_cons_zero, List.set_cons_succ]), (by simp only [Act.put, List.setIfInBounds_toArray, List.set_cons_zero, List.set_cons_succ]), hb, (fun _ => rfl), (fun _ => rfl), (fun _ => rfl), (fun _ => rfl), (fun _ => rfl), (fun _ => rfl), (fun _ => rfl), (fun _ => rfl), (fun _ => rfl), (fun _ => rfl), (fun _ h => by cases h), f_lb, f_tb, (fun _ h => by cases h), f_q43, f_q41, f_q31, f_tt, (fun _ h => by cases h), f_lt, f_n3, (fun _ h => by cases h), f_lg, f_s, f_o9, f_o9b, f_o93, (fun _ => rfl), (fun _ => rfl)⟩
                  · rintro act V16 ⟨b0, b1, b2, b3, b4, b5, b6, b7, b8, b9, b10, x87, x88, x89, x90, x91, x86, x92, x93, x12, x13, gb, wa, wd, co2, cc2, ro2, rn2, rc2, gu, hL, rfl, hb, cd0, cd1, cd2, cd3, cd4, cd5, cd6, cd7, cd8, cd10, f_ob, f_lb, f_tb, f_wr, f_q43, f_q41, f_q31, f_tt, f_st, f_lt, f_n3, f_z, f_lg, f_s, f_o9, f_o9b, f_o93, w_5_4, w_6_4⟩
                    have hL' : [true, true, true, true, true, true, true, true, true, true, true] = [b0, b1, b2, b3, b4, b5, b6, b7, b8, b9, b10] := congrArg Array.toList hL
                    simp only [List.cons.injEq, and_true] at hL'
                    obtain ⟨rfl, rfl, rfl, rfl, rfl, rfl, rfl, rfl, rfl, rfl, rfl⟩ := hL'
                    obtain rfl := cd0.out rfl
                    obtain rfl := cd1.out rfl
                    obtain rfl := cd2.out rfl
                    obtain rfl := cd3.out rfl
                    obtain rfl := cd4.out rfl
                    obtain rfl := cd5.out rfl
                    obtain rfl := cd6.out rfl
                    obtain rfl := cd7.out rfl
                    obtain rfl := cd8.out rfl
                    obtain rfl := cd10.out rfl
                    have W_lb := f_lb.out rfl
                    have W_tb := f_tb.out rfl
                    have W_q43 := f_q43.out rfl
                    have W_q41 := f_q41.out rfl
                    have W_q31 := f_q31.out rfl
                    have W_tt := f_tt.out rfl
                    have W_lt := f_lt.out rfl
                    have W_n3 := f_n3.out rfl
                    have W_lg := f_lg.out rfl
                    have W_s := f_s.out rfl
                    have W_o9 := f_o9.out rfl
                    have W_o9b := f_o9b.out rfl
                    have W_o93 := f_o93.out rfl
                    clear hL f_ob f_lb f_tb f_wr f_q43 f_q41 f_q31 f_tt f_st f_lt f_n3 f_z f_lg f_s f_o9 f_o9b f_o93 cd0 cd1 cd2 cd3 cd4 cd5 cd6 cd7 cd8 cd10 w_5_4 w_6_4
                    simp only [List.setIfInBounds_toArray, List.set_cons_zero, List.set_cons_succ]
                    have bV : Below Y2.heap.size Y2 V16 := (Below.refl _ _).drew.trans hb
                    have DD := DD.past bV
                    have VK := VK.past bV
                    have hWw := hWw.past bV
                    have B := B.trans (bV.mono hp2)
                    have hS3 := Nat.le_trans hS2 bV.size
                    have iT2 : IsT V16 Y2.heap.size co2 N cc2 F ro2 rn2 rc2 rs2 := W_tt
                    have TU := W_s
                    have hgu0 : Y2.heap.size ≤ gu := W_lg
                    have hguV := TU.lt
                    have hp3 := Nat.le_trans hp2 bV.size
                    have HR := HRp V16 bV
                    clear hb W_tt W_s W_lg W_lb W_tb W_lt W_n3 W_q43 W_q41 W_q31 W_o9 W_o9b W_o93 t0 t1 t2 t3 t4 HPc HRp HSr bV
                    obtain ⟨x0_, x1_, x2_, x3_, x4_⟩ := tb_cells DD.hX
                    go_upto_region 18 with (go_at_call 21; refine HR.mono ?_; rintro e w9 ⟨xo2, xn2, xc2, rfl, rX, b9⟩; unfold tbV)
                    have bA := b9.alloc b9.size (.cells #[.string (bsOf NM), .slice (some ⟨g, 0, none⟩) N cg, .int .i64 (KI : Nat), .bool only, .slice xo2 xn2 xc2] 48)
                    have TY : Bk (w9.alloc (.cells #[.string (bsOf NM), .slice (some ⟨g, 0, none⟩) N cg, .int .i64 (KI : Nat), .bool only, .slice xo2 xn2 xc2] 48)) w9.heap.size (tbC NM (some ⟨g, 0, none⟩) N cg (KI : Nat) only xo2 xn2 xc2) 48 := Bk.new w9 _ _
                    have rX := rX.past ((Below.refl w9.heap.size w9).alloc (Nat.le_refl _) (.cells #[.string (bsOf NM), .slice (some ⟨g, 0, none⟩) N cg, .int .i64 (KI : Nat), .bool only, .slice xo2 xn2 xc2] 48))
                    have DD := DD.past bA
                    have VK := VK.past bA
                    have hWw := hWw.past bA
                    have iT2 := iT2.past bA
                    have TU := TU.past bA
                    have B := B.trans (bA.mono hp3)
                    have hS4 := Nat.le_trans hS3 bA.size
                    have hp4 := Nat.le_trans hp3 bA.size
                    have hgy0 : S ≤ w9.heap.size := Nat.le_trans hS3 b9.size
                    clear x0_ x1_ x2_ x3_ x4_ HR b9 bA hS3 hp3
                    generalize w9.alloc (.cells #[.string (bsOf NM), .slice (some ⟨g, 0, none⟩) N cg, .int .i64 (KI : Nat), .bool only, .slice xo2 xn2 xc2] 48) = Y4 at TY rX DD VK hWw iT2 TU B hS4 hp4 ⊢
                    obtain ⟨gy, hgy⟩ : ∃ z_, w9.heap.size = z_ := ⟨_, rfl⟩
                    rw [hgy] at TY hgy0
                    simp only [hgy]
                    clear hgy
                    obtain ⟨t0, t1, t2, t3, t4⟩ := tb_cells DD.hT
                    obtain ⟨y0_, y1_, y2_, y3_, y4_⟩ := tb_cells hWw
                    have en : (E != E) = false := by simp
                    have HS := tsame_rfl Y4 NM F N (KI : Nat) only 0 0 co cc ro rn rc rs co cc ro rn rc DD.isT DD.isT (by omega)
                    unfold tbV at HS
                    go_upto_region 20 with (go_at_call 22; refine HS.mono ?_; rintro e U ⟨rfl, b5⟩)
                    have DD := DD.past b5
                    have VK := VK.past b5
                    have iT2 := iT2.past b5
                    have TU := TU.past b5
                    have TY := TY.past b5
                    have rX := rX.past b5
                    have B := B.trans (b5.mono hp4)
                    have hSU := Nat.le_trans hS4 b5.size
                    clear t0 t1 t2 t3 t4 y0_ y1_ y2_ y3_ y4_ HS en b5 hWw
                    have hn2 : ∀ a, co2 = some a → a.block ≠ gt ∧ a.block ≠ gx := fun a ha => by have := iT2.frm a ha; exact ⟨by omega, by omega⟩
                    have cT := iT2.cols
                    have rT := iT2.rows.mono hS2
                    have hk1 : gk ≠ gt := by omega
                    have hk2 : gk ≠ gx := by omega
                    have hu1 : gu ≠ gt := by omega
                    have hu2 : gu ≠ gx := by omega
                    have hy1 : gy ≠ gt := by omega
                    have hy2 : gy ≠ gx := by omega
                    clear iT2
                    have XS := DD.XS
                    have iG := DD.iG
                    have hT := DD.hT
                    have hX := DD.hX
                    have hs1 : gs ≠ gt := by omega
                    have hs2 : gs ≠ gx := by omega
                    have hg1 : g ≠ gt := by omega
                    have hg2 : g ≠ gx := by omega
                    have hBt : p0 ≤ gt := by omega
                    have hBx : p0 ≤ gx := by omega
                    have hB0 : p0 ≤ U.heap.size := Nat.le_trans hpS hSU
                    clear DD
                    refine region_inv (TPl20 p0 S gs gt gx gk gu gy NM g N cg KI only co cc ro rn rc xo xn xc co2 cc2 ro2 rn2 rc2 xo2 xn2 xc2 F rs2 kk km ks) (by kernel_rfl) (by kernel_rfl) ?_ ?_ ?_
                    · exact ⟨false, false, false, false, u109, u110, rfl, (by simp only [Act.put, List.setIfInBounds_toArray, List.set_cons_zero, List.set_cons_succ]), Below.refl _ _, (fun h => by cases h), (fun h => by cases h), (XS.past (Below.refl _ _).drew), (iG.past (Below.refl _ _).drew), (cT.past (Below.refl _ _).drew), (rT.past (Below.refl _ _).drew), (rX.past (Below.refl _ _).drew), (VK.past (Below.refl _ _).drew), (TU.past (Below.refl _ _).drew), (TY.past (Below.refl _ _).drew), (fun h1 => hT.past (Below.refl _ _).drew), (fun h1 => hX.past (Below.refl _ _).drew), (fun h => by cases h), (fun h => by cases h)⟩
                    · refine ⟨?_, ?_, ?_, ?_, trivial⟩
                      · rintro L a w ⟨b0, b1, b2, b3, x109, x110, rfl, rfl, hb, cd0, cd1, f_xs, f_ig, f_c, f_r, f_rx, f_vk, f_tu, f_ty, f_ht, f_hx, f_st, f_sx⟩ hf hd
                        have hf' : b0 = false := hf
                        subst hf'
                        clear hf hd
                        have W_xs := f_xs.out
                        have W_ig := f_ig.out
                        have W_c := f_c.out
                        have W_r := f_r.out
                        have W_rx := f_rx.out
                        have W_vk := f_vk.out
                        have W_tu := f_tu.out
                        have W_ty := f_ty.out
                        try simp only [List.setIfInBounds_toArray, List.set_cons_zero, List.set_cons_succ]
                        obtain ⟨z0, z1, z2, z3, z4⟩ := tb_cells W_tu
                        intro K hK
                        rw [if_pos (by rfl)]
                        go_simp
                        exact hK.out _ _ ⟨true, b1, b2, b3, (.agg #[.string (bsOf NM), .slice co2 N cc2, .int .i64 (KI : Nat), .bool only, .slice ro2 rn2 rc2]), x110, (by simp only [Act.put, List.setIfInBounds_toArray, List.set_cons_zero, List.set_cons_succ]), (by simp only [Act.put, List.setIfInBounds_toArray, List.set_cons_zero, List.set_cons_succ]), hb, (fun _ => rfl), cd1, f_xs, f_ig, f_c, f_r, f_rx, f_vk, f_tu, f_ty, f_ht, f_hx, f_st, f_sx⟩
                      · rintro L a w ⟨b0, b1, b2, b3, x109, x110, rfl, rfl, hb, cd0, cd1, f_xs, f_ig, f_c, f_r, f_rx, f_vk, f_tu, f_ty, f_ht, f_hx, f_st, f_sx⟩ hf hd
                        have hf' : b1 = false := hf
                        subst hf'
                        clear hf hd
                        have W_xs := f_xs.out
                        have W_ig := f_ig.out
                        have W_c := f_c.out
                        have W_r := f_r.out
                        have W_rx := f_rx.out
                        have W_vk := f_vk.out
                        have W_tu := f_tu.out
                        have W_ty := f_ty.out
                        try simp only [List.setIfInBounds_toArray, List.set_cons_zero, List.set_cons_succ]
                        obtain ⟨z0, z1, z2, z3, z4⟩ := tb_cells W_ty
                        intro K hK
                        rw [if_pos (by rfl)]
                        go_simp
                        exact hK.out _ _ ⟨b0, true, b2, b3, x109, (.agg #[.string (bsOf NM), .slice (some ⟨g, 0, none⟩) N cg, .int .i64 (KI : Nat), .bool only, .slice xo2 xn2 xc2]), (by simp only [Act.put, List.setIfInBounds_toArray, List.set_cons_zero, List.set_cons_succ]), (by simp only [Act.put, List.setIfInBounds_toArray, List.set_cons_zero, List.set_cons_succ]), hb, cd0, (fun _ => rfl), f_xs, f_ig, f_c, f_r, f_rx, f_vk, f_tu, f_ty, f_ht, f_hx, f_st, f_sx⟩
                      · rintro L a w ⟨b0, b1, b2, b3, x109, x110, rfl, rfl, hb, cd0, cd1, f_xs, f_ig, f_c, f_r, f_rx, f_vk, f_tu, f_ty, f_ht, f_hx, f_st, f_sx⟩ hf hd
                        have hf' : b2 = false := hf
                        subst hf'
                        have d0 : b0 = true := hd ⟨0, .data⟩ (by simp) rfl
                        subst d0
                        obtain rfl := cd0.out rfl
                        clear hf hd
                        have W_xs := f_xs.out
                        have W_ig := f_ig.out
                        have W_c := f_c.out
                        have W_r := f_r.out
                        have W_rx := f_rx.out
                        have W_vk := f_vk.out
                        have W_tu := f_tu.out
                        have W_ty := f_ty.out
                        have W_ht := f_ht.out rfl
                        try simp only [List.setIfInBounds_toArray, List.set_cons_zero, List.set_cons_succ]
                        intro K hK
                        rw [if_pos (by rfl)]
                        refine wp_store_blkT 47 _ _ rfl gt (tbC NM co N cc (KI : Nat) only ro rn rc) (tbC NM co2 N cc2 (KI : Nat) only ro2 rn2 rc2) rfl rfl _ (Lib.hid W_ht) 5 szTb (tbC_size ..) (tbC_size ..) (tbC_all ..) fun w2 h8 g8 => ?_
                        have hb2 := hb.grown g8 (Nat.le_trans hB0 hb.size) (fun z hz => by cases hz; exact hBt)
                        exact hK.out _ _ ⟨true, b1, true, b3, .agg #[.string (bsOf NM), .slice co2 N cc2, .int .i64 (KI : Nat), .bool only, .slice ro2 rn2 rc2], x110, (by simp only [Act.put, List.setIfInBounds_toArray, List.set_cons_zero, List.set_cons_succ]), (by simp only [Act.put, List.setIfInBounds_toArray, List.set_cons_zero, List.set_cons_succ]), hb2, (fun _ => rfl), cd1, ((f_xs.out).grown g8 (fun e => hs1 (Option.some.inj e))), ((f_ig.out).grown g8 (fun a ha e => by cases ha; exact hg1 (Option.some.inj e))), ((f_c.out).grown g8 (fun a ha e => (hn2 a ha).1 (Option.some.inj e))), ((f_r.out).grown g8 hgtS), ((f_rx.out).grown g8 hgtS), ((f_vk.out).grown g8 (fun e => hk1 (Option.some.inj e))), ((f_tu.out).grown g8 (fun e => hu1 (Option.some.inj e))), ((f_ty.out).grown g8 (fun e => hy1 (Option.some.inj e))), (fun h => by cases h), (fun h1 => ((f_hx.out h1)).grown g8 (fun e => hgtx (Option.some.inj e).symm)), (fun _ => h8.out), (fun h0 => ((f_sx.out h0)).grown g8 (fun e => hgtx (Option.some.inj e).symm))⟩
                      · rintro L a w ⟨b0, b1, b2, b3, x109, x110, rfl, rfl, hb, cd0, cd1, f_xs, f_ig, f_c, f_r, f_rx, f_vk, f_tu, f_ty, f_ht, f_hx, f_st, f_sx⟩ hf hd
                        have hf' : b3 = false := hf
                        subst hf'
                        have d1 : b1 = true := hd ⟨1, .data⟩ (by simp) rfl
                        subst d1
                        have d2 : b2 = true := hd ⟨2, .chain⟩ (by simp) rfl
                        subst d2
                        have d0 : b0 = true := hd ⟨0, .phase⟩ (by simp) rfl
                        subst d0
                        obtain rfl := cd1.out rfl
                        obtain rfl := cd0.out rfl
                        clear hf hd
                        have W_xs := f_xs.out
                        have W_ig := f_ig.out
                        have W_c := f_c.out
                        have W_r := f_r.out
                        have W_rx := f_rx.out
                        have W_vk := f_vk.out
                        have W_tu := f_tu.out
                        have W_ty := f_ty.out
                        have W_hx := f_hx.out rfl
                        have W_st := f_st.out rfl
                        try simp only [List.setIfInBounds_toArray, List.set_cons_zero, List.set_cons_succ]
                        intro K hK
                        rw [if_pos (by rfl)]
                        refine wp_store_blkT 48 _ _ rfl gx (tbC NM (some ⟨g, 0, none⟩) N cg (KI : Nat) only xo xn xc) (tbC NM (some ⟨g, 0, none⟩) N cg (KI : Nat) only xo2 xn2 xc2) rfl rfl _ (Lib.hid W_hx) 5 szRT (tbC_size ..) (tbC_size ..) (tbC_all ..) fun w2 h8 g8 => ?_
                        have hb2 := hb.grown g8 (Nat.le_trans hB0 hb.size) (fun z hz => by cases hz; exact hBx)
                        exact hK.out _ _ ⟨true, true, true, true, .agg #[.string (bsOf NM), .slice co2 N cc2, .int .i64 (KI : Nat), .bool only, .slice ro2 rn2 rc2], .agg #[.string (bsOf NM), .slice (some ⟨g, 0, none⟩) N cg, .int .i64 (KI : Nat), .bool only, .slice xo2 xn2 xc2], (by simp only [Act.put, List.setIfInBounds_toArray, List.set_cons_zero, List.set_cons_succ]), (by simp only [Act.put, List.setIfInBounds_toArray, List.set_cons_zero, List.set_cons_succ]), hb2, (fun _ => rfl), (fun _ => rfl), ((f_xs.out).grown g8 (fun e => hs2 (Option.some.inj e))), ((f_ig.out).grown g8 (fun a ha e => by cases ha; exact hg2 (Option.some.inj e))), ((f_c.out).grown g8 (fun a ha e => (hn2 a ha).2 (Option.some.inj e))), ((f_r.out).grown g8 hgxS), ((f_rx.out).grown g8 hgxS), ((f_vk.out).grown g8 (fun e => hk2 (Option.some.inj e))), ((f_tu.out).grown g8 (fun e => hu2 (Option.some.inj e))), ((f_ty.out).grown g8 (fun e => hy2 (Option.some.inj e))), (fun h => by cases h), (fun h => by cases h), (fun h0 => ((f_st.out h0)).grown g8 (fun e => hgtx (Option.some.inj e))), (fun _ => h8.out)⟩
                    · rintro act V20 ⟨b0, b1, b2, b3, x109, x110, hL, rfl, hb, cd0, cd1, f_xs, f_ig, f_c, f_r, f_rx, f_vk, f_tu, f_ty, f_ht, f_hx, f_st, f_sx⟩
                      have hL' : [true, true, true, true] = [b0, b1, b2, b3] := congrArg Array.toList hL
                      simp only [List.cons.injEq, and_true] at hL'
                      obtain ⟨rfl, rfl, rfl, rfl⟩ := hL'
                      obtain rfl := cd0.out rfl
                      obtain rfl := cd1.out rfl
                      have W_xs := f_xs.out
                      have W_ig := f_ig.out
                      have W_c := f_c.out
                      have W_r := f_r.out
                      have W_rx := f_rx.out
                      have W_vk := f_vk.out
                      have W_tu := f_tu.out
                      have W_ty := f_ty.out
                      have W_st := f_st.out rfl
                      have W_sx := f_sx.out rfl
                      clear hL f_xs f_ig f_c f_r f_rx f_vk f_tu f_ty f_ht f_hx f_st f_sx cd0 cd1
                      simp only [List.setIfInBounds_toArray, List.set_cons_zero, List.set_cons_succ]
                      have BV := B.trans ((Below.refl _ _).drew.trans hb)
                      have hSV := Nat.le_trans hSU hb.size
                      have D2 : Tw V20 gs gt gx S NM g N cg KI only F co2 cc2 ro2 rn2 rc2 xo2 xn2 xc2 rs2 := ⟨W_xs, W_ig, W_st, W_c, hn2, W_r, W_sx, W_rx⟩
                      have VK := W_vk
                      clear hb W_tu W_ty
                      go_wp2_with fail
                      go_meet
                      exact ⟨rs2, ⟨_, _, _, _, _, _, _, _, D2⟩, hok2.out, hln2.out, VK, hSV, BV⟩
                · skip
                  have h4i : ¬ ((KK : Int) < 4) := h4
                  clear h4
                  obtain ⟨E, hE⟩ : ∃ z_, takeE KI ⟨kk, km, ks⟩ rs = z_ := ⟨_, rfl⟩
                  obtain ⟨rs2, hrs2⟩ : ∃ z_, takeR KI ⟨kk, km, ks⟩ rs = z_ := ⟨_, rfl⟩
                  obtain ⟨PR, hPR⟩ : ∃ z_, gotR KI ⟨kk, km, ks⟩ rs = z_ := ⟨_, rfl⟩
                  have hok2 : Hid (RowsOk F KI rs2) := Lib.hid (by rw [← hrs2]; exact hok.out.takeR _)
                  have hln2 : Hid (rs2.length ≤ i + 1) := Lib.hid (by rw [← hrs2]; have := takeR_len KI ⟨kk, km, ks⟩ rs; have := hln.out; omega)
                  have HT := take_w Y2 NM co N cc KI only ro rn rc F (by omega) (by omega) 0 rs DD.isT ⟨kk, km, ks⟩ hok.out.srt (by omega) (fun r hr => by rw [hok.out.len r hr]; omega)
                  have HRt := fun (w' : World) (b : Below Y2.heap.size Y2 w') => rtake_w w' NM (some ⟨g, 0, none⟩) N cg KI only xo xn xc S (Nat.le_trans hS2 b.size) rs (DD.rX.past b) ⟨kk, km, ks⟩ hvk (hok.out.key (by omega)) (by omega) (fun r hr => by rw [hok.out.len r hr]; omega)
                  simp only [hE, hrs2, hPR] at HT HRt
                  unfold tbV at HT HRt
                  clear hE hrs2 hPR
                  obtain ⟨t0, t1, t2, t3, t4⟩ := tb_cells DD.hT
                  obtain ⟨k0_, k1_, k2_⟩ := vC_c VK
                  go_upto_region 21 with fail
                  clear a0_ HWk
                  go_upto_region 22 with (go_at_call 23; refine HT.mono ?_; rintro e w8 ⟨co2, cc2, ro2, rn2, rc2, pa, pn, pc, rfl, iT2, iP, b8⟩; unfold tbV)
                  have bA := b8.alloc b8.size (.cells #[.string (bsOf NM), .slice co2 N cc2, .int .i64 (KI : Nat), .bool only, .slice ro2 rn2 rc2] 47)
                  have bA1 := (Below.refl w8.heap.size w8).alloc (Nat.le_refl _) (.cells #[.string (bsOf NM), .slice co2 N cc2, .int .i64 (KI : Nat), .bool only, .slice ro2 rn2 rc2] 47)
                  have TU : Bk (w8.alloc (.cells #[.string (bsOf NM), .slice co2 N cc2, .int .i64 (KI : Nat), .bool only, .slice ro2 rn2 rc2] 47)) w8.heap.size (tbC NM co2 N cc2 (KI : Nat) only ro2 rn2 rc2) 47 := Bk.new w8 _ _
                  have iT2 := iT2.past bA1
                  have iP := iP.past bA1
                  have DD := DD.past bA
                  have VK := VK.past bA
                  have B := B.trans (bA.mono hp2)
                  have hS3 := Nat.le_trans hS2 bA.size
                  have hp3 := Nat.le_trans hp2 bA.size
                  have hgu0 : S ≤ w8.heap.size := Nat.le_trans hS2 b8.size
                  have HR := HRt _ bA
                  clear t0 t1 t2 t3 t4 k0_ k1_ k2_ HT HRt b8 bA bA1
                  generalize w8.alloc (.cells #[.string (bsOf NM), .slice co2 N cc2, .int .i64 (KI : Nat), .bool only, .slice ro2 rn2 rc2] 47) = Y3 at TU iT2 iP DD VK B hS3 hp3 HR ⊢
                  obtain ⟨gu, hgu⟩ : ∃ z_, w8.heap.size = z_ := ⟨_, rfl⟩
                  rw [hgu] at TU hgu0
                  simp only [hgu]
                  clear hgu
                  obtain ⟨x0_, x1_, x2_, x3_, x4_⟩ := tb_cells DD.hX
                  obtain ⟨k0_, k1_, k2_⟩ := vC_c VK
                  go_upto_region 23 with (go_at_call 24; refine HR.mono ?_; rintro e w9 ⟨xo2, xn2, xc2, qa, qn, qc, rfl, rX, iQ, b9⟩; unfold tbV)
                  have bA := b9.alloc b9.size (.cells #[.string (bsOf NM), .slice (some ⟨g, 0, none⟩) N cg, .int .i64 (KI : Nat), .bool only, .slice xo2 xn2 xc2] 48)
                  have bA1 := (Below.refl w9.heap.size w9).alloc (Nat.le_refl _) (.cells #[.string (bsOf NM), .slice (some ⟨g, 0, none⟩) N cg, .int .i64 (KI : Nat), .bool only, .slice xo2 xn2 xc2] 48)
                  have TY : Bk (w9.alloc (.cells #[.string (bsOf NM), .slice (some ⟨g, 0, none⟩) N cg, .int .i64 (KI : Nat), .bool only, .slice xo2 xn2 xc2] 48)) w9.heap.size (tbC NM (some ⟨g, 0, none⟩) N cg (KI : Nat) only xo2 xn2 xc2) 48 := Bk.new w9 _ _
                  have rX := rX.past bA1
                  have iQ := iQ.past bA1
                  have iP := iP.past bA
                  have iT2 := iT2.past bA
                  have TU := TU.past bA
                  have DD := DD.past bA
                  have VK := VK.past bA
                  have B := B.trans (bA.mono hp3)
                  have hS4 := Nat.le_trans hS3 bA.size
                  have hp4 := Nat.le_trans hp3 bA.size
                  have hgy0 : S ≤ w9.heap.size := Nat.le_trans hS3 b9.size
                  clear x0_ x1_ x2_ x3_ x4_ k0_ k1_ k2_ HR b9 bA bA1 hS3 hp3
                  generalize w9.alloc (.cells #[.string (bsOf NM), .slice (some ⟨g, 0, none⟩) N cg, .int .i64 (KI : Nat), .bool only, .slice xo2 xn2 xc2] 48) = Y4 at TY rX iQ iP iT2 TU DD VK B hS4 hp4 ⊢
                  obtain ⟨gy, hgy⟩ : ∃ z_, w9.heap.size = z_ := ⟨_, rfl⟩
                  rw [hgy] at TY hgy0
                  simp only [hgy]
                  clear hgy
                  have en : (E != E) = false := by simp
                  have HS := rsame5_rfl Y4 pa pn pc qa qn qc PR iP iQ
                  go_upto_region 25 with (go_at_call 25; refine HS.mono ?_; rintro e U ⟨rfl, b5⟩)
                  have DD := DD.past b5
                  have VK := VK.past b5
                  have iT2 := iT2.past b5
                  have TU := TU.past b5
                  have TY := TY.past b5
                  have rX := rX.past b5
                  have B := B.trans (b5.mono hp4)
                  have hSU := Nat.le_trans hS4 b5.size
                  clear HS en b5 iP iQ
                  have hn2 : ∀ a, co2 = some a → a.block ≠ gt ∧ a.block ≠ gx := fun a ha => by have := iT2.frm a ha; exact ⟨by omega, by omega⟩
                  have cT := iT2.cols
                  have rT := iT2.rows.mono hS2
                  have hk1 : gk ≠ gt := by omega
                  have hk2 : gk ≠ gx := by omega
                  have hu1 : gu ≠ gt := by omega
                  have hu2 : gu ≠ gx := by omega
                  have hy1 : gy ≠ gt := by omega
                  have hy2 : gy ≠ gx := by omega
                  clear iT2
                  have XS := DD.XS
                  have iG := DD.iG
                  have hT := DD.hT
                  have hX := DD.hX
                  have hs1 : gs ≠ gt := by omega
                  have hs2 : gs ≠ gx := by omega
                  have hg1 : g ≠ gt := by omega
                  have hg2 : g ≠ gx := by omega
                  have hBt : p0 ≤ gt := by omega
                  have hBx : p0 ≤ gx := by omega
                  have hB0 : p0 ≤ U.heap.size := Nat.le_trans hpS hSU
                  clear DD
                  refine region_inv (TPl25 p0 S gs gt gx gk gu gy NM g N cg KI only co cc ro rn rc xo xn xc co2 cc2 ro2 rn2 rc2 xo2 xn2 xc2 F rs2 kk km ks) (by kernel_rfl) (by kernel_rfl) ?_ ?_ ?_
                  · exact ⟨false, false, false, false, u134, u135, rfl, (by simp only [Act.put, List.setIfInBounds_toArray, List.set_cons_zero, List.set_cons_succ]), Below.refl _ _, (fun h => by cases h), (fun h => by cases h), (XS.past (Below.refl _ _).drew), (iG.past (Below.refl _ _).drew), (cT.past (Below.refl _ _).drew), (rT.past (Below.refl _ _).drew), (rX.past (Below.refl _ _).drew), (VK.past (Below.refl _ _).drew), (TU.past (Below.refl _ _).drew), (TY.past (Below.refl _ _).drew), (fun h1 => hT.past (Below.refl _ _).drew), (fun h1 => hX.past (Below.refl _ _).drew), (fun h => by cases h), (fun h => by cases h)⟩
                  · refine ⟨?_, ?_, ?_, ?_, trivial⟩
                    · rintro L a w ⟨b0, b1, b2, b3, x134, x135, rfl, rfl, hb, cd0, cd1, f_xs, f_ig, f_c, f_r, f_rx, f_vk, f_tu, f_ty, f_ht, f_hx, f_st, f_sx⟩ hf hd
                      have hf' : b0 = false := hf
                      subst hf'
                      clear hf hd
                      have W_xs := f_xs.out
                      have W_ig := f_ig.out
                      have W_c := f_c.out
                      have W_r := f_r.out
                      have W_rx := f_rx.out
                      have W_vk := f_vk.out
                      have W_tu := f_tu.out
                      have W_ty := f_ty.out
                      try simp only [List.setIfInBounds_toArray, List.set_cons_zero, List.set_cons_succ]
                      obtain ⟨z0, z1, z2, z3, z4⟩ := tb_cells W_tu
                      intro K hK
                      rw [if_pos (by rfl)]
                      go_simp
                      exact hK.out _ _ ⟨true, b1, b2, b3, (.agg #[.string (bsOf NM), .slice co2 N cc2, .int .i64 (KI : Nat), .bool only, .slice ro2 rn2 rc2]), x135, (by simp only [Act.put, List.setIfInBounds_toArray, List.set_cons_zero, List.set_cons_succ]), (by simp only [Act.put, List.setIfInBounds_toArray, List.set_cons_zero, List.set_cons_succ]), hb, (fun _ => rfl), cd1, f_xs, f_ig, f_c, f_r, f_rx, f_vk, f_tu, f_ty, f_ht, f_hx, f_st, f_sx⟩
                    · rintro L a w ⟨b0, b1, b2, b3, x134, x135, rfl, rfl, hb, cd0, cd1, f_xs, f_ig, f_c, f_r, f_rx, f_vk, f_tu, f_ty, f_ht, f_hx, f_st, f_sx⟩ hf hd
                      have hf' : b1 = false := hf
                      subst hf'
                      clear hf hd
                      have W_xs := f_xs.out
                      have W_ig := f_ig.out
                      have W_c := f_c.out
                      have W_r := f_r.out
                      have W_rx := f_rx.out
                      have W_vk := f_vk.out
                      have W_tu := f_tu.out
                      have W_ty := f_ty.out
                      try simp only [List.setIfInBounds_toArray, List.set_cons_zero, List.set_cons_succ]
                      obtain ⟨z0, z1, z2, z3, z4⟩ := tb_cells W_ty
                      intro K hK
                      rw [if_pos (by rfl)]
                      go_simp
                      exact hK.out _ _ ⟨b0, true, b2, b3, x134, (.agg #[.string (bsOf NM), .slice (some ⟨g, 0, none⟩) N cg, .int .i64 (KI : Nat), .bool only, .slice xo2 xn2 xc2]), (by simp only [Act.put, List.setIfInBounds_toArray, List.set_cons_zero, List.set_cons_succ]), (by simp only [Act.put, List.setIfInBounds_toArray, List.set_cons_zero, List.set_cons_succ]), hb, cd0, (fun _ => rfl), f_xs, f_ig, f_c, f_r, f_rx, f_vk, f_tu, f_ty, f_ht, f_hx, f_st, f_sx⟩
                    · rintro L a w ⟨b0, b1, b2, b3, x134, x135, rfl, rfl, hb, cd0, cd1, f_xs, f_ig, f_c, f_r, f_rx, f_vk, f_tu, f_ty, f_ht, f_hx, f_st, f_sx⟩ hf hd
                      have hf' : b2 = false := hf
                      subst hf'
                      have d0 : b0 = true := hd ⟨0, .data⟩ (by simp) rfl
                      subst d0
                      obtain rfl := cd0.out rfl
                      clear hf hd
                      have W_xs := f_xs.out
                      have W_ig := f_ig.out
                      have W_c := f_c.out
                      have W_r := f_r.out
                      have W_rx := f_rx.out
                      have W_vk := f_vk.out
                      have W_tu := f_tu.out
                      have W_ty := f_ty.out
                      have W_ht := f_ht.out rfl
                      try simp only [List.setIfInBounds_toArray, List.set_cons_zero, List.set_cons_succ]
                      intro K hK
                      rw [if_pos (by rfl)]
                      refine wp_store_blkT 47 _ _ rfl gt (tbC NM co N cc (KI : Nat) only ro rn rc) (tbC NM co2 N cc2 (KI : Nat) only ro2 rn2 rc2) rfl rfl _ (Lib.hid W_ht) 5 szTb (tbC_size ..) (tbC_size ..) (tbC_all ..) fun w2 h8 g8 => ?_
                      have hb2 := hb.grown g8 (Nat.le_trans hB0 hb.size) (fun z hz => by cases hz; exact hBt)
                      exact hK.out _ _ ⟨true, b1, true, b3, .agg #[.string (bsOf NM), .slice co2 N cc2, .int .i64 (KI : Nat), .bool only, .slice ro2 rn2 rc2], x135, (by simp only [Act.put, List.setIfInBounds_toArray, List.set_cons_zero, List.set_cons_succ]), (by simp only [Act.put, List.setIfInBounds_toArray, List.set_cons_zero, List.set_cons_succ]), hb2, (fun _ => rfl), cd1, ((f_xs.out).grown g8 (fun e => hs1 (Option.some.inj e))), ((f_ig.out).grown g8 (fun a ha e => by cases ha; exact hg1 (Option.some.inj e))), ((f_c.out).grown g8 (fun a ha e => (hn2 a ha).1 (Option.some.inj e))), ((f_r.out).grown g8 hgtS), ((f_rx.out).grown g8 hgtS), ((f_vk.out).grown g8 (fun e => hk1 (Option.some.inj e))), ((f_tu.out).grown g8 (fun e => hu1 (Option.some.inj e))), ((f_ty.out).grown g8 (fun e => hy1 (Option.some.inj e))), (fun h => by cases h), (fun h1 => ((f_hx.out h1)).grown g8 (fun e => hgtx (Option.some.inj e).symm)), (fun _ => h8.out), (fun h0 => ((f_sx.out h0)).grown g8 (fun e => hgtx (Option.some.inj e).symm))⟩
                    · rintro L a w ⟨b0, b1, b2, b3, x134, x135, rfl, rfl, hb, cd0, cd1, f_xs, f_ig, f_c, f_r, f_rx, f_vk, f_tu, f_ty, f_ht, f_hx, f_st, f_sx⟩ hf hd
                      have hf' : b3 = false := hf
                      subst hf'
                      have d1 : b1 = true := hd ⟨1, .data⟩ (by simp) rfl
                      subst d1
                      have d2 : b2 = true := hd ⟨2, .chain⟩ (by simp) rfl
                      subst d2
                      have d0 : b0 = true := hd ⟨0, .phase⟩ (by simp) rfl
                      subst d0
                      obtain rfl := cd1.out rfl
                      obtain rfl := cd0.out rfl
                      clear hf hd
                      have W_xs := f_xs.out
                      have W_ig := f_ig.out
                      have W_c := f_c.out
                      have W_r := f_r.out
                      have W_rx := f_rx.out
                      have W_vk := f_vk.out
                      have W_tu := f_tu.out
                      have W_ty := f_ty.out
                      have W_hx := f_hx.out rfl
                      have W_st := f_st.out rfl
                      try simp only [List.setIfInBounds_toArray, List.set_cons_zero, List.set_cons_succ]
                      intro K hK
                      rw [if_pos (by rfl)]
                      refine wp_store_blkT 48 _ _ rfl gx (tbC NM (some ⟨g, 0, none⟩) N cg (KI : Nat) only xo xn xc) (tbC NM (some ⟨g, 0, none⟩) N cg (KI : Nat) only xo2 xn2 xc2) rfl rfl _ (Lib.hid W_hx) 5 szRT (tbC_size ..) (tbC_size ..) (tbC_all ..) fun w2 h8 g8 => ?_
                      have hb2 := hb.grown g8 (Nat.le_trans hB0 hb.size) (fun z hz => by cases hz; exact hBx)
                      exact hK.out _ _ ⟨true, true, true, true, .agg #[.string (bsOf NM), .slice co2 N cc2, .int .i64 (KI : Nat), .bool only, .slice ro2 rn2 rc2], .agg #[.string (bsOf NM), .slice (some ⟨g, 0, none⟩) N cg, .int .i64 (KI : Nat), .bool only, .slice xo2 xn2 xc2], (by simp only [Act.put, List.setIfInBounds_toArray, List.set_cons_zero, List.set_cons_succ]), (by simp only [Act.put, List.setIfInBounds_toArray, List.set_cons_zero, List.set_cons_succ]), hb2, (fun _ => rfl), (fun _ => rfl), ((f_xs.out).grown g8 (fun e => hs2 (Option.some.inj e))), ((f_ig.out).grown g8 (fun a ha e => by cases ha; exact hg2 (Option.some.inj e))), ((f_c.out).grown g8 (fun a ha e => (hn2 a ha).2 (Option.some.inj e))), ((f_r.out).grown g8 hgxS), ((f_rx.out).grown g8 hgxS), ((f_vk.out).grown g8 (fun e => hk2 (Option.some.inj e))), ((f_tu.out).grown g8 (fun e => hu2 (Option.some.inj e))), ((f_ty.out).grown g8 (fun e => hy2 (Option.some.inj e))), (fun h => by cases h), (fun h => by cases h), (fun h0 => ((f_st.out h0)).grown g8 (fun e => hgtx (Option.some.inj e))), (fun _ => h8.out)⟩
                  · rintro act V20 ⟨b0, b1, b2, b3, x134, x135, hL, rfl, hb, cd0, cd1, f_xs, f_ig, f_c, f_r, f_rx, f_vk, f_tu, f_ty, f_ht, f_hx, f_st, f_sx⟩
                    have hL' : [true, true, true, true] = [b0, b1, b2, b3] := congrArg Array.toList hL
                    simp only [List.cons.injEq, and_true] at hL'
                    obtain ⟨rfl, rfl, rfl, rfl⟩ := hL'
                    obtain rfl := cd0.out rfl
                    obtain rfl := cd1.out rfl
                    have W_xs := f_xs.out
                    have W_ig := f_ig.out
                    have W_c := f_c.out
                    have W_r := f_r.out
                    have W_rx := f_rx.out
                    have W_vk := f_vk.out
                    have W_tu := f_tu.out
                    have W_ty := f_ty.out
                    have W_st := f_st.out rfl
                    have W_sx := f_sx.out rfl
                    clear hL f_xs f_ig f_c f_r f_rx f_vk f_tu f_ty f_ht f_hx f_st f_sx cd0 cd1
                    simp only [List.setIfInBounds_toArray, List.set_cons_zero, List.set_cons_succ]
                    have BV := B.trans ((Below.refl _ _).drew.trans hb)
                    have hSV := Nat.le_trans hSU hb.size
                    have D2 : Tw V20 gs gt gx S NM g N cg KI only F co2 cc2 ro2 rn2 rc2 xo2 xn2 xc2 rs2 := ⟨W_xs, W_ig, W_st, W_c, hn2, W_r, W_sx, W_rx⟩
                    have VK := W_vk
                    clear hb W_tu W_ty
                    go_wp2_with fail
                    go_meet
                    exact ⟨rs2, ⟨_, _, _, _, _, _, _, _, D2⟩, hok2.out, hln2.out, VK, hSV, BV⟩
              case rest =>
                obtain ⟨rs2, D0, hok2_, hln2_, VK, hSc, BB⟩ := hcut
                obtain ⟨co, cc, ro, rn, rc, xo, xn, xc, DD⟩ := D0
                have hok2 := Lib.hid hok2_
                have hln2 := Lib.hid hln2_
                have hlr := DD.rT.len
                have hlx := DD.rX.len
                obtain rfl : rn = xn := by omega
                have hrn4 : rn ≤ 100 := by omega
                have hLs : ∀ r ∈ rs2, r.length = N := fun r hr => by rw [hok2_.len r hr, hFl]
                obtain ⟨PR, hPR⟩ : ∃ z_, gotR KI ⟨kk, km, ks⟩ rs2 = z_ := ⟨_, rfl⟩
                obtain ⟨tk, htk⟩ : ∃ z_, hasN KI ⟨kk, km, ks⟩ rs2 = z_ := ⟨_, rfl⟩
                have HG := get_w wc NM co N cc KI only ro rn rc F 0 rs2 DD.isT ⟨kk, km, ks⟩ hok2_.srt (by omega) (fun r hr => by rw [hLs r hr]; omega)
                have HGr := fun (w' : World) (b : Below wc.heap.size wc w') => rget_w w' NM (some ⟨g, 0, none⟩) N cg KI only xo rn xc S rs2 (DD.rX.past b) ⟨kk, km, ks⟩ hvk (hok2_.key (by omega)) (by omega) (fun r hr => by rw [hLs r hr]; omega)
                simp only [hPR, htk] at HG HGr
                unfold tbV at HG HGr
                clear hPR htk hok2_ hln2_ hLs
                obtain ⟨t0, t1, t2, t3, t4⟩ := tb_cells DD.hT
                obtain ⟨k0_, k1_, k2_⟩ := vC_c VK
                have hgtc := DD.hT.lt
                have hgxc := DD.hX.lt
                have hgkc := VK.lt
                have hpc := Nat.le_trans hpS hSc
                go_upto_region 27 with (go_at_call 26; refine HG.mono ?_; rintro e w1 ⟨pa, pn, pc, rfl, iP, b1⟩)
                clear t0 t1 t2 t3 t4 HG
                obtain ⟨x0_, x1_, x2_, x3_, x4_⟩ := tb_cells (DD.hX.past b1)
                have k0_ := (b1.cell hgkc).trans k0_
                have k1_ := (b1.cell hgkc).trans k1_
                have k2_ := (b1.cell hgkc).trans k2_
                go_upto_region 28 with (go_at_call 27; refine (HGr _ b1).mono ?_; rintro e Y ⟨qa, qn, qc, rfl, iQ, b2⟩)
                have b12 := b1.trans (b2.mono b1.size)
                have iP := iP.past b2
                have DY := DD.past b12
                have hSY := Nat.le_trans hSc b12.size
                have hpY := Nat.le_trans hpc b12.size
                have BB := BB.trans (b12.mono hpc)
                clear x0_ x1_ x2_ x3_ x4_ k0_ k1_ k2_ HGr b1 b2 b12 VK DD hgtc hgxc hgkc hSc hpc
                obtain ⟨t0, t1, t2, t3, t4⟩ := tb_cells DY.hT
                obtain ⟨x0_, x1_, x2_, x3_, x4_⟩ := tb_cells DY.hX
                have hgtB := DY.hT.lt
                have hgxB := DY.hX.lt
                have hB0 : Y.heap.size ≤ Y.heap.size := Nat.le_refl _
                have HTK := Lib.hid (show (tk != tk) = false by simp)
                have HOf := fun (w' : World) => of_any w' NM (some ⟨g, 0, none⟩) N cg KI only xo rn xc
                have HTo := fun (w' : World) => toref10_any w' NM co N cc KI only ro rn rc
                have DYd := DY.past (Below.refl _ _).drew
                have HS1 := fun (w' : World) (hb : Below Y.heap.size Y.drew w') => tsame_rfl w' NM F N (KI : Nat) only 0 0 co cc ro rn rc rs2 (some ⟨g, 0, none⟩) cg xo rn xc (DYd.isT.past hb) (DYd.isX.past hb) (by omega)
                have HS2 := fun (w' : World) (hb : Below Y.heap.size Y.drew w') => rsame10_any w' NM co N cc KI only F (some ⟨g, 0, none⟩) cg (DYd.cT.past hb) (DYd.iG.past hb) S S ro rn rc xo xc rs2 (DYd.rT.past hb) (DYd.rX.past hb) (by omega)
                have HS3 := fun (w' : World) (hb : Below Y.heap.size Y.drew w') => rsame5_rfl w' pa pn pc qa qn qc PR ((iP.past (Below.refl _ _).drew).past hb) ((iQ.past (Below.refl _ _).drew).past hb)
                unfold tbV at HOf HTo HS1 HS2
                clear DYd iP iQ hlr hlx
                refine region_inv (TPl28 Y.heap.size gt gx NM g N cg KI only co cc ro rn rc xo rn xc pa pn pc qa qn qc tk) (by kernel_rfl) (by kernel_rfl) ?_ ?_ ?_
                · exact ⟨false, false, false, false, false, false, false, false, false, false, false, false, false, false, false, false, false, false, false, false, false, false, false, u148, u149, u150, u151, u152, u153, u154, u155, u156, u157, u158, u159, u160, u161, u162, u163, u164, u165, u166, u167, u168, u169, u170, rfl, (by simp only [Act.put, List.setIfInBounds_toArray, List.set_cons_zero, List.set_cons_succ]), Below.refl _ _, (fun h => by cases h), (fun h => by cases h), (fun h => by cases h), (fun h => by cases h), (fun h => by cases h), (fun h => by cases h), (fun h => by cases h), (fun h => by cases h), (fun h => by cases h), (fun h => by cases h), (fun h => by cases h), (fun h => by cases h), (fun h => by cases h), (fun h => by cases h), (fun h => by cases h), (fun h => by cases h), (fun h => by cases h), (fun h => by cases h), (fun h => by cases h), (fun h => by cases h), (fun h => by cases h), (fun h => by cases h), (fun h => by cases h)⟩
                · refine ⟨?_, ?_, ?_, ?_, ?_, ?_, ?_, ?_, ?_, ?_, ?_, ?_, ?_, ?_, ?_, ?_, ?_, ?_, ?_, ?_, ?_, ?_, ?_, trivial⟩
                  · rintro L a w ⟨b0, b1, b2, b3, b4, b5, b6, b7, b8, b9, b10, b11, b12, b13, b14, b15, b16, b17, b18, b19, b20, b21, b22, x148, x149, x150, x151, x152, x153, x154, x155, x156, x157, x158, x159, x160, x161, x162, x163, x164, x165, x166, x167, x168, x169, x170, rfl, rfl, hb, cd0, cd1, cd2, cd3, cd4, cd5, cd6, cd7, cd8, cd9, cd10, cd11, cd12, cd13, cd14, cd15, cd16, cd17, cd18, cd19, cd20, cd21, cd22⟩ hf hd
                    have hf' : b0 = false := hf
                    subst hf'
                    clear hf hd
                    try simp only [List.setIfInBounds_toArray, List.set_cons_zero, List.set_cons_succ]
                    have z0 := (hb.cell hgtB).trans t0
                    have z1 := (hb.cell hgtB).trans t1
                    have z2 := (hb.cell hgtB).trans t2
                    have z3 := (hb.cell hgtB).trans t3
                    have z4 := (hb.cell hgtB).trans t4
                    intro K hK
                    rw [if_pos (by rfl)]
                    go_simp
                    exact hK.out _ _ ⟨true, b1, b2, b3, b4, b5, b6, b7, b8, b9, b10, b11, b12, b13, b14, b15, b16, b17, b18, b19, b20, b21, b22, (.agg #[.string (bsOf NM), .slice co N cc, .int .i64 (KI : Nat), .bool only, .slice ro rn rc]), x149, x150, x151, x152, x153, x154, x155, x156, x157, x158, x159, x160, x161, x162, x163, x164, x165, x166, x167, x168, x169, x170, (by simp only [Act.put, List.setIfInBounds_toArray, List.set_cons_zero, List.set_cons_succ]), (by simp only [Act.put, List.setIfInBounds_toArray, List.set_cons_zero, List.set_cons_succ]), hb, (fun _ => rfl), cd1, cd2, cd3, cd4, cd5, cd6, cd7, cd8, cd9, cd10, cd11, cd12, cd13, cd14, cd15, cd16, cd17, cd18, cd19, cd20, cd21, cd22⟩
                  · rintro L a w ⟨b0, b1, b2, b3, b4, b5, b6, b7, b8, b9, b10, b11, b12, b13, b14, b15, b16, b17, b18, b19, b20, b21, b22, x148, x149, x150, x151, x152, x153, x154, x155, x156, x157, x158, x159, x160, x161, x162, x163, x164, x165, x166, x167, x168, x169, x170, rfl, rfl, hb, cd0, cd1, cd2, cd3, cd4, cd5, cd6, cd7, cd8, cd9, cd10, cd11, cd12, cd13, cd14, cd15, cd16, cd17, cd18, cd19, cd20, cd21, cd22⟩ hf hd
                    have hf' : b1 = false := hf
                    subst hf'
                    clear hf hd
                    try simp only [List.setIfInBounds_toArray, List.set_cons_zero, List.set_cons_succ]
                    have z0 := (hb.cell hgxB).trans x0_
                    have z1 := (hb.cell hgxB).trans x1_
                    have z2 := (hb.cell hgxB).trans x2_
                    have z3 := (hb.cell hgxB).trans x3_
                    have z4 := (hb.cell hgxB).trans x4_
                    intro K hK
                    rw [if_pos (by rfl)]
                    go_simp
                    exact hK.out _ _ ⟨b0, true, b2, b3, b4, b5, b6, b7, b8, b9, b10, b11, b12, b13, b14, b15, b16, b17, b18, b19, b20, b21, b22, x148, (.agg #[.string (bsOf NM), .slice (some ⟨g, 0, none⟩) N cg, .int .i64 (KI : Nat), .bool only, .slice xo rn xc]), x150, x151, x152, x153, x154, x155, x156, x157, x158, x159, x160, x161, x162, x163, x164, x165, x166, x167, x168, x169, x170, (by simp only [Act.put, List.setIfInBounds_toArray, List.set_cons_zero, List.set_cons_succ]), (by simp only [Act.put, List.setIfInBounds_toArray, List.set_cons_zero, List.set_cons_succ]), hb, cd0, (fun _ => rfl), cd2, cd3, cd4, cd5, cd6, cd7, cd8, cd9, cd10, cd11, cd12, cd13, cd14, cd15, cd16, cd17, cd18, cd19, cd20, cd21, cd22⟩
                  · rintro L a w ⟨b0, b1, b2, b3, b4, b5, b6, b7, b8, b9, b10, b11, b12, b13, b14, b15, b16, b17, b18, b19, b20, b21, b22, x148, x149, x150, x151, x152, x153, x154, x155, x156, x157, x158, x159, x160, x161, x162, x163, x164, x165, x166, x167, x168, x169, x170, rfl, rfl, hb, cd0, cd1, cd2, cd3, cd4, cd5, cd6, cd7, cd8, cd9, cd10, cd11, cd12, cd13, cd14, cd15, cd16, cd17, cd18, cd19, cd20, cd21, cd22⟩ hf hd
                    have hf' : b2 = false := hf
                    subst hf'
                    have d1 : b1 = true := hd ⟨1, .data⟩ (by simp) rfl
                    subst d1
                    obtain rfl := cd1.out rfl
                    clear hf hd
                    try simp only [List.setIfInBounds_toArray, List.set_cons_zero, List.set_cons_succ]
                    intro K hK
                    rw [if_pos (by rfl)]
                    go_simp
                    go_at_call 28
                    refine (HOf _).mono ?_
                    rintro e w' ⟨rfl, bx⟩
                    exact hK.out _ _ ⟨b0, true, true, b3, b4, b5, b6, b7, b8, b9, b10, b11, b12, b13, b14, b15, b16, b17, b18, b19, b20, b21, b22, x148, .agg #[.string (bsOf NM), .slice (some ⟨g, 0, none⟩) N cg, .int .i64 (KI : Nat), .bool only, .slice xo rn xc], (.agg #[.string (bsOf NM), .slice (some ⟨g, 0, none⟩) N cg, .int .i64 (KI : Nat), .bool only, .slice xo rn xc]), x151, x152, x153, x154, x155, x156, x157, x158, x159, x160, x161, x162, x163, x164, x165, x166, x167, x168, x169, x170, (by simp only [Act.put, List.setIfInBounds_toArray, List.set_cons_zero, List.set_cons_succ]), (by simp only [Act.put, List.setIfInBounds_toArray, List.set_cons_zero, List.set_cons_succ]), hb.trans (bx.mono (Nat.le_trans hB0 hb.size)), cd0, (fun _ => rfl), (fun _ => rfl), cd3, cd4, cd5, cd6, cd7, cd8, cd9, cd10, cd11, cd12, cd13, cd14, cd15, cd16, cd17, cd18, cd19, cd20, cd21, cd22⟩
                  · rintro L a w ⟨b0, b1, b2, b3, b4, b5, b6, b7, b8, b9, b10, b11, b12, b13, b14, b15, b16, b17, b18, b19, b20, b21, b22, x148, x149, x150, x151, x152, x153, x154, x155, x156, x157, x158, x159, x160, x161, x162, x163, x164, x165, x166, x167, x168, x169, x170, rfl, rfl, hb, cd0, cd1, cd2, cd3, cd4, cd5, cd6, cd7, cd8, cd9, cd10, cd11, cd12, cd13, cd14, cd15, cd16, cd17, cd18, cd19, cd20, cd21, cd22⟩ hf hd
                    have hf' : b3 = false := hf
                    subst hf'
                    have d0 : b0 = true := hd ⟨0, .data⟩ (by simp) rfl
                    subst d0
                    have d2 : b2 = true := hd ⟨2, .data⟩ (by simp) rfl
                    subst d2
                    obtain rfl := cd0.out rfl
                    obtain rfl := cd2.out rfl
                    clear hf hd
                    try simp only [List.setIfInBounds_toArray, List.set_cons_zero, List.set_cons_succ]
                    intro K hK
                    rw [if_pos (by rfl)]
                    go_simp
                    go_at_call 22
                    refine (HS1 _ hb).mono ?_
                    rintro e w' ⟨rfl, bx⟩
                    exact hK.out _ _ ⟨true, b1, true, true, b4, b5, b6, b7, b8, b9, b10, b11, b12, b13, b14, b15, b16, b17, b18, b19, b20, b21, b22, .agg #[.string (bsOf NM), .slice co N cc, .int .i64 (KI : Nat), .bool only, .slice ro rn rc], x149, .agg #[.string (bsOf NM), .slice (some ⟨g, 0, none⟩) N cg, .int .i64 (KI : Nat), .bool only, .slice xo rn xc], (.bool true), x152, x153, x154, x155, x156, x157, x158, x159, x160, x161, x162, x163, x164, x165, x166, x167, x168, x169, x170, (by simp only [Act.put, List.setIfInBounds_toArray, List.set_cons_zero, List.set_cons_succ]), (by simp only [Act.put, List.setIfInBounds_toArray, List.set_cons_zero, List.set_cons_succ]), hb.trans (bx.mono (Nat.le_trans hB0 hb.size)), (fun _ => rfl), cd1, (fun _ => rfl), (fun _ => rfl), cd4, cd5, cd6, cd7, cd8, cd9, cd10, cd11, cd12, cd13, cd14, cd15, cd16, cd17, cd18, cd19, cd20, cd21, cd22⟩
                  · rintro L a w ⟨b0, b1, b2, b3, b4, b5, b6, b7, b8, b9, b10, b11, b12, b13, b14, b15, b16, b17, b18, b19, b20, b21, b22, x148, x149, x150, x151, x152, x153, x154, x155, x156, x157, x158, x159, x160, x161, x162, x163, x164, x165, x166, x167, x168, x169, x170, rfl, rfl, hb, cd0, cd1, cd2, cd3, cd4, cd5, cd6, cd7, cd8, cd9, cd10, cd11, cd12, cd13, cd14, cd15, cd16, cd17, cd18, cd19, cd20, cd21, cd22⟩ hf hd
                    have hf' : b4 = false := hf
                    subst hf'
                    have d3 : b3 = true := hd ⟨3, .data⟩ (by simp) rfl
                    subst d3
                    obtain rfl := cd3.out rfl
                    clear hf hd
                    try simp only [List.setIfInBounds_toArray, List.set_cons_zero, List.set_cons_succ]
                    intro K hK
                    rw [if_pos (by rfl)]
                    go_simp
                    exact hK.out _ _ ⟨b0, b1, b2, true, true, b5, b6, b7, b8, b9, b10, b11, b12, b13, b14, b15, b16, b17, b18, b19, b20, b21, b22, x148, x149, x150, .bool true, (.bool false), x153, x154, x155, x156, x157, x158, x159, x160, x161, x162, x163, x164, x165, x166, x167, x168, x169, x170, (by simp only [Act.put, List.setIfInBounds_toArray, List.set_cons_zero, List.set_cons_succ]), (by simp only [Act.put, List.setIfInBounds_toArray, List.set_cons_zero, List.set_cons_succ]), hb, cd0, cd1, cd2, (fun _ => rfl), (fun _ => rfl), cd5, cd6, cd7, cd8, cd9, cd10, cd11, cd12, cd13, cd14, cd15, cd16, cd17, cd18, cd19, cd20, cd21, cd22⟩
                  · rintro L a w ⟨b0, b1, b2, b3, b4, b5, b6, b7, b8, b9, b10, b11, b12, b13, b14, b15, b16, b17, b18, b19, b20, b21, b22, x148, x149, x150, x151, x152, x153, x154, x155, x156, x157, x158, x159, x160, x161, x162, x163, x164, x165, x166, x167, x168, x169, x170, rfl, rfl, hb, cd0, cd1, cd2, cd3, cd4, cd5, cd6, cd7, cd8, cd9, cd10, cd11, cd12, cd13, cd14, cd15, cd16, cd17, cd18, cd19, cd20, cd21, cd22⟩ hf hd
                    have hf' : b5 = false := hf
                    subst hf'
                    have d4 : b4 = true := hd ⟨4, .data⟩ (by simp) rfl
                    subst d4
                    have d3 : b3 = true := hd ⟨3, .chain⟩ (by simp) rfl
                    subst d3
                    obtain rfl := cd4.out rfl
                    obtain rfl := cd3.out rfl
                    clear hf hd
                    try simp only [List.setIfInBounds_toArray, List.set_cons_zero, List.set_cons_succ]
                    intro K hK
                    rw [if_pos (by rfl)]
                    go_simp
                    exact hK.out _ _ ⟨b0, b1, b2, true, true, true, b6, b7, b8, b9, b10, b11, b12, b13, b14, b15, b16, b17, b18, b19, b20, b21, b22, x148, x149, x150, .bool true, .bool false, (.bool false), x154, x155, x156, x157, x158, x159, x160, x161, x162, x163, x164, x165, x166, x167, x168, x169, x170, (by simp only [Act.put, List.setIfInBounds_toArray, List.set_cons_zero, List.set_cons_succ]), (by simp only [Act.put, List.setIfInBounds_toArray, List.set_cons_zero, List.set_cons_succ]), hb, cd0, cd1, cd2, (fun _ => rfl), (fun _ => rfl), (fun _ => rfl), cd6, cd7, cd8, cd9, cd10, cd11, cd12, cd13, cd14, cd15, cd16, cd17, cd18, cd19, cd20, cd21, cd22⟩
                  · rintro L a w ⟨b0, b1, b2, b3, b4, b5, b6, b7, b8, b9, b10, b11, b12, b13, b14, b15, b16, b17, b18, b19, b20, b21, b22, x148, x149, x150, x151, x152, x153, x154, x155, x156, x157, x158, x159, x160, x161, x162, x163, x164, x165, x166, x167, x168, x169, x170, rfl, rfl, hb, cd0, cd1, cd2, cd3, cd4, cd5, cd6, cd7, cd8, cd9, cd10, cd11, cd12, cd13, cd14, cd15, cd16, cd17, cd18, cd19, cd20, cd21, cd22⟩ hf hd
                    have hf' : b6 = false := hf
                    subst hf'
                    have d5 : b5 = true := hd ⟨5, .guard⟩ (by simp) rfl
                    subst d5
                    obtain rfl := cd5.out rfl
                    clear hf hd
                    try simp only [List.setIfInBounds_toArray, List.set_cons_zero, List.set_cons_succ]
                    have z0 := (hb.cell hgtB).trans t0
                    have z1 := (hb.cell hgtB).trans t1
                    have z2 := (hb.cell hgtB).trans t2
                    have z3 := (hb.cell hgtB).trans t3
                    have z4 := (hb.cell hgtB).trans t4
                    intro K hK
                    rw [if_pos (by rfl)]
                    go_simp
                    exact hK.out _ _ ⟨b0, b1, b2, b3, b4, true, true, b7, b8, b9, b10, b11, b12, b13, b14, b15, b16, b17, b18, b19, b20, b21, b22, x148, x149, x150, x151, x152, .bool false, (.agg #[.string (bsOf NM), .slice co N cc, .int .i64 (KI : Nat), .bool only, .slice ro rn rc]), x155, x156, x157, x158, x159, x160, x161, x162, x163, x164, x165, x166, x167, x168, x169, x170, (by simp only [Act.put, List.setIfInBounds_toArray, List.set_cons_zero, List.set_cons_succ]), (by simp only [Act.put, List.setIfInBounds_toArray, List.set_cons_zero, List.set_cons_succ]), hb, cd0, cd1, cd2, cd3, cd4, (fun _ => rfl), (fun _ => rfl), cd7, cd8, cd9, cd10, cd11, cd12, cd13, cd14, cd15, cd16, cd17, cd18, cd19, cd20, cd21, cd22⟩
                  · rintro L a w ⟨b0, b1, b2, b3, b4, b5, b6, b7, b8, b9, b10, b11, b12, b13, b14, b15, b16, b17, b18, b19, b20, b21, b22, x148, x149, x150, x151, x152, x153, x154, x155, x156, x157, x158, x159, x160, x161, x162, x163, x164, x165, x166, x167, x168, x169, x170, rfl, rfl, hb, cd0, cd1, cd2, cd3, cd4, cd5, cd6, cd7, cd8, cd9, cd10, cd11, cd12, cd13, cd14, cd15, cd16, cd17, cd18, cd19, cd20, cd21, cd22⟩ hf hd
                    have hf' : b7 = false := hf
                    subst hf'
                    have d6 : b6 = true := hd ⟨6, .data⟩ (by simp) rfl
                    subst d6
                    have d5 : b5 = true := hd ⟨5, .chain⟩ (by simp) rfl
                    subst d5
                    obtain rfl := cd6.out rfl
                    obtain rfl := cd5.out rfl
                    clear hf hd
                    try simp only [List.setIfInBounds_toArray, List.set_cons_zero, List.set_cons_succ]
                    intro K hK
                    rw [if_pos (by rfl)]
                    go_simp
                    go_at_call 30
                    refine (HTo _).mono ?_
                    rintro e w' ⟨rfl, bx⟩
                    exact hK.out _ _ ⟨b0, b1, b2, b3, b4, true, true, true, b8, b9, b10, b11, b12, b13, b14, b15, b16, b17, b18, b19, b20, b21, b22, x148, x149, x150, x151, x152, .bool false, .agg #[.string (bsOf NM), .slice co N cc, .int .i64 (KI : Nat), .bool only, .slice ro rn rc], (.agg #[.string (bsOf NM), .slice co N cc, .int .i64 (KI : Nat), .bool only, .slice ro rn rc]), x156, x157, x158, x159, x160, x161, x162, x163, x164, x165, x166, x167, x168, x169, x170, (by simp only [Act.put, List.setIfInBounds_toArray, List.set_cons_zero, List.set_cons_succ]), (by simp only [Act.put, List.setIfInBounds_toArray, List.set_cons_zero, List.set_cons_succ]), hb.trans (bx.mono (Nat.le_trans hB0 hb.size)), cd0, cd1, cd2, cd3, cd4, (fun _ => rfl), (fun _ => rfl), (fun _ => rfl), cd8, cd9, cd10, cd11, cd12, cd13, cd14, cd15, cd16, cd17, cd18, cd19, cd20, cd21, cd22⟩
                  · rintro L a w ⟨b0, b1, b2, b3, b4, b5, b6, b7, b8, b9, b10, b11, b12, b13, b14, b15, b16, b17, b18, b19, b20, b21, b22, x148, x149, x150, x151, x152, x153, x154, x155, x156, x157, x158, x159, x160, x161, x162, x163, x164, x165, x166, x167, x168, x169, x170, rfl, rfl, hb, cd0, cd1, cd2, cd3, cd4, cd5, cd6, cd7, cd8, cd9, cd10, cd11, cd12, cd13, cd14, cd15, cd16, cd17, cd18, cd19, cd20, cd21, cd22⟩ hf hd
                    have hf' : b8 = false := hf
                    subst hf'
                    have d5 : b5 = true := hd ⟨5, .guard⟩ (by simp) rfl
                    subst d5
                    obtain rfl := cd5.out rfl
                    clear hf hd
                    try simp only [List.setIfInBounds_toArray, List.set_cons_zero, List.set_cons_succ]
                    have z0 := (hb.cell hgxB).trans x0_
                    have z1 := (hb.cell hgxB).trans x1_
                    have z2 := (hb.cell hgxB).trans x2_
                    have z3 := (hb.cell hgxB).trans x3_
                    have z4 := (hb.cell hgxB).trans x4_
                    intro K hK
                    rw [if_pos (by rfl)]
                    go_simp
                    exact hK.out _ _ ⟨b0, b1, b2, b3, b4, true, b6, b7, true, b9, b10, b11, b12, b13, b14, b15, b16, b17, b18, b19, b20, b21, b22, x148, x149, x150, x151, x152, .bool false, x154, x155, (.agg #[.string (bsOf NM), .slice (some ⟨g, 0, none⟩) N cg, .int .i64 (KI : Nat), .bool only, .slice xo rn xc]), x157, x158, x159, x160, x161, x162, x163, x164, x165, x166, x167, x168, x169, x170, (by simp only [Act.put, List.setIfInBounds_toArray, List.set_cons_zero, List.set_cons_succ]), (by simp only [Act.put, List.setIfInBounds_toArray, List.set_cons_zero, List.set_cons_succ]), hb, cd0, cd1, cd2, cd3, cd4, (fun _ => rfl), cd6, cd7, (fun _ => rfl), cd9, cd10, cd11, cd12, cd13, cd14, cd15, cd16, cd17, cd18, cd19, cd20, cd21, cd22⟩
                  · rintro L a w ⟨b0, b1, b2, b3, b4, b5, b6, b7, b8, b9, b10, b11, b12, b13, b14, b15, b16, b17, b18, b19, b20, b21, b22, x148, x149, x150, x151, x152, x153, x154, x155, x156, x157, x158, x159, x160, x161, x162, x163, x164, x165, x166, x167, x168, x169, x170, rfl, rfl, hb, cd0, cd1, cd2, cd3, cd4, cd5, cd6, cd7, cd8, cd9, cd10, cd11, cd12, cd13, cd14, cd15, cd16, cd17, cd18, cd19, cd20, cd21, cd22⟩ hf hd
                    have hf' : b9 = false := hf
                    subst hf'
                    have d7 : b7 = true := hd ⟨7, .data⟩ (by simp) rfl
                    subst d7
                    have d8 : b8 = true := hd ⟨8, .data⟩ (by simp) rfl
                    subst d8
                    have d5 : b5 = true := hd ⟨5, .guard⟩ (by simp) rfl
                    subst d5
                    obtain rfl := cd7.out rfl
                    obtain rfl := cd8.out rfl
                    obtain rfl := cd5.out rfl
                    clear hf hd
                    try simp only [List.setIfInBounds_toArray, List.set_cons_zero, List.set_cons_succ]
                    intro K hK
                    rw [if_pos (by rfl)]
                    go_simp
                    go_at_call 29
                    refine (HS2 _ hb).mono ?_
                    rintro e w' ⟨rfl, bx⟩
                    exact hK.out _ _ ⟨b0, b1, b2, b3, b4, true, b6, true, true, true, b10, b11, b12, b13, b14, b15, b16, b17, b18, b19, b20, b21, b22, x148, x149, x150, x151, x152, .bool false, x154, .agg #[.string (bsOf NM), .slice co N cc, .int .i64 (KI : Nat), .bool only, .slice ro rn rc], .agg #[.string (bsOf NM), .slice (some ⟨g, 0, none⟩) N cg, .int .i64 (KI : Nat), .bool only, .slice xo rn xc], (.bool true), x158, x159, x160, x161, x162, x163, x164, x165, x166, x167, x168, x169, x170, (by simp only [Act.put, List.setIfInBounds_toArray, List.set_cons_zero, List.set_cons_succ]), (by simp only [Act.put, List.setIfInBounds_toArray, List.set_cons_zero, List.set_cons_succ]), hb.trans (bx.mono (Nat.le_trans hB0 hb.size)), cd0, cd1, cd2, cd3, cd4, (fun _ => rfl), cd6, (fun _ => rfl), (fun _ => rfl), (fun _ => rfl), cd10, cd11, cd12, cd13, cd14, cd15, cd16, cd17, cd18, cd19, cd20, cd21, cd22⟩
                  · rintro L a w ⟨b0, b1, b2, b3, b4, b5, b6, b7, b8, b9, b10, b11, b12, b13, b14, b15, b16, b17, b18, b19, b20, b21, b22, x148, x149, x150, x151, x152, x153, x154, x155, x156, x157, x158, x159, x160, x161, x162, x163, x164, x165, x166, x167, x168, x169, x170, rfl, rfl, hb, cd0, cd1, cd2, cd3, cd4, cd5, cd6, cd7, cd8, cd9, cd10, cd11, cd12, cd13, cd14, cd15, cd16, cd17, cd18, cd19, cd20, cd21, cd22⟩ hf hd
                    have hf' : b10 = false := hf
                    subst hf'
                    have d9 : b9 = true := hd ⟨9, .data⟩ (by simp) rfl
                    subst d9
                    have d5 : b5 = true := hd ⟨5, .guard⟩ (by simp) rfl
                    subst d5
                    obtain rfl := cd9.out rfl
                    obtain rfl := cd5.out rfl
                    clear hf hd
                    try simp only [List.setIfInBounds_toArray, List.set_cons_zero, List.set_cons_succ]
                    intro K hK
                    rw [if_pos (by rfl)]
                    go_simp
                    exact hK.out _ _ ⟨b0, b1, b2, b3, b4, true, b6, b7, b8, true, true, b11, b12, b13, b14, b15, b16, b17, b18, b19, b20, b21, b22, x148, x149, x150, x151, x152, .bool false, x154, x155, x156, .bool true, (.bool false), x159, x160, x161, x162, x163, x164, x165, x166, x167, x168, x169, x170, (by simp only [Act.put, List.setIfInBounds_toArray, List.set_cons_zero, List.set_cons_succ]), (by simp only [Act.put, List.setIfInBounds_toArray, List.set_cons_zero, List.set_cons_succ]), hb, cd0, cd1, cd2, cd3, cd4, (fun _ => rfl), cd6, cd7, cd8, (fun _ => rfl), (fun _ => rfl), cd11, cd12, cd13, cd14, cd15, cd16, cd17, cd18, cd19, cd20, cd21, cd22⟩
                  · rintro L a w ⟨b0, b1, b2, b3, b4, b5, b6, b7, b8, b9, b10, b11, b12, b13, b14, b15, b16, b17, b18, b19, b20, b21, b22, x148, x149, x150, x151, x152, x153, x154, x155, x156, x157, x158, x159, x160, x161, x162, x163, x164, x165, x166, x167, x168, x169, x170, rfl, rfl, hb, cd0, cd1, cd2, cd3, cd4, cd5, cd6, cd7, cd8, cd9, cd10, cd11, cd12, cd13, cd14, cd15, cd16, cd17, cd18, cd19, cd20, cd21, cd22⟩ hf hd
                    have hf' : b11 = false := hf
                    subst hf'
                    have d5 : b5 = true := hd ⟨5, .data⟩ (by simp) rfl
                    subst d5
                    have d10 : b10 = true := hd ⟨10, .data⟩ (by simp) rfl
                    subst d10
                    obtain rfl := cd5.out rfl
                    obtain rfl := cd10.out rfl
                    clear hf hd
                    try simp only [List.setIfInBounds_toArray, List.set_cons_zero, List.set_cons_succ]
                    intro K hK
                    rw [if_pos (by rfl)]
                    go_simp
                    exact hK.out _ _ ⟨b0, b1, b2, b3, b4, true, b6, b7, b8, b9, true, true, b12, b13, b14, b15, b16, b17, b18, b19, b20, b21, b22, x148, x149, x150, x151, x152, .bool false, x154, x155, x156, x157, .bool false, (.bool false), x160, x161, x162, x163, x164, x165, x166, x167, x168, x169, x170, (by simp only [Act.put, List.setIfInBounds_toArray, List.set_cons_zero, List.set_cons_succ]), (by simp only [Act.put, List.setIfInBounds_toArray, List.set_cons_zero, List.set_cons_succ]), hb, cd0, cd1, cd2, cd3, cd4, (fun _ => rfl), cd6, cd7, cd8, cd9, (fun _ => rfl), (fun _ => rfl), cd12, cd13, cd14, cd15, cd16, cd17, cd18, cd19, cd20, cd21, cd22⟩
                  · rintro L a w ⟨b0, b1, b2, b3, b4, b5, b6, b7, b8, b9, b10, b11, b12, b13, b14, b15, b16, b17, b18, b19, b20, b21, b22, x148, x149, x150, x151, x152, x153, x154, x155, x156, x157, x158, x159, x160, x161, x162, x163, x164, x165, x166, x167, x168, x169, x170, rfl, rfl, hb, cd0, cd1, cd2, cd3, cd4, cd5, cd6, cd7, cd8, cd9, cd10, cd11, cd12, cd13, cd14, cd15, cd16, cd17, cd18, cd19, cd20, cd21, cd22⟩ hf hd
                    have hf' : b12 = false := hf
                    subst hf'
                    have d11 : b11 = true := hd ⟨11, .data⟩ (by simp) rfl
                    subst d11
                    have d9 : b9 = true := hd ⟨9, .chain⟩ (by simp) rfl
                    subst d9
                    obtain rfl := cd11.out rfl
                    obtain rfl := cd9.out rfl
                    clear hf hd
                    try simp only [List.setIfInBounds_toArray, List.set_cons_zero, List.set_cons_succ]
                    intro K hK
                    rw [if_pos (by rfl)]
                    go_simp
                    exact hK.out _ _ ⟨b0, b1, b2, b3, b4, b5, b6, b7, b8, true, b10, true, true, b13, b14, b15, b16, b17, b18, b19, b20, b21, b22, x148, x149, x150, x151, x152, x153, x154, x155, x156, .bool true, x158, .bool false, (.bool false), x161, x162, x163, x164, x165, x166, x167, x168, x169, x170, (by simp only [Act.put, List.setIfInBounds_toArray, List.set_cons_zero, List.set_cons_succ]), (by simp only [Act.put, List.setIfInBounds_toArray, List.set_cons_zero, List.set_cons_succ]), hb, cd0, cd1, cd2, cd3, cd4, cd5, cd6, cd7, cd8, (fun _ => rfl), cd10, (fun _ => rfl), (fun _ => rfl), cd13, cd14, cd15, cd16, cd17, cd18, cd19, cd20, cd21, cd22⟩
                  · rintro L a w ⟨b0, b1, b2, b3, b4, b5, b6, b7, b8, b9, b10, b11, b12, b13, b14, b15, b16, b17, b18, b19, b20, b21, b22, x148, x149, x150, x151, x152, x153, x154, x155, x156, x157, x158, x159, x160, x161, x162, x163, x164, x165, x166, x167, x168, x169, x170, rfl, rfl, hb, cd0, cd1, cd2, cd3, cd4, cd5, cd6, cd7, cd8, cd9, cd10, cd11, cd12, cd13, cd14, cd15, cd16, cd17, cd18, cd19, cd20, cd21, cd22⟩ hf hd
                    have hf' : b13 = false := hf
                    subst hf'
                    have d12 : b12 = true := hd ⟨12, .guard⟩ (by simp) rfl
                    subst d12
                    obtain rfl := cd12.out rfl
                    clear hf hd
                    try simp only [List.setIfInBounds_toArray, List.set_cons_zero, List.set_cons_succ]
                    intro K hK
                    rw [if_pos (by rfl)]
                    go_simp
                    exact hK.out _ _ ⟨b0, b1, b2, b3, b4, b5, b6, b7, b8, b9, b10, b11, true, true, b14, b15, b16, b17, b18, b19, b20, b21, b22, x148, x149, x150, x151, x152, x153, x154, x155, x156, x157, x158, x159, .bool false, (.slice pa pn pc), x162, x163, x164, x165, x166, x167, x168, x169, x170, (by simp only [Act.put, List.setIfInBounds_toArray, List.set_cons_zero, List.set_cons_succ]), (by simp only [Act.put, List.setIfInBounds_toArray, List.set_cons_zero, List.set_cons_succ]), hb, cd0, cd1, cd2, cd3, cd4, cd5, cd6, cd7, cd8, cd9, cd10, cd11, (fun _ => rfl), (fun _ => rfl), cd14, cd15, cd16, cd17, cd18, cd19, cd20, cd21, cd22⟩
                  · rintro L a w ⟨b0, b1, b2, b3, b4, b5, b6, b7, b8, b9, b10, b11, b12, b13, b14, b15, b16, b17, b18, b19, b20, b21, b22, x148, x149, x150, x151, x152, x153, x154, x155, x156, x157, x158, x159, x160, x161, x162, x163, x164, x165, x166, x167, x168, x169, x170, rfl, rfl, hb, cd0, cd1, cd2, cd3, cd4, cd5, cd6, cd7, cd8, cd9, cd10, cd11, cd12, cd13, cd14, cd15, cd16, cd17, cd18, cd19, cd20, cd21, cd22⟩ hf hd
                    have hf' : b14 = false := hf
                    subst hf'
                    have d12 : b12 = true := hd ⟨12, .guard⟩ (by simp) rfl
                    subst d12
                    obtain rfl := cd12.out rfl
                    clear hf hd
                    try simp only [List.setIfInBounds_toArray, List.set_cons_zero, List.set_cons_succ]
                    intro K hK
                    rw [if_pos (by rfl)]
                    go_simp
                    exact hK.out _ _ ⟨b0, b1, b2, b3, b4, b5, b6, b7, b8, b9, b10, b11, true, b13, true, b15, b16, b17, b18, b19, b20, b21, b22, x148, x149, x150, x151, x152, x153, x154, x155, x156, x157, x158, x159, .bool false, x161, (.slice qa qn qc), x163, x164, x165, x166, x167, x168, x169, x170, (by simp only [Act.put, List.setIfInBounds_toArray, List.set_cons_zero, List.set_cons_succ]), (by simp only [Act.put, List.setIfInBounds_toArray, List.set_cons_zero, List.set_cons_succ]), hb, cd0, cd1, cd2, cd3, cd4, cd5, cd6, cd7, cd8, cd9, cd10, cd11, (fun _ => rfl), cd13, (fun _ => rfl), cd15, cd16, cd17, cd18, cd19, cd20, cd21, cd22⟩
                  · rintro L a w ⟨b0, b1, b2, b3, b4, b5, b6, b7, b8, b9, b10, b11, b12, b13, b14, b15, b16, b17, b18, b19, b20, b21, b22, x148, x149, x150, x151, x152, x153, x154, x155, x156, x157, x158, x159, x160, x161, x162, x163, x164, x165, x166, x167, x168, x169, x170, rfl, rfl, hb, cd0, cd1, cd2, cd3, cd4, cd5, cd6, cd7, cd8, cd9, cd10, cd11, cd12, cd13, cd14, cd15, cd16, cd17, cd18, cd19, cd20, cd21, cd22⟩ hf hd
                    have hf' : b15 = false := hf
                    subst hf'
                    have d13 : b13 = true := hd ⟨13, .data⟩ (by simp) rfl
                    subst d13
                    have d14 : b14 = true := hd ⟨14, .data⟩ (by simp) rfl
                    subst d14
                    have d12 : b12 = true := hd ⟨12, .chain⟩ (by simp) rfl
                    subst d12
                    obtain rfl := cd13.out rfl
                    obtain rfl := cd14.out rfl
                    obtain rfl := cd12.out rfl
                    clear hf hd
                    try simp only [List.setIfInBounds_toArray, List.set_cons_zero, List.set_cons_succ]
                    intro K hK
                    rw [if_pos (by rfl)]
                    go_simp
                    go_at_call 25
                    refine (HS3 _ hb).mono ?_
                    rintro e w' ⟨rfl, bx⟩
                    exact hK.out _ _ ⟨b0, b1, b2, b3, b4, b5, b6, b7, b8, b9, b10, b11, true, true, true, true, b16, b17, b18, b19, b20, b21, b22, x148, x149, x150, x151, x152, x153, x154, x155, x156, x157, x158, x159, .bool false, .slice pa pn pc, .slice qa qn qc, (.bool true), x164, x165, x166, x167, x168, x169, x170, (by simp only [Act.put, List.setIfInBounds_toArray, List.set_cons_zero, List.set_cons_succ]), (by simp only [Act.put, List.setIfInBounds_toArray, List.set_cons_zero, List.set_cons_succ]), hb.trans (bx.mono (Nat.le_trans hB0 hb.size)), cd0, cd1, cd2, cd3, cd4, cd5, cd6, cd7, cd8, cd9, cd10, cd11, (fun _ => rfl), (fun _ => rfl), (fun _ => rfl), (fun _ => rfl), cd16, cd17, cd18, cd19, cd20, cd21, cd22⟩
                  · rintro L a w ⟨b0, b1, b2, b3, b4, b5, b6, b7, b8, b9, b10, b11, b12, b13, b14, b15, b16, b17, b18, b19, b20, b21, b22, x148, x149, x150, x151, x152, x153, x154, x155, x156, x157, x158, x159, x160, x161, x162, x163, x164, x165, x166, x167, x168, x169, x170, rfl, rfl, hb, cd0, cd1, cd2, cd3, cd4, cd5, cd6, cd7, cd8, cd9, cd10, cd11, cd12, cd13, cd14, cd15, cd16, cd17, cd18, cd19, cd20, cd21, cd22⟩ hf hd
                    have hf' : b16 = false := hf
                    subst hf'
                    have d15 : b15 = true := hd ⟨15, .data⟩ (by simp) rfl
                    subst d15
                    have d12 : b12 = true := hd ⟨12, .guard⟩ (by simp) rfl
                    subst d12
                    obtain rfl := cd15.out rfl
                    obtain rfl := cd12.out rfl
                    clear hf hd
                    try simp only [List.setIfInBounds_toArray, List.set_cons_zero, List.set_cons_succ]
                    intro K hK
                    rw [if_pos (by rfl)]
                    go_simp
                    exact hK.out _ _ ⟨b0, b1, b2, b3, b4, b5, b6, b7, b8, b9, b10, b11, true, b13, b14, true, true, b17, b18, b19, b20, b21, b22, x148, x149, x150, x151, x152, x153, x154, x155, x156, x157, x158, x159, .bool false, x161, x162, .bool true, (.bool false), x165, x166, x167, x168, x169, x170, (by simp only [Act.put, List.setIfInBounds_toArray, List.set_cons_zero, List.set_cons_succ]), (by simp only [Act.put, List.setIfInBounds_toArray, List.set_cons_zero, List.set_cons_succ]), hb, cd0, cd1, cd2, cd3, cd4, cd5, cd6, cd7, cd8, cd9, cd10, cd11, (fun _ => rfl), cd13, cd14, (fun _ => rfl), (fun _ => rfl), cd17, cd18, cd19, cd20, cd21, cd22⟩
                  · rintro L a w ⟨b0, b1, b2, b3, b4, b5, b6, b7, b8, b9, b10, b11, b12, b13, b14, b15, b16, b17, b18, b19, b20, b21, b22, x148, x149, x150, x151, x152, x153, x154, x155, x156, x157, x158, x159, x160, x161, x162, x163, x164, x165, x166, x167, x168, x169, x170, rfl, rfl, hb, cd0, cd1, cd2, cd3, cd4, cd5, cd6, cd7, cd8, cd9, cd10, cd11, cd12, cd13, cd14, cd15, cd16, cd17, cd18, cd19, cd20, cd21, cd22⟩ hf hd
                    have hf' : b17 = false := hf
                    subst hf'
                    have d12 : b12 = true := hd ⟨12, .data⟩ (by simp) rfl
                    subst d12
                    have d16 : b16 = true := hd ⟨16, .data⟩ (by simp) rfl
                    subst d16
                    obtain rfl := cd12.out rfl
                    obtain rfl := cd16.out rfl
                    clear hf hd
                    try simp only [List.setIfInBounds_toArray, List.set_cons_zero, List.set_cons_succ]
                    intro K hK
                    rw [if_pos (by rfl)]
                    go_simp
                    exact hK.out _ _ ⟨b0, b1, b2, b3, b4, b5, b6, b7, b8, b9, b10, b11, true, b13, b14, b15, true, true, b18, b19, b20, b21, b22, x148, x149, x150, x151, x152, x153, x154, x155, x156, x157, x158, x159, .bool false, x161, x162, x163, .bool false, (.bool false), x166, x167, x168, x169, x170, (by simp only [Act.put, List.setIfInBounds_toArray, List.set_cons_zero, List.set_cons_succ]), (by simp only [Act.put, List.setIfInBounds_toArray, List.set_cons_zero, List.set_cons_succ]), hb, cd0, cd1, cd2, cd3, cd4, cd5, cd6, cd7, cd8, cd9, cd10, cd11, (fun _ => rfl), cd13, cd14, cd15, (fun _ => rfl), (fun _ => rfl), cd18, cd19, cd20, cd21, cd22⟩
                  · rintro L a w ⟨b0, b1, b2, b3, b4, b5, b6, b7, b8, b9, b10, b11, b12, b13, b14, b15, b16, b17, b18, b19, b20, b21, b22, x148, x149, x150, x151, x152, x153, x154, x155, x156, x157, x158, x159, x160, x161, x162, x163, x164, x165, x166, x167, x168, x169, x170, rfl, rfl, hb, cd0, cd1, cd2, cd3, cd4, cd5, cd6, cd7, cd8, cd9, cd10, cd11, cd12, cd13, cd14, cd15, cd16, cd17, cd18, cd19, cd20, cd21, cd22⟩ hf hd
                    have hf' : b18 = false := hf
                    subst hf'
                    have d17 : b17 = true := hd ⟨17, .data⟩ (by simp) rfl
                    subst d17
                    have d15 : b15 = true := hd ⟨15, .chain⟩ (by simp) rfl
                    subst d15
                    obtain rfl := cd17.out rfl
                    obtain rfl := cd15.out rfl
                    clear hf hd
                    try simp only [List.setIfInBounds_toArray, List.set_cons_zero, List.set_cons_succ]
                    intro K hK
                    rw [if_pos (by rfl)]
                    go_simp
                    exact hK.out _ _ ⟨b0, b1, b2, b3, b4, b5, b6, b7, b8, b9, b10, b11, b12, b13, b14, true, b16, true, true, b19, b20, b21, b22, x148, x149, x150, x151, x152, x153, x154, x155, x156, x157, x158, x159, x160, x161, x162, .bool true, x164, .bool false, (.bool false), x167, x168, x169, x170, (by simp only [Act.put, List.setIfInBounds_toArray, List.set_cons_zero, List.set_cons_succ]), (by simp only [Act.put, List.setIfInBounds_toArray, List.set_cons_zero, List.set_cons_succ]), hb, cd0, cd1, cd2, cd3, cd4, cd5, cd6, cd7, cd8, cd9, cd10, cd11, cd12, cd13, cd14, (fun _ => rfl), cd16, (fun _ => rfl), (fun _ => rfl), cd19, cd20, cd21, cd22⟩
                  · rintro L a w ⟨b0, b1, b2, b3, b4, b5, b6, b7, b8, b9, b10, b11, b12, b13, b14, b15, b16, b17, b18, b19, b20, b21, b22, x148, x149, x150, x151, x152, x153, x154, x155, x156, x157, x158, x159, x160, x161, x162, x163, x164, x165, x166, x167, x168, x169, x170, rfl, rfl, hb, cd0, cd1, cd2, cd3, cd4, cd5, cd6, cd7, cd8, cd9, cd10, cd11, cd12, cd13, cd14, cd15, cd16, cd17, cd18, cd19, cd20, cd21, cd22⟩ hf hd
                    have hf' : b19 = false := hf
                    subst hf'
                    have d18 : b18 = true := hd ⟨18, .guard⟩ (by simp) rfl
                    subst d18
                    obtain rfl := cd18.out rfl
                    clear hf hd
                    try simp only [List.setIfInBounds_toArray, List.set_cons_zero, List.set_cons_succ]
                    intro K hK
                    rw [if_pos (by rfl)]
                    go_simp
                    exact hK.out _ _ ⟨b0, b1, b2, b3, b4, b5, b6, b7, b8, b9, b10, b11, b12, b13, b14, b15, b16, b17, true, true, b20, b21, b22, x148, x149, x150, x151, x152, x153, x154, x155, x156, x157, x158, x159, x160, x161, x162, x163, x164, x165, .bool false, (.bool tk), x168, x169, x170, (by simp only [Act.put, List.setIfInBounds_toArray, List.set_cons_zero, List.set_cons_succ]), (by simp only [Act.put, List.setIfInBounds_toArray, List.set_cons_zero, List.set_cons_succ]), hb, cd0, cd1, cd2, cd3, cd4, cd5, cd6, cd7, cd8, cd9, cd10, cd11, cd12, cd13, cd14, cd15, cd16, cd17, (fun _ => rfl), (fun _ => rfl), cd20, cd21, cd22⟩
                  · rintro L a w ⟨b0, b1, b2, b3, b4, b5, b6, b7, b8, b9, b10, b11, b12, b13, b14, b15, b16, b17, b18, b19, b20, b21, b22, x148, x149, x150, x151, x152, x153, x154, x155, x156, x157, x158, x159, x160, x161, x162, x163, x164, x165, x166, x167, x168, x169, x170, rfl, rfl, hb, cd0, cd1, cd2, cd3, cd4, cd5, cd6, cd7, cd8, cd9, cd10, cd11, cd12, cd13, cd14, cd15, cd16, cd17, cd18, cd19, cd20, cd21, cd22⟩ hf hd
                    have hf' : b20 = false := hf
                    subst hf'
                    have d18 : b18 = true := hd ⟨18, .guard⟩ (by simp) rfl
                    subst d18
                    obtain rfl := cd18.out rfl
                    clear hf hd
                    try simp only [List.setIfInBounds_toArray, List.set_cons_zero, List.set_cons_succ]
                    intro K hK
                    rw [if_pos (by rfl)]
                    go_simp
                    exact hK.out _ _ ⟨b0, b1, b2, b3, b4, b5, b6, b7, b8, b9, b10, b11, b12, b13, b14, b15, b16, b17, true, b19, true, b21, b22, x148, x149, x150, x151, x152, x153, x154, x155, x156, x157, x158, x159, x160, x161, x162, x163, x164, x165, .bool false, x167, (.bool tk), x169, x170, (by simp only [Act.put, List.setIfInBounds_toArray, List.set_cons_zero, List.set_cons_succ]), (by simp only [Act.put, List.setIfInBounds_toArray, List.set_cons_zero, List.set_cons_succ]), hb, cd0, cd1, cd2, cd3, cd4, cd5, cd6, cd7, cd8, cd9, cd10, cd11, cd12, cd13, cd14, cd15, cd16, cd17, (fun _ => rfl), cd19, (fun _ => rfl), cd21, cd22⟩
                  · rintro L a w ⟨b0, b1, b2, b3, b4, b5, b6, b7, b8, b9, b10, b11, b12, b13, b14, b15, b16, b17, b18, b19, b20, b21, b22, x148, x149, x150, x151, x152, x153, x154, x155, x156, x157, x158, x159, x160, x161, x162, x163, x164, x165, x166, x167, x168, x169, x170, rfl, rfl, hb, cd0, cd1, cd2, cd3, cd4, cd5, cd6, cd7, cd8, cd9, cd10, cd11, cd12, cd13, cd14, cd15, cd16, cd17, cd18, cd19, cd20, cd21, cd22⟩ hf hd
                    have hf' : b21 = false := hf
                    subst hf'
                    have d19 : b19 = true := hd ⟨19, .data⟩ (by simp) rfl
                    subst d19
                    have d20 : b20 = true := hd ⟨20, .data⟩ (by simp) rfl
                    subst d20
                    have d18 : b18 = true := hd ⟨18, .guard⟩ (by simp) rfl
                    subst d18
                    obtain rfl := cd19.out rfl
                    obtain rfl := cd20.out rfl
                    obtain rfl := cd18.out rfl
                    clear hf hd
                    try simp only [List.setIfInBounds_toArray, List.set_cons_zero, List.set_cons_succ]
                    intro K hK
                    rw [if_pos (by rfl)]
                    go_simp
                    exact hK.out _ _ ⟨b0, b1, b2, b3, b4, b5, b6, b7, b8, b9, b10, b11, b12, b13, b14, b15, b16, b17, true, true, true, true, b22, x148, x149, x150, x151, x152, x153, x154, x155, x156, x157, x158, x159, x160, x161, x162, x163, x164, x165, .bool false, .bool tk, .bool tk, (.bool false), x170, (by simp only [Act.put, List.setIfInBounds_toArray, List.set_cons_zero, List.set_cons_succ]), (by simp only [Act.put, List.setIfInBounds_toArray, List.set_cons_zero, List.set_cons_succ]), hb, cd0, cd1, cd2, cd3, cd4, cd5, cd6, cd7, cd8, cd9, cd10, cd11, cd12, cd13, cd14, cd15, cd16, cd17, (fun _ => rfl), (fun _ => rfl), (fun _ => rfl), (fun _ => rfl), cd22⟩
                  · rintro L a w ⟨b0, b1, b2, b3, b4, b5, b6, b7, b8, b9, b10, b11, b12, b13, b14, b15, b16, b17, b18, b19, b20, b21, b22, x148, x149, x150, x151, x152, x153, x154, x155, x156, x157, x158, x159, x160, x161, x162, x163, x164, x165, x166, x167, x168, x169, x170, rfl, rfl, hb, cd0, cd1, cd2, cd3, cd4, cd5, cd6, cd7, cd8, cd9, cd10, cd11, cd12, cd13, cd14, cd15, cd16, cd17, cd18, cd19, cd20, cd21, cd22⟩ hf hd
                    have hf' : b22 = false := hf
                    subst hf'
                    have d18 : b18 = true := hd ⟨18, .data⟩ (by simp) rfl
                    subst d18
                    have d21 : b21 = true := hd ⟨21, .data⟩ (by simp) rfl
                    subst d21
                    obtain rfl := cd18.out rfl
                    obtain rfl := cd21.out rfl
                    clear hf hd
                    try simp only [List.setIfInBounds_toArray, List.set_cons_zero, List.set_cons_succ]
                    intro K hK
                    rw [if_pos (by rfl)]
                    go_simp
                    exact hK.out _ _ ⟨b0, b1, b2, b3, b4, b5, b6, b7, b8, b9, b10, b11, b12, b13, b14, b15, b16, b17, true, b19, b20, true, true, x148, x149, x150, x151, x152, x153, x154, x155, x156, x157, x158, x159, x160, x161, x162, x163, x164, x165, .bool false, x167, x168, .bool false, (.bool false), (by simp only [Act.put, List.setIfInBounds_toArray, List.set_cons_zero, List.set_cons_succ]), (by simp only [Act.put, List.setIfInBounds_toArray, List.set_cons_zero, List.set_cons_succ]), hb, cd0, cd1, cd2, cd3, cd4, cd5, cd6, cd7, cd8, cd9, cd10, cd11, cd12, cd13, cd14, cd15, cd16, cd17, (fun _ => rfl), cd19, cd20, (fun _ => rfl), (fun _ => rfl)⟩
                · rintro act V28 ⟨b0, b1, b2, b3, b4, b5, b6, b7, b8, b9, b10, b11, b12, b13, b14, b15, b16, b17, b18, b19, b20, b21, b22, x148, x149, x150, x151, x152, x153, x154, x155, x156, x157, x158, x159, x160, x161, x162, x163, x164, x165, x166, x167, x168, x169, x170, hL, rfl, hb, cd0, cd1, cd2, cd3, cd4, cd5, cd6, cd7, cd8, cd9, cd10, cd11, cd12, cd13, cd14, cd15, cd16, cd17, cd18, cd19, cd20, cd21, cd22⟩
                  have hL' : [true, true, true, true, true, true, true, true, true, true, true, true, true, true, true, true, true, true, true, true, true, true, true] = [b0, b1, b2, b3, b4, b5, b6, b7, b8, b9, b10, b11, b12, b13, b14, b15, b16, b17, b18, b19, b20, b21, b22] := congrArg Array.toList hL
                  simp only [List.cons.injEq, and_true] at hL'
                  obtain ⟨rfl, rfl, rfl, rfl, rfl, rfl, rfl, rfl, rfl, rfl, rfl, rfl, rfl, rfl, rfl, rfl, rfl, rfl, rfl, rfl, rfl, rfl, rfl⟩ := hL'
                  obtain rfl := cd0.out rfl
                  obtain rfl := cd1.out rfl
                  obtain rfl := cd2.out rfl
                  obtain rfl := cd3.out rfl
                  obtain rfl := cd4.out rfl
                  obtain rfl := cd5.out rfl
                  obtain rfl := cd6.out rfl
                  obtain rfl := cd7.out rfl
                  obtain rfl := cd8.out rfl
                  obtain rfl := cd9.out rfl
                  obtain rfl := cd10.out rfl
                  obtain rfl := cd11.out rfl
                  obtain rfl := cd12.out rfl
                  obtain rfl := cd13.out rfl
                  obtain rfl := cd14.out rfl
                  obtain rfl := cd15.out rfl
                  obtain rfl := cd16.out rfl
                  obtain rfl := cd17.out rfl
                  obtain rfl := cd18.out rfl
                  obtain rfl := cd19.out rfl
                  obtain rfl := cd20.out rfl
                  obtain rfl := cd21.out rfl
                  obtain rfl := cd22.out rfl
                  clear hL cd0 cd1 cd2 cd3 cd4 cd5 cd6 cd7 cd8 cd9 cd10 cd11 cd12 cd13 cd14 cd15 cd16 cd17 cd18 cd19 cd20 cd21 cd22
                  simp only [List.setIfInBounds_toArray, List.set_cons_zero, List.set_cons_succ]
                  have BV := BB.trans (((Below.refl _ _).drew.trans hb).mono hpY)
                  have hSV := Nat.le_trans hSY hb.size
                  have DV := DY.past ((Below.refl _ _).drew.trans hb)
                  clear hb
                  go_wp2_with fail
                  go_roundw
                  case rel => exact ⟨i + 1, rs2, by omega, by go_num, ⟨_, _, _, _, _, _, _, _, DV⟩, hok2, hln2, hSV, BV⟩
                  case measure => simp [intOf]; omega
      · have hlti : ¬ ((i : Int) < (an : Int)) := by omega
        go_wp2_with fail
        go_ret
        exact ⟨rfl, by rw [HP.out]; exact B⟩
end Go.Proofs.Ytllijeciodmckaa
