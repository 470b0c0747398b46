/-
  ledger: copies of changes, transactions, rows of transactions (by gen_lgk.py).
  The contracts of what package code writes by: longer, low.
  code.Int.
  A row of bytes that came in. Of no program.
  A number on nothing; a row of bytes that came in.
  The contracts of code.Int, code.Byte, code.Text: each answers new memory: the bytes that were handed in, and behind them what the document says.
  The writers on nothing, and on short texts; a row of bytes that came in.
  A value in a block of its own.
  Rows of values: how one lies in cells; what is written of one, and of a row; row.valueBytes.
  sync/atomic's Bool is read.
  sync.Once, one goroutine: its parts, each a contract of its own (after the guide's worked example of it).
-/
import Derived.Test.YtdmnjjknkcnkgaaDoorMg1
import Derived.Deep.CutRange
import Derived.Deep.CutBlock
import Derived.Test.YtdmnjjknkcnkgaaDoorMg0
import Derived.OpenShut
import Derived.Test.YtdmnjjknkcnkgaaDoorProg
import Derived.WalkKit
import Derived.Laws.Pointers
import Derived.Laws.LoneSync
import Derived.Defers
import Derived.RegionTactic
import Derived.RegionCalls
import Derived.Lib.Hide
namespace Go.Proofs.YtdmnjjknkcnkgaaDoor
open Go.RowKit
set_option linter.unusedSimpArgs false
theorem TxtR.isDV {w : World} {B : Nat} {ao : Option Addr} {n c : Nat} {l : List V} (h : TxtR EV w 36 B ao n c l) {Q : Nat → Prop} (hQ : ∀ b, B ≤ b → Q b) : IsD DV w Q ao n c l :=
  h.isR.deep (by decide) fun hn a ha => by
    rcases h.either with ⟨h1, -, -, -⟩ | ⟨g, h1, -, hg⟩
    · rw [h1] at ha; cases ha
    · rw [h1] at ha; cases ha; exact hQ _ hg
/-- A row of the call's own, or nil, that reads as ls. -/
theorem TxtR.isD {α : Type} {D : Dn α} {w : World} {e : TypeId} {B : Nat} {ao : Option Addr} {n c : Nat} {bs : List D.β} {ls : List α} (h : TxtR D.E w e B ao n c bs) {Q : Nat → Prop} (hQ : ∀ b, B ≤ b → Q b) (hR : RdD D w Q bs ls) : IsD D w Q ao n c ls :=
  ⟨bs, h.isR, fun hn a ha => by
    rcases h.either with ⟨h1, -, -, -⟩ | ⟨g, h1, -, hg⟩
    · rw [h1] at ha; cases ha
    · rw [h1] at ha; cases ha; exact hQ _ hg, hR⟩
theorem grown_cell {w w' : World} {g : Nat} (h : w.grownBy w' (some g)) (k : Nat) (v : Value) : w.grownBy (w'.setCell ⟨g, k, none⟩ v) (some g) :=
  ⟨h.os, h.tape, h.output, by simpa using h.size, fun b hb hne => (heap_setCell_other _ _ b _ (fun e => hne (by rw [e]))).trans (h.block b hb hne)⟩
theorem grown_self (w : World) (g : Nat) : w.grownBy w (some g) := below_grown (some g) (Below.refl _ _)
set_option maxRecDepth 100000 in
set_option maxHeartbeats 1000000 in
theorem copyChange_any (w : World) (Q : Nat → Prop) (t : ByteArray) (op : Int) (ao : Option Addr) (n c : Nat) (l : List (V)) (h : IsD DV w Q ao n c l) (hn : n ≤ 100000) :
    Calls Tryd.prog 40 #[.agg #[.string t, .int .i64 op, .slice ao n c]] w fun e w' => ∃ ao' c', e = .returned (.agg #[.string t, .int .i64 op, .slice ao' n c']) ∧ IsD DV w' (FrG w.heap.size) ao' n c' l ∧ Below w.heap.size w w' := by
  have B0 : Below w.heap.size w ((w.alloc (.cells #[.string t, .int .i64 op, .slice ao n c] 39)).alloc (.cells #[.string ⟨#[]⟩, .int .i64 0, .slice none 0 0] 39)) := ((Below.refl _ _).alloc (Nat.le_refl _) _).alloc (by simp) _
  have hP : Bk ((w.alloc (.cells #[.string t, .int .i64 op, .slice ao n c] 39)).alloc (.cells #[.string ⟨#[]⟩, .int .i64 0, .slice none 0 0] 39)) w.heap.size #[.string t, .int .i64 op, .slice ao n c] 39 := (Bk.new w _ _).alloc _
  have hQ : Bk ((w.alloc (.cells #[.string t, .int .i64 op, .slice ao n c] 39)).alloc (.cells #[.string ⟨#[]⟩, .int .i64 0, .slice none 0 0] 39)) (w.heap.size + 1) #[.string ⟨#[]⟩, .int .i64 0, .slice none 0 0] 39 := by
    have := Bk.new (w.alloc (.cells #[.string t, .int .i64 op, .slice ao n c] 39)) #[.string ⟨#[]⟩, .int .i64 0, .slice none 0 0] 39
    rwa [World.size_alloc] at this
  have h1 := h.past B0
  go_enter Tryd.func40, Tryd.ntmps40
  go_upto_region 1 with fail
  generalize (w.alloc (.cells #[.string t, .int .i64 op, .slice ao n c] 39)).alloc (.cells #[.string ⟨#[]⟩, .int .i64 0, .slice none 0 0] 39) = W at B0 hP hQ h1 ⊢
  have hp0 : w.heap.size ≤ W.heap.size := B0.size
  obtain ⟨p, hp⟩ : ∃ p, w.heap.size = p := ⟨_, rfl⟩
  obtain ⟨q, hq⟩ : ∃ q, p + 1 = q := ⟨_, rfl⟩
  have HG := Lib.hid hp
  rw [hp] at hP hQ hp0
  rw [hq] at hQ
  simp only [hp, hq]
  have hpq : p ≠ q := by omega
  have hpq2 : p ≤ q := by omega
  clear hp hq h
  have hpW := hP.lt
  have hqW := hQ.lt
  obtain ⟨c0, c1, c2⟩ : W.cell? ⟨p, 0, none⟩ = some (.string t) ∧ W.cell? ⟨p, 1, none⟩ = some (.int .i64 op) ∧ W.cell? ⟨p, 2, none⟩ = some (.slice ao n c) := ⟨hP.c rfl, hP.c rfl, hP.c rfl⟩
  have HC := kclone_vs W ao n c l h1.flat (by omega)
  go_upto_region 2 with (go_at_call 57; refine HC.mono ?_; rintro e w1 ⟨ao', c', rfl, o1, b1⟩; have hP1 := hP.past b1; have fP := free_blk (i := 2) hP1; have cP : w1.cell? ⟨p, 2, none⟩ = some (.slice ao n c) := hP1.c rfl)
  have hP2 : Bk (w1.setCell ⟨p, 2, none⟩ (.slice ao' n c')) p #[.string t, .int .i64 op, .slice ao' n c'] 39 := (heap_setCell_same (i := 2) hP1).trans rfl
  have g2 : w1.grownBy (w1.setCell ⟨p, 2, none⟩ (.slice ao' n c')) (some p) := grown_cell (grown_self _ _) 2 _
  have hQ2 := (hQ.past b1).grown g2 (fun e => hpq (Option.some.inj e).symm)
  have o2 := ((o1.isDV (fun b hb => hb) : IsD DV w1 (FrG W.heap.size) ao' n c' l)).grown g2 (show ¬ W.heap.size ≤ p by omega)
  have B2 : Below w.heap.size w (w1.setCell ⟨p, 2, none⟩ (.slice ao' n c')) := (B0.trans (b1.mono B0.size)).grown g2 (Nat.le_trans B0.size b1.size) (fun z hz => by cases hz; exact Nat.le_of_eq HG.out)
  generalize w1.setCell ⟨p, 2, none⟩ (.slice ao' n c') = w2 at hP2 hQ2 o2 B2 ⊢
  clear hP1 fP cP g2 o1 b1 HC hP hQ c0 c1 c2 h1
  obtain ⟨c0, c1, c2⟩ : w2.cell? ⟨p, 0, none⟩ = some (.string t) ∧ w2.cell? ⟨p, 1, none⟩ = some (.int .i64 op) ∧ w2.cell? ⟨p, 2, none⟩ = some (.slice ao' n c') := ⟨hP2.c rfl, hP2.c rfl, hP2.c rfl⟩
  obtain ⟨f0, f1, f2⟩ : w2.frozen? ⟨q, 0, none⟩ = false ∧ w2.frozen? ⟨q, 1, none⟩ = false ∧ w2.frozen? ⟨q, 2, none⟩ = false := ⟨free_blk hQ2, free_blk hQ2, free_blk hQ2⟩
  obtain ⟨d0, d1, d2⟩ : w2.cell? ⟨q, 0, none⟩ = some (.string ⟨#[]⟩) ∧ w2.cell? ⟨q, 1, none⟩ = some (.int .i64 0) ∧ w2.cell? ⟨q, 2, none⟩ = some (.slice none 0 0) := ⟨hQ2.c rfl, hQ2.c rfl, hQ2.c rfl⟩
  go_wp2_with fail
  have g3 : w2.grownBy (((w2.setCell ⟨q, 0, none⟩ (.string t)).setCell ⟨q, 1, none⟩ (.int .i64 op)).setCell ⟨q, 2, none⟩ (.slice ao' n c')) (some q) := grown_cell (grown_cell (grown_cell (grown_self _ _) 0 _) 1 _) 2 _
  have hQ3 : Bk (((w2.setCell ⟨q, 0, none⟩ (.string t)).setCell ⟨q, 1, none⟩ (.int .i64 op)).setCell ⟨q, 2, none⟩ (.slice ao' n c')) q #[.string t, .int .i64 op, .slice ao' n c'] 39 := by
    have h5 := (heap_setCell_same (i := 2) (v := .slice ao' n c') (heap_setCell_same (i := 1) (v := .int .i64 op) (heap_setCell_same (i := 0) (v := .string t) hQ2)))
    exact h5
  have o3 := (o2.grown g3 (show ¬ W.heap.size ≤ q by omega)).imp (Q' := FrG w.heap.size) (fun b _ hb => Nat.le_trans B0.size hb)
  have B3 := B2.grown g3 B2.size (fun z hz => by cases hz; have := HG.out; omega)
  generalize (((w2.setCell ⟨q, 0, none⟩ (.string t)).setCell ⟨q, 1, none⟩ (.int .i64 op)).setCell ⟨q, 2, none⟩ (.slice ao' n c')) = w3 at hQ3 o3 B3 ⊢
  obtain ⟨r0, r1, r2⟩ : w3.cell? ⟨q, 0, none⟩ = some (.string t) ∧ w3.cell? ⟨q, 1, none⟩ = some (.int .i64 op) ∧ w3.cell? ⟨q, 2, none⟩ = some (.slice ao' n c') := ⟨hQ3.c rfl, hQ3.c rfl, hQ3.c rfl⟩
  refine bodyPost_ret (v := .agg #[.string t, .int .i64 op, .slice ao' n c']) (by simp [results, Tryd.results40, go_sem, r0, r1, r2]) rfl ?_
  exact ⟨_, _, rfl, o3, B3⟩
set_option maxRecDepth 100000 in
set_option maxHeartbeats 1000000 in
theorem copiedC_any (w : World) (Q : Nat → Prop) (ao : Option Addr) (n c : Nat) (ls : List (Chg)) (h : IsD DC w Q ao n c ls) (hn : n ≤ 100000) (hcs : ∀ x ∈ ls, x.2.length ≤ 100000) :
    Calls Tryd.prog 39 #[.slice ao n c, .func (.func 40) #[] #[]] w (CopiedIs DC 39 w n ls) := by
  have hln := h.len
  obtain ⟨bs, hb, -, hR⟩ := h
  have HC := kclone_ch w ao n c bs hb (by omega)
  go_enter Tryd.func39, Tryd.ntmps39
  go_upto_region 2 with (go_at_call 56; refine HC.mono ?_; rintro e w1 ⟨ao', c', rfl, o1, b1⟩)
  have hbl := o1.len
  go_wp2_with fail
  go_loopw [12] (fun i wr => ∃ (j : Nat) (bs' : List (DC.β)), j ≤ n ∧ i = .int .i64 (j : Nat) ∧ TxtR DC.E wr 39 w.heap.size ao' n c' bs' ∧ Hid (∀ (k : Nat) (b : DC.β) (x : Chg), k < j → bs'[k]? = some b → ls[k]? = some x → DC.R wr (FrGN w.heap.size ao') b x) ∧ Hid (∀ k, j ≤ k → bs'[k]? = bs[k]?) ∧ Below w.heap.size w wr) (fun i _ => n - (intOf i).toNat)
  case atStart => exact ⟨0, bs, Nat.zero_le _, rfl, o1, Lib.hid fun k b x hk => absurd hk (Nat.not_lt_zero k), Lib.hid fun k _ => rfl, b1⟩
  case round =>
    clear HC o1 b1 hb
    obtain ⟨j, bs', hj, rfl, o2, hd, he, B2⟩ := hrel
    by_cases hlt : j < n
    · have hlti : (j : Int) < (n : Int) := by omega
      obtain ⟨x, hx⟩ : ∃ x, ls[j]? = some x := ⟨ls[j]'(by omega), List.getElem?_eq_getElem _⟩
      obtain ⟨b, hb0, hr0⟩ := hR.get hx
      have hb1 : bs'[j]? = some b := (he.out j (Nat.le_refl _)).trans hb0
      have hr := DC.past hr0 B2
      rcases o2.either with ⟨-, h0, -, -⟩ | ⟨gb, rfl, og, hgb⟩
      · omega
      have hgl := og.lt
      have hcl : ∀ k u, (DC.E.f b)[k]? = some u → wr.cell? ⟨gb, j * DC.E.sz + k, none⟩ = some u := fun k u hu => by
        have hk := (List.getElem?_eq_some_iff.1 hu).1
        rw [DC.E.len] at hk
        exact og.cell _ _ (by rw [DC.E.all_get bs' j k b hb1 hk]; exact hu)
      have hxl := List.mem_of_getElem? hx
      have hcl : ∀ k u, (DC.E.f b)[k]? = some u → wr.cell? ⟨gb, j * 3 + k, none⟩ = some u := hcl
      obtain ⟨⟨bt, bo⟩, ⟨ba, bn, bc⟩⟩ := b
      have y0 : wr.cell? ⟨gb, j * 3, none⟩ = some (.string bt) := hcl 0 _ rfl
      have y1 : wr.cell? ⟨gb, j * 3 + 1, none⟩ = some (.int .i64 bo) := hcl 1 _ rfl
      have y2 : wr.cell? ⟨gb, j * 3 + 2, none⟩ = some (.slice ba bn bc) := hcl 2 _ rfl
      have bA : Below wr.heap.size wr (wr.alloc (.cells #[.string bt, .int .i64 bo, .slice ba bn bc] 39)) := (Below.refl _ _).alloc (Nat.le_refl _) _
      have hgl2 : gb < (wr.alloc (.cells #[.string bt, .int .i64 bo, .slice ba bn bc] 39)).heap.size := Nat.lt_of_lt_of_le hgl bA.size
      have hr2 := DC.past hr bA
      have HF := copyChange_any (wr.alloc (.cells #[.string bt, .int .i64 bo, .slice ba bn bc] 39)) Q bt bo ba bn bc x.2 hr2.2 (by have h9 := hr2.2.len; simp only at h9; have := hcs x hxl; omega)
      have HX := Lib.hid hx
      have hrE : Hid ((bt, bo) = x.1) := Lib.hid hr.1
      clear hx hcl hr hr2 hr0 hb0 hb1
      go_wp2_with (go_at_call 40; refine HF.mono ?_; rintro e w3 ⟨ao2, c2, rfl, i3, b3⟩; have og3 := og.past (bA.trans (b3.mono bA.size)); have v0 : w3.cell? ⟨gb, j * 3, none⟩ = some (.string bt) := (b3.cell hgl2).trans ((bA.cell hgl).trans y0); have v1 : w3.cell? ⟨gb, j * 3 + 1, none⟩ = some (.int .i64 bo) := (b3.cell hgl2).trans ((bA.cell hgl).trans y1); have v2 : w3.cell? ⟨gb, j * 3 + 2, none⟩ = some (.slice ba bn bc) := (b3.cell hgl2).trans ((bA.cell hgl).trans y2); have q0 : w3.frozen? ⟨gb, j * 3, none⟩ = false := og3.freeD _; have q1 : w3.frozen? ⟨gb, j * 3 + 1, none⟩ = false := og3.freeD _; have q2 : w3.frozen? ⟨gb, j * 3 + 2, none⟩ = false := og3.freeD _)
      have bB : Below wr.heap.size wr w3 := bA.trans (b3.mono bA.size)
      have g3 : w3.grownBy (((w3.setCell ⟨gb, j * 3, none⟩ (.string bt)).setCell ⟨gb, j * 3 + 1, none⟩ (.int .i64 bo)).setCell ⟨gb, j * 3 + 2, none⟩ (.slice ao2 bn c2)) (some gb) := grown_cell (grown_cell (grown_cell (grown_self _ _) _ _) _ _) _ _
      have hset : OwnR DC.E (((w3.setCell ⟨gb, j * 3, none⟩ (.string bt)).setCell ⟨gb, j * 3 + 1, none⟩ (.int .i64 bo)).setCell ⟨gb, j * 3 + 2, none⟩ (.slice ao2 bn c2)) 39 gb n c' (bs'.set j ((bt, bo), ⟨ao2, bn, c2⟩)) := og3.put3 j hlt ((bt, bo), ⟨ao2, bn, c2⟩) (.string bt) (.int .i64 bo) (.slice ao2 bn c2) rfl
      have i4 := (i3.grown g3 (show ¬ (wr.alloc (.cells #[.string bt, .int .i64 bo, .slice ba bn bc] 39)).heap.size ≤ gb by omega)).imp (Q' := FrGN w.heap.size (some ⟨gb, 0, none⟩)) (fun b _ hb => ⟨Nat.le_trans (Nat.le_trans B2.size bA.size) hb, fun e => by have e' : gb = b := Option.some.inj e; have hb' : (wr.alloc (.cells #[.string bt, .int .i64 bo, .slice ba bn bc] 39)).heap.size ≤ b := hb; omega⟩)
      have B3 : Below w.heap.size w (((w3.setCell ⟨gb, j * 3, none⟩ (.string bt)).setCell ⟨gb, j * 3 + 1, none⟩ (.int .i64 bo)).setCell ⟨gb, j * 3 + 2, none⟩ (.slice ao2 bn c2)) := (B2.trans (bB.mono B2.size)).grown g3 (Nat.le_trans B2.size bB.size) (fun z hz => by cases hz; exact hgb)
      have hd3 : ∀ (k : Nat) (b : DC.β) (x : Chg), k < j → bs'[k]? = some b → ls[k]? = some x → DC.R (((w3.setCell ⟨gb, j * 3, none⟩ (.string bt)).setCell ⟨gb, j * 3 + 1, none⟩ (.int .i64 bo)).setCell ⟨gb, j * 3 + 2, none⟩ (.slice ao2 bn c2)) (FrGN w.heap.size (some ⟨gb, 0, none⟩)) b x := fun k b x hk h1 h2 => DC.grown (DC.past (hd.out k b x hk h1 h2) bB) g3 (fun h => h.2 rfl)
      have hjl : j < bs'.length := by rw [o2.len]; exact hlt
      have hd4 := set_low (nb := ((bt, bo), ⟨ao2, bn, c2⟩)) (P := fun b y => DC.R (((w3.setCell ⟨gb, j * 3, none⟩ (.string bt)).setCell ⟨gb, j * 3 + 1, none⟩ (.int .i64 bo)).setCell ⟨gb, j * 3 + 2, none⟩ (.slice ao2 bn c2)) (FrGN w.heap.size (some ⟨gb, 0, none⟩)) b y) hjl HX.out hd3 ⟨hrE.out, i4⟩
      have he3 := set_high (nb := ((bt, bo), ⟨ao2, bn, c2⟩)) he.out
      go_roundw
      case rel => exact ⟨j + 1, _, by omega, by go_num, ⟨.inr ⟨gb, rfl, hset, hgb⟩⟩, Lib.hid hd4, Lib.hid he3, B3⟩
      case measure => simp [intOf]; omega
    · have hlti : ¬ ((j : Int) < (n : Int)) := by omega
      obtain rfl : j = n := by omega
      go_wp2_with fail
      go_ret
      exact ⟨ao', c', bs', rfl, ⟨o2.zero, o2.geB, by rw [o2.len, hln], fun k b x hk hl => hd.out k b x (by have := (List.getElem?_eq_some_iff.1 hl).1; omega) hk hl⟩, B2⟩
set_option maxRecDepth 100000 in
set_option maxHeartbeats 1000000 in
theorem copyTx_any (w : World) (Q : Nat → Prop) (id : Int) (ao : Option Addr) (n c : Nat) (l : List (Chg)) (h : IsD DC w Q ao n c l) (hn : n ≤ 100000) (hcs : ∀ x ∈ l, x.2.length ≤ 100000) :
    Calls Tryd.prog 28 #[.agg #[.int .i64 id, .slice ao n c]] w fun e w' => ∃ ao' c', e = .returned (.agg #[.int .i64 id, .slice ao' n c']) ∧ IsD DC w' (FrG w.heap.size) ao' n c' l ∧ Below w.heap.size w w' := by
  have B0 : Below w.heap.size w ((w.alloc (.cells #[.int .i64 id, .slice ao n c] 32)).alloc (.cells #[.int .i64 0, .slice none 0 0] 32)) := ((Below.refl _ _).alloc (Nat.le_refl _) _).alloc (by simp) _
  have hP : Bk ((w.alloc (.cells #[.int .i64 id, .slice ao n c] 32)).alloc (.cells #[.int .i64 0, .slice none 0 0] 32)) w.heap.size #[.int .i64 id, .slice ao n c] 32 := (Bk.new w _ _).alloc _
  have hQ : Bk ((w.alloc (.cells #[.int .i64 id, .slice ao n c] 32)).alloc (.cells #[.int .i64 0, .slice none 0 0] 32)) (w.heap.size + 1) #[.int .i64 0, .slice none 0 0] 32 := by
    have := Bk.new (w.alloc (.cells #[.int .i64 id, .slice ao n c] 32)) #[.int .i64 0, .slice none 0 0] 32
    rwa [World.size_alloc] at this
  have h1 := h.past B0
  go_enter Tryd.func28, Tryd.ntmps28
  go_upto_region 1 with fail
  generalize (w.alloc (.cells #[.int .i64 id, .slice ao n c] 32)).alloc (.cells #[.int .i64 0, .slice none 0 0] 32) = W at B0 hP hQ h1 ⊢
  have hp0 : w.heap.size ≤ W.heap.size := B0.size
  obtain ⟨p, hp⟩ : ∃ p, w.heap.size = p := ⟨_, rfl⟩
  obtain ⟨q, hq⟩ : ∃ q, p + 1 = q := ⟨_, rfl⟩
  have HG := Lib.hid hp
  rw [hp] at hP hQ hp0
  rw [hq] at hQ
  simp only [hp, hq]
  have hpq : p ≠ q := by omega
  have hpq2 : p ≤ q := by omega
  clear hp hq h
  have hpW := hP.lt
  have hqW := hQ.lt
  obtain ⟨c0, c1⟩ : W.cell? ⟨p, 0, none⟩ = some (.int .i64 id) ∧ W.cell? ⟨p, 1, none⟩ = some (.slice ao n c) := ⟨hP.c rfl, hP.c rfl⟩
  have HC := copiedC_any W Q ao n c l h1 (by omega) hcs
  go_upto_region 2 with (go_at_call 39; refine HC.mono ?_; rintro e w1 ⟨ao', c', bs9, rfl, o1, b1⟩; have hP1 := hP.past b1; have fP := free_blk (i := 1) hP1; have cP : w1.cell? ⟨p, 1, none⟩ = some (.slice ao n c) := hP1.c rfl)
  have hP2 : Bk (w1.setCell ⟨p, 1, none⟩ (.slice ao' n c')) p #[.int .i64 id, .slice ao' n c'] 32 := (heap_setCell_same (i := 1) hP1).trans rfl
  have g2 : w1.grownBy (w1.setCell ⟨p, 1, none⟩ (.slice ao' n c')) (some p) := grown_cell (grown_self _ _) 1 _
  have hQ2 := (hQ.past b1).grown g2 (fun e => hpq (Option.some.inj e).symm)
  have o2 := (o1.isD).grown g2 (show ¬ W.heap.size ≤ p by omega)
  have B2 : Below w.heap.size w (w1.setCell ⟨p, 1, none⟩ (.slice ao' n c')) := (B0.trans (b1.mono B0.size)).grown g2 (Nat.le_trans B0.size b1.size) (fun z hz => by cases hz; exact Nat.le_of_eq HG.out)
  generalize w1.setCell ⟨p, 1, none⟩ (.slice ao' n c') = w2 at hP2 hQ2 o2 B2 ⊢
  clear hP1 fP cP g2 o1 b1 HC hP hQ c0 c1 h1
  obtain ⟨c0, c1⟩ : w2.cell? ⟨p, 0, none⟩ = some (.int .i64 id) ∧ w2.cell? ⟨p, 1, none⟩ = some (.slice ao' n c') := ⟨hP2.c rfl, hP2.c rfl⟩
  obtain ⟨f0, f1⟩ : w2.frozen? ⟨q, 0, none⟩ = false ∧ w2.frozen? ⟨q, 1, none⟩ = false := ⟨free_blk hQ2, free_blk hQ2⟩
  obtain ⟨d0, d1⟩ : w2.cell? ⟨q, 0, none⟩ = some (.int .i64 0) ∧ w2.cell? ⟨q, 1, none⟩ = some (.slice none 0 0) := ⟨hQ2.c rfl, hQ2.c rfl⟩
  go_wp2_with fail
  have g3 : w2.grownBy ((w2.setCell ⟨q, 0, none⟩ (.int .i64 id)).setCell ⟨q, 1, none⟩ (.slice ao' n c')) (some q) := grown_cell (grown_cell (grown_self _ _) 0 _) 1 _
  have hQ3 : Bk ((w2.setCell ⟨q, 0, none⟩ (.int .i64 id)).setCell ⟨q, 1, none⟩ (.slice ao' n c')) q #[.int .i64 id, .slice ao' n c'] 32 := by
    have h5 := (heap_setCell_same (i := 1) (v := .slice ao' n c') (heap_setCell_same (i := 0) (v := .int .i64 id) hQ2))
    exact h5
  have o3 := (o2.grown g3 (show ¬ W.heap.size ≤ q by omega)).imp (Q' := FrG w.heap.size) (fun b _ hb => Nat.le_trans B0.size hb)
  have B3 := B2.grown g3 B2.size (fun z hz => by cases hz; have := HG.out; omega)
  generalize ((w2.setCell ⟨q, 0, none⟩ (.int .i64 id)).setCell ⟨q, 1, none⟩ (.slice ao' n c')) = w3 at hQ3 o3 B3 ⊢
  obtain ⟨r0, r1⟩ : w3.cell? ⟨q, 0, none⟩ = some (.int .i64 id) ∧ w3.cell? ⟨q, 1, none⟩ = some (.slice ao' n c') := ⟨hQ3.c rfl, hQ3.c rfl⟩
  refine bodyPost_ret (v := .agg #[.int .i64 id, .slice ao' n c']) (by simp [results, Tryd.results28, go_sem, r0, r1]) rfl ?_
  exact ⟨_, _, rfl, o3, B3⟩
set_option maxRecDepth 100000 in
set_option maxHeartbeats 1000000 in
theorem copiedT_any (w : World) (Q : Nat → Prop) (ao : Option Addr) (n c : Nat) (ls : List (Txn)) (h : IsD DT w Q ao n c ls) (hn : n ≤ 100000) (hcs : ∀ x ∈ ls, x.2.length ≤ 100000 ∧ ∀ y ∈ x.2, y.2.length ≤ 100000) :
    Calls Tryd.prog 62 #[.slice ao n c, .func (.func 28) #[] #[]] w (CopiedIs DT 32 w n ls) := by
  have hln := h.len
  obtain ⟨bs, hb, -, hR⟩ := h
  have HC := kclone_tx w ao n c bs hb (by omega)
  go_enter Tryd.func62, Tryd.ntmps62
  go_upto_region 2 with (go_at_call 71; refine HC.mono ?_; rintro e w1 ⟨ao', c', rfl, o1, b1⟩)
  have hbl := o1.len
  go_wp2_with fail
  go_loopw [12] (fun i wr => ∃ (j : Nat) (bs' : List (DT.β)), j ≤ n ∧ i = .int .i64 (j : Nat) ∧ TxtR DT.E wr 32 w.heap.size ao' n c' bs' ∧ Hid (∀ (k : Nat) (b : DT.β) (x : Txn), k < j → bs'[k]? = some b → ls[k]? = some x → DT.R wr (FrGN w.heap.size ao') b x) ∧ Hid (∀ k, j ≤ k → bs'[k]? = bs[k]?) ∧ Below w.heap.size w wr) (fun i _ => n - (intOf i).toNat)
  case atStart => exact ⟨0, bs, Nat.zero_le _, rfl, o1, Lib.hid fun k b x hk => absurd hk (Nat.not_lt_zero k), Lib.hid fun k _ => rfl, b1⟩
  case round =>
    clear HC o1 b1 hb
    obtain ⟨j, bs', hj, rfl, o2, hd, he, B2⟩ := hrel
    by_cases hlt : j < n
    · have hlti : (j : Int) < (n : Int) := by omega
      obtain ⟨x, hx⟩ : ∃ x, ls[j]? = some x := ⟨ls[j]'(by omega), List.getElem?_eq_getElem _⟩
      obtain ⟨b, hb0, hr0⟩ := hR.get hx
      have hb1 : bs'[j]? = some b := (he.out j (Nat.le_refl _)).trans hb0
      have hr := DT.past hr0 B2
      rcases o2.either with ⟨-, h0, -, -⟩ | ⟨gb, rfl, og, hgb⟩
      · omega
      have hgl := og.lt
      have hcl : ∀ k u, (DT.E.f b)[k]? = some u → wr.cell? ⟨gb, j * DT.E.sz + k, none⟩ = some u := fun k u hu => by
        have hk := (List.getElem?_eq_some_iff.1 hu).1
        rw [DT.E.len] at hk
        exact og.cell _ _ (by rw [DT.E.all_get bs' j k b hb1 hk]; exact hu)
      have hxl := List.mem_of_getElem? hx
      have hcl : ∀ k u, (DT.E.f b)[k]? = some u → wr.cell? ⟨gb, j * 2 + k, none⟩ = some u := hcl
      obtain ⟨bi, ⟨ba, bn, bc⟩⟩ := b
      have y0 : wr.cell? ⟨gb, j * 2, none⟩ = some (.int .i64 bi) := hcl 0 _ rfl
      have y1 : wr.cell? ⟨gb, j * 2 + 1, none⟩ = some (.slice ba bn bc) := hcl 1 _ rfl
      have bA : Below wr.heap.size wr (wr.alloc (.cells #[.int .i64 bi, .slice ba bn bc] 32)) := (Below.refl _ _).alloc (Nat.le_refl _) _
      have hgl2 : gb < (wr.alloc (.cells #[.int .i64 bi, .slice ba bn bc] 32)).heap.size := Nat.lt_of_lt_of_le hgl bA.size
      have hr2 := DT.past hr bA
      have HF := copyTx_any (wr.alloc (.cells #[.int .i64 bi, .slice ba bn bc] 32)) Q bi ba bn bc x.2 hr2.2 (by have h9 := hr2.2.len; simp only at h9; have := (hcs x hxl).1; omega) (hcs x hxl).2
      have HX := Lib.hid hx
      have hrE : Hid (bi = x.1) := Lib.hid hr.1
      clear hx hcl hr hr2 hr0 hb0 hb1
      go_wp2_with (go_at_call 28; refine HF.mono ?_; rintro e w3 ⟨ao2, c2, rfl, i3, b3⟩; have og3 := og.past (bA.trans (b3.mono bA.size)); have v0 : w3.cell? ⟨gb, j * 2, none⟩ = some (.int .i64 bi) := (b3.cell hgl2).trans ((bA.cell hgl).trans y0); have v1 : w3.cell? ⟨gb, j * 2 + 1, none⟩ = some (.slice ba bn bc) := (b3.cell hgl2).trans ((bA.cell hgl).trans y1); have q0 : w3.frozen? ⟨gb, j * 2, none⟩ = false := og3.freeD _; have q1 : w3.frozen? ⟨gb, j * 2 + 1, none⟩ = false := og3.freeD _)
      have bB : Below wr.heap.size wr w3 := bA.trans (b3.mono bA.size)
      have g3 : w3.grownBy ((w3.setCell ⟨gb, j * 2, none⟩ (.int .i64 bi)).setCell ⟨gb, j * 2 + 1, none⟩ (.slice ao2 bn c2)) (some gb) := grown_cell (grown_cell (grown_self _ _) _ _) _ _
      have hset : OwnR DT.E ((w3.setCell ⟨gb, j * 2, none⟩ (.int .i64 bi)).setCell ⟨gb, j * 2 + 1, none⟩ (.slice ao2 bn c2)) 32 gb n c' (bs'.set j (bi, ⟨ao2, bn, c2⟩)) := og3.put2 j hlt (bi, ⟨ao2, bn, c2⟩) (.int .i64 bi) (.slice ao2 bn c2) rfl
      have i4 := (i3.grown g3 (show ¬ (wr.alloc (.cells #[.int .i64 bi, .slice ba bn bc] 32)).heap.size ≤ gb by omega)).imp (Q' := FrGN w.heap.size (some ⟨gb, 0, none⟩)) (fun b _ hb => ⟨Nat.le_trans (Nat.le_trans B2.size bA.size) hb, fun e => by have e' : gb = b := Option.some.inj e; have hb' : (wr.alloc (.cells #[.int .i64 bi, .slice ba bn bc] 32)).heap.size ≤ b := hb; omega⟩)
      have B3 : Below w.heap.size w ((w3.setCell ⟨gb, j * 2, none⟩ (.int .i64 bi)).setCell ⟨gb, j * 2 + 1, none⟩ (.slice ao2 bn c2)) := (B2.trans (bB.mono B2.size)).grown g3 (Nat.le_trans B2.size bB.size) (fun z hz => by cases hz; exact hgb)
      have hd3 : ∀ (k : Nat) (b : DT.β) (x : Txn), k < j → bs'[k]? = some b → ls[k]? = some x → DT.R ((w3.setCell ⟨gb, j * 2, none⟩ (.int .i64 bi)).setCell ⟨gb, j * 2 + 1, none⟩ (.slice ao2 bn c2)) (FrGN w.heap.size (some ⟨gb, 0, none⟩)) b x := fun k b x hk h1 h2 => DT.grown (DT.past (hd.out k b x hk h1 h2) bB) g3 (fun h => h.2 rfl)
      have hjl : j < bs'.length := by rw [o2.len]; exact hlt
      have hd4 := set_low (nb := (bi, ⟨ao2, bn, c2⟩)) (P := fun b y => DT.R ((w3.setCell ⟨gb, j * 2, none⟩ (.int .i64 bi)).setCell ⟨gb, j * 2 + 1, none⟩ (.slice ao2 bn c2)) (FrGN w.heap.size (some ⟨gb, 0, none⟩)) b y) hjl HX.out hd3 ⟨hrE.out, i4⟩
      have he3 := set_high (nb := (bi, ⟨ao2, bn, c2⟩)) he.out
      go_roundw
      case rel => exact ⟨j + 1, _, by omega, by go_num, ⟨.inr ⟨gb, rfl, hset, hgb⟩⟩, Lib.hid hd4, Lib.hid he3, B3⟩
      case measure => simp [intOf]; omega
    · have hlti : ¬ ((j : Int) < (n : Int)) := by omega
      obtain rfl : j = n := by omega
      go_wp2_with fail
      go_ret
      exact ⟨ao', c', bs', rfl, ⟨o2.zero, o2.geB, by rw [o2.len, hln], fun k b x hk hl => hd.out k b x (by have := (List.getElem?_eq_some_iff.1 hl).1; omega) hk hl⟩, B2⟩
set_option maxRecDepth 100000 in
theorem copyTxs_any (w : World) (Q : Nat → Prop) (ao : Option Addr) (n c : Nat) (ls : List Txn) (h : IsD DT w Q ao n c ls) (hn : n ≤ 100000) (hcs : ∀ x ∈ ls, x.2.length ≤ 100000 ∧ ∀ y ∈ x.2, y.2.length ≤ 100000) :
    Calls Tryd.prog 43 #[.slice ao n c] w (CopiedIs DT 32 w n ls) := by
  have HC := copiedT_any w Q ao n c ls h hn hcs
  go_enter Tryd.func43, Tryd.ntmps43
  go_wp2_with (go_at_call 62; refine HC.mono ?_; rintro e w1 ⟨ao', c', bs', rfl, o1, b1⟩)
  go_ret
  exact ⟨ao', c', bs', rfl, o1, b1⟩
set_option maxRecDepth 100000 in
set_option maxHeartbeats 1000000 in
theorem copiedS_any (w : World) (Q : Nat → Prop) (ao : Option Addr) (n c : Nat) (ls : List (List Txn)) (h : IsD DTs w Q ao n c ls) (hn : n ≤ 100000) (hcs : ∀ x ∈ ls, x.length ≤ 100000 ∧ ∀ y ∈ x, y.2.length ≤ 100000 ∧ ∀ z ∈ y.2, z.2.length ≤ 100000) :
    Calls Tryd.prog 45 #[.slice ao n c, .func (.func 43) #[] #[]] w (CopiedIs DTs 25 w n ls) := by
  have hln := h.len
  obtain ⟨bs, hb, -, hR⟩ := h
  have HC := kclone_txs w ao n c bs hb (by omega)
  go_enter Tryd.func45, Tryd.ntmps45
  go_upto_region 2 with (go_at_call 63; refine HC.mono ?_; rintro e w1 ⟨ao', c', rfl, o1, b1⟩)
  have hbl := o1.len
  go_wp2_with fail
  go_loopw [12] (fun i wr => ∃ (j : Nat) (bs' : List (DTs.β)), j ≤ n ∧ i = .int .i64 (j : Nat) ∧ TxtR DTs.E wr 25 w.heap.size ao' n c' bs' ∧ Hid (∀ (k : Nat) (b : DTs.β) (x : List Txn), k < j → bs'[k]? = some b → ls[k]? = some x → DTs.R wr (FrGN w.heap.size ao') b x) ∧ Hid (∀ k, j ≤ k → bs'[k]? = bs[k]?) ∧ Below w.heap.size w wr) (fun i _ => n - (intOf i).toNat)
  case atStart => exact ⟨0, bs, Nat.zero_le _, rfl, o1, Lib.hid fun k b x hk => absurd hk (Nat.not_lt_zero k), Lib.hid fun k _ => rfl, b1⟩
  case round =>
    clear HC o1 b1 hb
    obtain ⟨j, bs', hj, rfl, o2, hd, he, B2⟩ := hrel
    by_cases hlt : j < n
    · have hlti : (j : Int) < (n : Int) := by omega
      obtain ⟨x, hx⟩ : ∃ x, ls[j]? = some x := ⟨ls[j]'(by omega), List.getElem?_eq_getElem _⟩
      obtain ⟨b, hb0, hr0⟩ := hR.get hx
      have hb1 : bs'[j]? = some b := (he.out j (Nat.le_refl _)).trans hb0
      have hr := DTs.past hr0 B2
      rcases o2.either with ⟨-, h0, -, -⟩ | ⟨gb, rfl, og, hgb⟩
      · omega
      have hgl := og.lt
      have hcl : ∀ k u, (DTs.E.f b)[k]? = some u → wr.cell? ⟨gb, j * DTs.E.sz + k, none⟩ = some u := fun k u hu => by
        have hk := (List.getElem?_eq_some_iff.1 hu).1
        rw [DTs.E.len] at hk
        exact og.cell _ _ (by rw [DTs.E.all_get bs' j k b hb1 hk]; exact hu)
      have hxl := List.mem_of_getElem? hx
      have hcl : ∀ k u, (DTs.E.f b)[k]? = some u → wr.cell? ⟨gb, j + k, none⟩ = some u := by simpa only [show DTs.E.sz = 1 from rfl, Nat.mul_one] using hcl
      obtain ⟨ba, bn, bc⟩ := b
      have y0 : wr.cell? ⟨gb, j, none⟩ = some (.slice ba bn bc) := hcl 0 _ rfl
      have bA : Below wr.heap.size wr (wr) := Below.refl _ _
      have hgl2 : gb < (wr).heap.size := Nat.lt_of_lt_of_le hgl bA.size
      have hr2 := DTs.past hr bA
      have HF := copyTxs_any (wr) Q ba bn bc x hr2 (by have h9 := hr2.len; simp only at h9; have := (hcs x hxl).1; omega) (hcs x hxl).2
      have HX := Lib.hid hx
      clear hx hcl hr hr2 hr0 hb0 hb1
      go_wp2_with (go_at_call 43; refine HF.mono ?_; rintro e w3 ⟨ao2, c2, bs9, rfl, i39, b3⟩; have i3 := i39.isD; have og3 := og.past (bA.trans (b3.mono bA.size)); have v0 : w3.cell? ⟨gb, j, none⟩ = some (.slice ba bn bc) := (b3.cell hgl2).trans (y0); have q0 : w3.frozen? ⟨gb, j, none⟩ = false := og3.freeD _)
      have bB : Below wr.heap.size wr w3 := bA.trans (b3.mono bA.size)
      have g3 : w3.grownBy (w3.setCell ⟨gb, j, none⟩ (.slice ao2 bn c2)) (some gb) := grown_cell (grown_self _ _) _ _
      have hset : OwnR DTs.E (w3.setCell ⟨gb, j, none⟩ (.slice ao2 bn c2)) 25 gb n c' (bs'.set j (⟨ao2, bn, c2⟩ : HdR)) := og3.put1 j hlt (⟨ao2, bn, c2⟩ : HdR) (.slice ao2 bn c2) rfl
      have i4 := (i3.grown g3 (show ¬ (wr).heap.size ≤ gb by omega)).imp (Q' := FrGN w.heap.size (some ⟨gb, 0, none⟩)) (fun b _ hb => ⟨Nat.le_trans (Nat.le_trans B2.size bA.size) hb, fun e => by have e' : gb = b := Option.some.inj e; have hb' : (wr).heap.size ≤ b := hb; omega⟩)
      have B3 : Below w.heap.size w (w3.setCell ⟨gb, j, none⟩ (.slice ao2 bn c2)) := (B2.trans (bB.mono B2.size)).grown g3 (Nat.le_trans B2.size bB.size) (fun z hz => by cases hz; exact hgb)
      have hd3 : ∀ (k : Nat) (b : DTs.β) (x : List Txn), k < j → bs'[k]? = some b → ls[k]? = some x → DTs.R (w3.setCell ⟨gb, j, none⟩ (.slice ao2 bn c2)) (FrGN w.heap.size (some ⟨gb, 0, none⟩)) b x := fun k b x hk h1 h2 => DTs.grown (DTs.past (hd.out k b x hk h1 h2) bB) g3 (fun h => h.2 rfl)
      have hjl : j < bs'.length := by rw [o2.len]; exact hlt
      have hd4 := set_low (nb := (⟨ao2, bn, c2⟩ : HdR)) (P := fun b y => DTs.R (w3.setCell ⟨gb, j, none⟩ (.slice ao2 bn c2)) (FrGN w.heap.size (some ⟨gb, 0, none⟩)) b y) hjl HX.out hd3 i4
      have he3 := set_high (nb := (⟨ao2, bn, c2⟩ : HdR)) he.out
      go_roundw
      case rel => exact ⟨j + 1, _, by omega, by go_num, ⟨.inr ⟨gb, rfl, hset, hgb⟩⟩, Lib.hid hd4, Lib.hid he3, B3⟩
      case measure => simp [intOf]; omega
    · have hlti : ¬ ((j : Int) < (n : Int)) := by omega
      obtain rfl : j = n := by omega
      go_wp2_with fail
      go_ret
      exact ⟨ao', c', bs', rfl, ⟨o2.zero, o2.geB, by rw [o2.len, hln], fun k b x hk hl => hd.out k b x (by have := (List.getElem?_eq_some_iff.1 hl).1; omega) hk hl⟩, B2⟩
end Go.Proofs.YtdmnjjknkcnkgaaDoor
namespace Go.Proofs.YtdmnjjknkcnkgaaDoor
open Go.RowKit

set_option maxHeartbeats 400000 in
/-- longer(b, more): a new slice of the same bytes. -/
theorem longer_any (ao : Option Addr) (n cap : Nat) (l : List UInt8) (more : Int) (w : World) (h : IsB w ao n cap l) (hn : n ≤ 1000000) (hm : 0 ≤ more ∧ more ≤ 1000000) :
    Calls Tryd.prog 35 #[.slice ao n cap, .int .i64 more] w (Fresh w n l) := by
  obtain ⟨m, rfl⟩ := Int.eq_ofNat_of_zero_le hm.1
  obtain ⟨i0, hi, hz0, hz1, hz2⟩ := info_parts info_u8
  have hm2 : m ≤ 1000000 := by omega
  clear hm
  go_enter Tryd.func35, Tryd.ntmps35
  go_wp2_with (first | (at_make; refine wpList_make_ob rfl _ _ 44 rfl 5 byteTy .i64 .i64 _ (n + m) rfl rfl (by omega) (by omega) ?_; intro w1 h1 hb1) | (at_builtin; refine wpList_append_ob rfl _ _ 44 44 rfl 5 byteTy _ 0 (n + m) [] rfl h1 _ rfl n l ((h.past hb1).src byteTy.ht) n (by omega) l rfl (by omega) ?_; intro g2 cap2 w2 ho2 hp2 hg2))
  go_ret
  have hs1 := h1.lt
  exact ⟨g2, cap2, rfl, ho2, hb1.trans (hp2.below (Nat.le_refl _) hb1.size), by omega⟩

def XU (x : Int) : Nat := (x % 18446744073709551616).toNat

theorem XU_lt (x : Int) : XU x < 18446744073709551616 := by unfold XU; omega
theorem u64_wrap (x : Int) : IntKind.u64.wrap x = (XU x : Int) := by
  simp [IntKind.wrap, IntKind.bits, IntKind.signed, XU]; omega

set_option maxHeartbeats 400000 in
theorem low_any (g n cap : Nat) (l : List UInt8) (x : Int) (k : Nat) (K : Int) (hK : K = (k : Int)) (w : World) (h : OwnB w 5 g n cap l) (hn : n ≤ 1000000) (hk : k ≤ 8) :
    Calls Tryd.prog 34 #[.slice (some ⟨g, 0, none⟩) n cap, .int .i64 x, .int .i64 K] w (Went w g n (n + k) (l ++ le k (XU x))) := by
  subst hK
  have hlt := Lib.hid (XU_lt x)
  go_enter Tryd.func34, Tryd.ntmps34
  go_wp2_with fail
  go_loopw [0, 7, 11] (fun v u i wr => ∃ j g' cap' q, j ≤ k ∧ i = .int .i64 (j : Nat) ∧ Hid (q = XU x / 256 ^ j) ∧ u = .int .u64 (q : Nat) ∧ v = .slice (some ⟨g', 0, none⟩) (n + j) cap' ∧ OwnB wr 5 g' (n + j) cap' (l ++ le j (XU x)) ∧ Puts w wr g n ∧ (g' = g ∨ w.heap.size ≤ g')) (fun _ _ i _ => k - (intOf i).toNat)
  case atStart => exact ⟨0, g, cap, XU x, by omega, rfl, by simp [Hid], by rw [u64_wrap], rfl, by simpa [le] using h, Puts.refl _ _ _, .inl rfl⟩
  case round =>
    obtain ⟨j, g', cap', q, hj, rfl, hq, rfl, rfl, ho, hp, hg'⟩ := hrel
    have hq0 : q ≤ XU x := by rw [hq.out]; exact Nat.div_le_self _ _
    have hq1 : q < 18446744073709551616 := by have := hlt.out; omega
    have hg := h.lt
    have HL : Hid (l ++ le j (XU x) ++ [UInt8.ofNat (q % 256)] = l ++ le (j + 1) (XU x)) := by rw [hq.out, le_snoc, List.append_assoc]; exact rfl
    clear hq0
    by_cases hlt' : j < k
    · go_wp2_with (at_builtin; refine wpList_append_ob rfl _ _ 44 44 rfl 5 byteTy g' (n + j) cap' (l ++ le j (XU x)) rfl (ho.alloc _) _ rfl 1 [UInt8.ofNat (q % 256)] (src_one byteTy.ht _ _ _ (bc_mod q)) (n + (j + 1)) (by omega) (l ++ le (j + 1) (XU x)) HL.out (by omega) ?_; intro g2 cap2 w2 ho2 hp2 hg2)
      go_roundw
      case rel =>
        exact ⟨j + 1, g2, cap2, q / 256, by omega, by go_num, by unfold Hid; rw [hq.out, Nat.div_div_eq_div_mul, ← Nat.pow_succ], by go_num, rfl, ho2, (hp.alloc _ hg).trans hp2 (by omega), by have := hp.size; simp at hg2; omega⟩
      case measure => simp [intOf]; omega
    · go_wp2_with fail
      go_ret
      obtain rfl : j = k := by omega
      exact ⟨g', cap', rfl, ho, hp, hg'⟩
end Go.Proofs.YtdmnjjknkcnkgaaDoor
namespace Go.Proofs.YtdmnjjknkcnkgaaDoor
open Go.RowKit

set_option maxHeartbeats 400000 in
theorem int_any (ao : Option Addr) (n cap : Nat) (l : List UInt8) (x : Int) (w : World) (h : IsB w ao n cap l) (hn : n ≤ 900000) :
    Calls Tryd.prog 22 #[.slice ao n cap, .int .i64 x] w (Fresh w (n + 8) (l ++ le 8 (XU x))) := by
  go_enter Tryd.func22, Tryd.ntmps22
  go_wp2_with (first | (go_at_call 35; refine (longer_any ao n cap l 8 _ h (by omega) (by omega)).mono ?_; rintro e w1 ⟨g1, c1, rfl, h1, hb1, hg1⟩) | (go_at_call 34; refine (low_any g1 n c1 l x 8 _ rfl _ h1 (by omega) (by omega)).mono ?_; rintro e w2 ⟨g2, c2, rfl, h2, hp2, hg2⟩))
  go_ret
  exact ⟨g2, c2, rfl, h2, hb1.trans (hp2.below hg1 hb1.size), by have := hb1.size; omega⟩

end Go.Proofs.YtdmnjjknkcnkgaaDoor
namespace Go.Proofs.YtdmnjjknkcnkgaaDoor
open Go.RowKit

theorem isB_of_row {w : World} {a : Option Addr} {len cap : Nat} {zs : List Int}
    (h : (a = none ∧ len = 0 ∧ cap = 0 ∧ zs = []) ∨ ∃ x, a = some x ∧ len ≤ cap ∧ cap ≤ maxLen ∧ zs.length = cap ∧ (∀ i, i < zs.length → w.cell? (x.add i) = some (.int .u8 (zs.getD i 0))) ∧ ∀ n ∈ zs, (Lit.int .u8 n).wf = true) :
    ∃ l, IsB w a len cap l := by
  rcases h with ⟨rfl, rfl, rfl, rfl⟩ | ⟨x, rfl, h1, h2, h3, h4, h5⟩
  · exact ⟨[], IsB.nilB w⟩
  · refine ⟨(zs.take len).map fun n => UInt8.ofNat n.toNat, by simp; omega, h1, h2, fun h => (by cases h), fun a ha j u hu => ?_⟩
    obtain rfl := Option.some.inj ha
    rw [List.getElem?_map] at hu
    obtain ⟨z, hz, rfl⟩ := Option.map_eq_some_iff.1 hu
    have hj : j < zs.length := by
      have := (List.getElem?_eq_some_iff.1 hz).1
      simp at this
      omega
    have hz' : zs[j]? = some z := by
      rw [List.getElem?_take] at hz
      split at hz
      · exact hz
      · cases hz
    rw [h4 j hj]
    have hg : zs.getD j 0 = z := by simp [List.getD, hz']
    have hw := h5 z (List.mem_of_getElem? hz')
    have hb := bounds_u8 hw
    rw [hg, bc]
    simp only [Option.some.injEq, Value.int.injEq, true_and, UInt8.toNat_ofNat']
    omega

theorem u8_of {a : Int} (h : (Lit.int .u8 a).wf = true) : ∃ u : UInt8, a = (u.toNat : Int) := by
  have := bounds_u8 h
  exact ⟨UInt8.ofNat a.toNat, by rw [UInt8.toNat_ofNat']; omega⟩
end Go.Proofs.YtdmnjjknkcnkgaaDoor
namespace Go.Proofs.YtdmnjjknkcnkgaaDoor
open Go.RowKit

theorem int_nil (x : Int) (w : World) : Calls Tryd.prog 22 #[.slice none 0 0, .int .i64 x] w (Fresh w 8 (le 8 (XU x))) :=
  int_any none 0 0 [] x w (IsB.nilB w) (by omega)
end Go.Proofs.YtdmnjjknkcnkgaaDoor
namespace Go.Proofs.YtdmnjjknkcnkgaaDoor
open Go.RowKit

set_option maxHeartbeats 400000 in
theorem byte_any (ao : Option Addr) (n cap : Nat) (l : List UInt8) (x : Int) (w : World) (h : IsB w ao n cap l) (hn : n ≤ 900000) :
    Calls Tryd.prog 23 #[.slice ao n cap, .int .i64 x] w (Fresh w (n + 1) (l ++ le 1 (XU x))) := by
  go_enter Tryd.func23, Tryd.ntmps23
  go_wp2_with (first | (go_at_call 35; refine (longer_any ao n cap l 1 _ h (by omega) (by omega)).mono ?_; rintro e w1 ⟨g1, c1, rfl, h1, hb1, hg1⟩) | (go_at_call 34; refine (low_any g1 n c1 l x 1 _ rfl _ h1 (by omega) (by omega)).mono ?_; rintro e w2 ⟨g2, c2, rfl, h2, hp2, hg2⟩))
  go_ret
  exact ⟨g2, c2, rfl, h2, hb1.trans (hp2.below hg1 hb1.size), by have := hb1.size; omega⟩

/-- What stands for a text of the bytes s. -/
def tx (s : List UInt8) : List UInt8 := le 2 (s.take 65535).length ++ s.take 65535

theorem cut_list (s : ByteArray) (k : Nat) : (s.extract 0 k).data.toList = s.data.toList.take k := by
  rw [Lib.extract_data]; simp

set_option maxHeartbeats 400000 in
theorem text_any (ao : Option Addr) (n cap : Nat) (l : List UInt8) (s : ByteArray) (w : World) (h : IsB w ao n cap l) (hn : n ≤ 800000) :
    Calls Tryd.prog 24 #[.slice ao n cap, .string s] w (Fresh w (n + (tx s.data.toList).length) (l ++ tx s.data.toList)) := by
  obtain ⟨k, e1, e2, hk, h1⟩ : ∃ k : Nat, min (s.size : Int) 65535 = (k : Int) ∧ min k s.size = k ∧ k ≤ 65535 ∧ Hid (tx s.data.toList = le 2 k ++ s.data.toList.take k) := by
    have hl : s.data.toList.length = s.size := by simp
    refine ⟨min s.size 65535, by omega, by omega, by omega, ?_⟩
    have e : s.data.toList.take 65535 = s.data.toList.take (min s.size 65535) := by
      rcases Nat.le_total s.size 65535 with h | h
      · rw [Nat.min_eq_left h, List.take_of_length_le (by omega), List.take_of_length_le (by omega)]
      · rw [Nat.min_eq_right h]
    unfold Hid tx
    rw [e, List.length_take, hl]
    congr 1
    congr 1
    omega
  have hks : Hid ((s.data.toList.take k).length = k) := by
    have hl : s.data.toList.length = s.size := by simp
    unfold Hid
    rw [List.length_take]
    omega
  have hsz : Hid ((tx s.data.toList).length = 2 + k) := by unfold Hid; rw [h1.out, List.length_append, le_length, hks.out]
  have hcut : Hid (byteCells (s.extract 0 k) = bcs (s.data.toList.take k)) := by unfold Hid; rw [byteCells_bcs, cut_list]
  have hsrc : ∀ w', Src Tryd.prog 1 9 (.string (s.extract 0 k)) k (bcs (s.data.toList.take k)) w' := fun w' => by
    have := Src.ofString (P := Tryd.prog) w' Tryd.underlying9 (s.extract 0 k)
    rw [hcut.out] at this
    have e : (s.extract 0 k).size = k := by simpa using e2
    rw [e] at this
    exact this
  have HS := Lib.hid hsrc
  clear hsrc
  go_enter Tryd.func24, Tryd.ntmps24
  go_wp2_with (first | (go_at_call 35; refine (longer_any ao n cap l (2 + k) _ h (by omega) (by omega)).mono ?_; rintro e w1 ⟨g1, c1, rfl, h2, hb1, hg1⟩) | (go_at_call 34; refine (low_any g1 n c1 l k 2 _ rfl _ h2 (by omega) (by omega)).mono ?_; rintro e w2 ⟨g2, c2, rfl, h3, hp2, hg2⟩) | (at_builtin; refine wpList_append_ob rfl _ _ 44 9 rfl 5 byteTy g2 (n + 2) c2 _ rfl h3 _ rfl k _ (HS.out _) (n + (2 + k)) (by omega) _ rfl (by omega) ?_; intro g3 c3 w3 h4 hp3 hg3))
  go_ret
  have hx : XU (k : Int) = k := by unfold XU; omega
  rw [hx, List.append_assoc, ← h1.out, ← hsz.out] at h4
  rw [← hsz.out]
  have s1 := hb1.size
  have s2 := hp2.size
  exact ⟨g3, c3, rfl, h4, (hb1.trans (hp2.below hg1 s1)).trans (hp3.below (by omega) (by omega)), by omega⟩
end Go.Proofs.YtdmnjjknkcnkgaaDoor
namespace Go.Proofs.YtdmnjjknkcnkgaaDoor
open Go.RowKit

theorem byte_nil (x : Int) (w : World) : Calls Tryd.prog 23 #[.slice none 0 0, .int .i64 x] w (Fresh w 1 (le 1 (XU x))) :=
  byte_any none 0 0 [] x w (IsB.nilB w) (by omega)
theorem text_nil (s : ByteArray) (w : World) : Calls Tryd.prog 24 #[.slice none 0 0, .string s] w (Fresh w (tx s.data.toList).length (tx s.data.toList)) := by
  have h := text_any none 0 0 [] s w (IsB.nilB w) (by omega)
  rw [Nat.zero_add] at h
  exact h

/-- A text of no more than 65535 bytes. -/
theorem text_small (ao : Option Addr) (n cap : Nat) (l : List UInt8) (s : ByteArray) (w : World) (h : IsB w ao n cap l) (hn : n ≤ 800000) (hs : s.size ≤ 65535) :
    Calls Tryd.prog 24 #[.slice ao n cap, .string s] w (Fresh w (n + (2 + s.size)) (l ++ (le 2 s.size ++ s.data.toList))) := by
  have hl : s.data.toList.length = s.size := by simp
  have e : tx s.data.toList = le 2 s.size ++ s.data.toList := by unfold tx; rw [List.take_of_length_le (by omega), hl]
  have := text_any ao n cap l s w h hn
  rw [e, List.length_append, le_length, hl] at this
  exact this
theorem text_small_nil (s : ByteArray) (w : World) (hs : s.size ≤ 65535) : Calls Tryd.prog 24 #[.slice none 0 0, .string s] w (Fresh w (2 + s.size) (le 2 s.size ++ s.data.toList)) := by
  have h := text_small none 0 0 [] s w (IsB.nilB w) (by omega) hs
  rw [Nat.zero_add] at h
  exact h

end Go.Proofs.YtdmnjjknkcnkgaaDoor
namespace Go.Proofs.YtdmnjjknkcnkgaaDoor
open Go.RowKit
/-- Block g holds a value, and may be written. -/
structure VAt (w : World) (g : Nat) (k n : Int) (s : ByteArray) : Prop where
  c0 : w.cell? ⟨g, 0, none⟩ = some (.int .i64 k)
  c1 : w.cell? ⟨g, 1, none⟩ = some (.int .i64 n)
  c2 : w.cell? ⟨g, 2, none⟩ = some (.string s)
  f0 : w.frozen? ⟨g, 0, none⟩ = false
  f1 : w.frozen? ⟨g, 1, none⟩ = false
  f2 : w.frozen? ⟨g, 2, none⟩ = false
  lt : g < w.heap.size
section
variable {w w' : World} {g : Nat} {k n : Int} {s : ByteArray}
theorem VAt.past (h : VAt w g k n s) (b : Below w.heap.size w w') : VAt w' g k n s :=
  ⟨(b.cell h.lt).trans h.c0, (b.cell h.lt).trans h.c1, (b.cell h.lt).trans h.c2, (b.frozen h.lt).trans h.f0, (b.frozen h.lt).trans h.f1, (b.frozen h.lt).trans h.f2, Nat.lt_of_lt_of_le h.lt b.size⟩
theorem VAt.grown {row : Option Nat} (h : VAt w g k n s) (b : w.grownBy w' row) (hne : some g ≠ row) : VAt w' g k n s := by
  have hb := b.block g h.lt hne
  have ec : ∀ j, w'.cell? ⟨g, j, none⟩ = w.cell? ⟨g, j, none⟩ := fun j => World.cell?_of_block (w := w) hb
  have ef : ∀ j, w'.frozen? ⟨g, j, none⟩ = w.frozen? ⟨g, j, none⟩ := fun j => by simp [World.frozen?, hb]
  exact ⟨(ec _).trans h.c0, (ec _).trans h.c1, (ec _).trans h.c2, (ef _).trans h.f0, (ef _).trans h.f1, (ef _).trans h.f2, Nat.lt_of_lt_of_le h.lt b.size⟩
theorem VAt.alloc (h : VAt w g k n s) (o : Obj) : VAt (w.alloc o) g k n s := h.past ((Below.refl _ _).alloc (Nat.le_refl _) o)
theorem VAt.drew (h : VAt w g k n s) : VAt w.drew g k n s := h.past (Below.refl _ _).drew
theorem VAt.new (w : World) (k n : Int) (s : ByteArray) : VAt (w.alloc (.cells #[.int .i64 k, .int .i64 n, .string s] 36)) w.heap.size k n s :=
  ⟨by go_simp, by go_simp, by go_simp, by go_simp, by go_simp, by go_simp, by simp⟩
theorem VAt.set (h : VAt w g k n s) (k' n' : Int) (s' : ByteArray) : VAt (((w.setCell ⟨g, 0, none⟩ (.int .i64 k')).setCell ⟨g, 1, none⟩ (.int .i64 n')).setCell ⟨g, 2, none⟩ (.string s')) g k' n' s' := by
  obtain ⟨c0, c1, c2, f0, f1, f2, lt⟩ := h
  exact ⟨by go_simp, by go_simp, by go_simp, by go_simp, by go_simp, by go_simp, by simp [lt]⟩
theorem VAt.far (h : VAt w g k n s) {g' : Nat} (hne : g' ≠ g) (j : Nat) (v : Value) : VAt (w.setCell ⟨g', j, none⟩ v) g k n s := by
  obtain ⟨c0, c1, c2, f0, f1, f2, lt⟩ := h
  have hne' : g ≠ g' := fun h => hne h.symm
  exact ⟨by go_simp, by go_simp, by go_simp, by go_simp, by go_simp, by go_simp, by simp [lt]⟩
/-- Block g holds a byte. -/
structure UAt (w : World) (g : Nat) (u : UInt8) : Prop where
  c0 : w.cell? ⟨g, 0, none⟩ = some (.int .u8 (u.toNat : Int))
  lt : g < w.heap.size
theorem UAt.past {u : UInt8} (h : UAt w g u) (b : Below w.heap.size w w') : UAt w' g u := ⟨(b.cell h.lt).trans h.c0, Nat.lt_of_lt_of_le h.lt b.size⟩
theorem UAt.new (w : World) (u : UInt8) : UAt (w.alloc (.cells #[.int .u8 (u.toNat : Int)] 5)) w.heap.size u := ⟨by go_simp, by simp⟩
theorem UAt.far {u : UInt8} (h : UAt w g u) {g' : Nat} (hne : g' ≠ g) (j : Nat) (v : Value) : UAt (w.setCell ⟨g', j, none⟩ v) g u := by
  obtain ⟨c0, lt⟩ := h
  have hne' : g ≠ g' := fun h => hne h.symm
  exact ⟨by go_simp, by simp [lt]⟩
end
theorem one_conv (w : World) (g : Nat) (u : UInt8) (h : w.cell? ⟨g, 0, none⟩ = some (.int .u8 (u.toNat : Int))) : (convert 44 9 (.slice (some ⟨g, 0, none⟩) 1 1)).run Tryd.prog w = .ok (.string ⟨#[u]⟩) w := by
  have hb : IsB w (some ⟨g, 0, none⟩) 1 1 [u] := by
    refine ⟨rfl, Nat.le_refl _, by simp [maxLen], (fun h => by cases h), fun a ha j v hv => ?_⟩
    obtain rfl := Option.some.inj ha
    cases j with
    | zero =>
      obtain rfl : u = v := by simpa using hv
      exact h
    | succ j => simp at hv
  exact hb.conv byteTy Tryd.underlying9
end Go.Proofs.YtdmnjjknkcnkgaaDoor
namespace Go.Proofs.YtdmnjjknkcnkgaaDoor
open Go.RowKit

/-- What is written of a value. -/
def encV (v : V) : List UInt8 := le 1 (XU v.k) ++ (if v.k = 1 then le 1 (XU v.n) else if v.k = 2 then le 8 (XU v.n) else if v.k = 3 then tx v.s.data.toList else [])
def encVs (l : List V) : List UInt8 := l.flatMap encV
def encR (l : List V) : List UInt8 := le 1 (XU (l.length : Nat)) ++ encVs l
theorem encVs_nil : encVs [] = [] := rfl
theorem encVs_cons (v : V) (l : List V) : encVs (v :: l) = encV v ++ encVs l := rfl
theorem encVs_snoc (l : List V) (v : V) : encVs (l ++ [v]) = encVs l ++ encV v := by simp [encVs]
theorem encVs_take (l : List V) (i : Nat) (v : V) (h : l[i]? = some v) : encVs (l.take (i + 1)) = encVs (l.take i) ++ encV v := by
  obtain ⟨hj, rfl⟩ := List.getElem?_eq_some_iff.1 h
  rw [List.take_succ_eq_append_getElem hj, encVs_snoc]
theorem tx_length (s : List UInt8) : (tx s).length ≤ 65537 := by
  unfold tx
  rw [List.length_append, le_length, List.length_take]
  omega
theorem encV_length (v : V) : (encV v).length ≤ 65538 := by
  have := tx_length v.s.data.toList
  unfold encV
  rw [List.length_append, le_length]
  split
  · rw [le_length]; omega
  split
  · rw [le_length]; omega
  split
  · omega
  · simp
theorem encVs_length (l : List V) : (encVs l).length ≤ 65538 * l.length := by
  induction l with
  | nil => simp [encVs]
  | cons v l ih =>
    have := encV_length v
    rw [encVs_cons, List.length_append, List.length_cons]
    omega
set_option maxHeartbeats 1000000 in
theorem valueBytes_any (v : V) (w : World) : Calls Tryd.prog 36 #[v.val] w (Fresh w (encV v).length (encV v)) := by
  obtain ⟨k, n, s⟩ := v
  show Calls Tryd.prog 36 #[vv k n s] w _
  have b0 : ∀ o, Below w.heap.size w (w.alloc o) := fun o => (Below.refl _ _).alloc (Nat.le_refl _) o
  by_cases k1 : k = 1
  · subst k1
    have E : encV ⟨1, n, s⟩ = le 1 (XU 1) ++ le 1 (XU n) := rfl
    rw [E, List.length_append, le_length, le_length]
    clear E
    go_enter Tryd.func36, Tryd.ntmps36
    go_wp2_with (first
      | (go_at_call 23; (with_reducible refine (byte_nil _ _).mono ?_); rintro e w1 ⟨g1, c1, rfl, o1, b1, q1⟩; have B1 := (b0 _).trans (b1.mono (b0 _).size); obtain ⟨z0, z1, z2, -, -, -, -⟩ := (VAt.new w _ _ _).past b1)
      | (go_at_call 23; (with_reducible refine (byte_any _ 1 c1 _ n w1 o1.isB (by omega)).mono ?_); rintro e w2 ⟨g2, c2, rfl, o2, b2, q2⟩; have B2 := B1.trans (b2.mono B1.size)))
    go_ret
    exact ⟨g2, c2, rfl, o2, B2, by have := B1.size; omega⟩
  by_cases k2 : k = 2
  · subst k2
    have E : encV ⟨2, n, s⟩ = le 1 (XU 2) ++ le 8 (XU n) := rfl
    rw [E, List.length_append, le_length, le_length]
    clear E
    go_enter Tryd.func36, Tryd.ntmps36
    go_wp2_with (first
      | (go_at_call 23; (with_reducible refine (byte_nil _ _).mono ?_); rintro e w1 ⟨g1, c1, rfl, o1, b1, q1⟩; have B1 := (b0 _).trans (b1.mono (b0 _).size); obtain ⟨z0, z1, z2, -, -, -, -⟩ := (VAt.new w _ _ _).past b1)
      | (go_at_call 22; (with_reducible refine (int_any _ 1 c1 _ n w1 o1.isB (by omega)).mono ?_); rintro e w2 ⟨g2, c2, rfl, o2, b2, q2⟩; have B2 := B1.trans (b2.mono B1.size)))
    go_ret
    exact ⟨g2, c2, rfl, o2, B2, by have := B1.size; omega⟩
  by_cases k3 : k = 3
  · subst k3
    have E : encV ⟨3, n, s⟩ = le 1 (XU 3) ++ tx s.data.toList := rfl
    rw [E, List.length_append, le_length]
    clear E
    go_enter Tryd.func36, Tryd.ntmps36
    go_wp2_with (first
      | (go_at_call 23; (with_reducible refine (byte_nil _ _).mono ?_); rintro e w1 ⟨g1, c1, rfl, o1, b1, q1⟩; have B1 := (b0 _).trans (b1.mono (b0 _).size); obtain ⟨z0, z1, z2, -, -, -, -⟩ := (VAt.new w _ _ _).past b1)
      | (go_at_call 24; (with_reducible refine (text_any _ 1 c1 _ s w1 o1.isB (by omega)).mono ?_); rintro e w2 ⟨g2, c2, rfl, o2, b2, q2⟩; have B2 := B1.trans (b2.mono B1.size)))
    go_ret
    exact ⟨g2, c2, rfl, o2, B2, by have := B1.size; omega⟩
  · have h1 : (k == 1) = false := by simp [k1]
    have h2 : (k == 2) = false := by simp [k2]
    have h3 : (k == 3) = false := by simp [k3]
    have E : encV ⟨k, n, s⟩ = le 1 (XU k) := by unfold encV; rw [if_neg k1, if_neg k2, if_neg k3, List.append_nil]
    rw [E, le_length]
    clear E k1 k2 k3
    go_enter Tryd.func36, Tryd.ntmps36
    go_wp2_with (go_at_call 23; (with_reducible refine (byte_nil _ _).mono ?_); rintro e w1 ⟨g1, c1, rfl, o1, b1, q1⟩; have B1 := (b0 _).trans (b1.mono (b0 _).size); obtain ⟨z0, z1, z2, -, -, -, -⟩ := (VAt.new w _ _ _).past b1)
    go_ret
    exact ⟨g1, c1, rfl, o1, B1, by have := (b0 (.cells #[.int .i64 k, .int .i64 n, .string s] 36)).size; omega⟩
set_option maxHeartbeats 1000000 in
theorem bytes_any (ao : Option Addr) (n cap : Nat) (l : List V) (w : World) (h : IsR EV w ao n cap l) (hn : n ≤ 300) :
    Calls Tryd.prog 25 #[.slice ao n cap] w (Fresh w (encR l).length (encR l)) := by
  have hln := h.len
  go_enter Tryd.func25, Tryd.ntmps25
  go_wp2_with (go_at_call 23; (with_reducible refine (byte_nil _ _).mono ?_); rintro e w1 ⟨g1, c1, rfl, o1, b1, q1⟩)
  go_loopw [3, 11] (fun b i wr => ∃ j g' cap' : Nat, j ≤ n ∧ i = .int .i64 (j : Nat) ∧ b = .slice (some ⟨g', 0, none⟩) (1 + (encVs (l.take j)).length) cap' ∧ OwnB wr 5 g' (1 + (encVs (l.take j)).length) cap' (le 1 (XU (n : Nat)) ++ encVs (l.take j)) ∧ Below w.heap.size w wr ∧ w.heap.size ≤ g') (fun _ i _ => n - (intOf i).toNat)
  case atStart => exact ⟨0, g1, c1, by omega, rfl, by simp [encVs], by simpa [encVs] using o1, b1, q1⟩
  case round =>
    obtain ⟨j, g', cap', hj, rfl, rfl, ho, hB, hg⟩ := hrel
    clear o1 b1 q1
    have LJ := encVs_length (l.take j)
    rw [List.length_take] at LJ
    by_cases hlt : j < n
    · obtain ⟨v, hv⟩ : ∃ v, l[j]? = some v := ⟨l[j]'(by omega), List.getElem?_eq_getElem _⟩
      obtain ⟨b, off, rfl, hb, hc⟩ := h.open (by omega) (by decide)
      obtain ⟨c0, c1, c2⟩ := cells_v hc j v hv
      rw [← hB.cell hb] at c0 c1 c2
      have hvb := valueBytes_any v
      have LV := encV_length v
      have HT := Lib.hid (encVs_take l j v hv)
      obtain ⟨k, m, s⟩ := v
      simp only at c0 c1 c2
      simp only [V.val] at hvb
      clear hc
      have LE : (encVs (l.take (j + 1))).length = (encVs (l.take j)).length + (encV ⟨k, m, s⟩).length := by rw [HT.out, List.length_append]
      have LE' := Lib.hid LE
      have AE : Hid (le 1 (XU (n : Nat)) ++ encVs (l.take j) ++ encV ⟨k, m, s⟩ = le 1 (XU (n : Nat)) ++ encVs (l.take (j + 1))) := by rw [HT.out, List.append_assoc]; exact rfl
      clear LE HT
      generalize encV ⟨k, m, s⟩ = t at hvb LV LE' AE
      go_wp2_with (first
        | (go_at_call 36; (with_reducible refine (hvb _).mono ?_); rintro e w2 ⟨g2, c2, rfl, o2, b2, q2⟩; have X := Below.alloc (Below.refl wr.heap.size wr) (Nat.le_refl _) (.cells #[.int .i64 k, .int .i64 m, .string s] 36); have B2 := X.trans (b2.mono X.size))
        | (at_builtin; refine wpList_append_ob rfl _ _ 44 44 rfl 5 byteTy g' (1 + (encVs (l.take j)).length) cap' _ rfl (ho.below B2 ho.lt) _ rfl t.length t (o2.isB.src byteTy.ht) (1 + (encVs (l.take (j + 1))).length) (by rw [LE'.out]; omega) _ AE.out (by rw [LE'.out]; omega) ?_; intro g3 c3 w3 o3 p3 q3))
      have s2 := B2.size
      have s1 := hB.size
      go_roundw
      case rel => exact ⟨j + 1, g3, c3, by omega, by go_num, rfl, o3, (hB.trans (B2.mono s1)).trans (p3.below hg (by omega)), by omega⟩
      case measure => simp [intOf]; omega
    · go_wp2_with fail
      go_ret
      obtain rfl : j = n := by omega
      rw [List.take_of_length_le (by omega)] at ho
      have e : encR l = le 1 (XU (j : Nat)) ++ encVs l := by unfold encR; rw [hln]
      rw [e, List.length_append, le_length]
      rw [List.take_of_length_le (by omega)]
      exact ⟨g', cap', rfl, ho, hB, hg⟩
end Go.Proofs.YtdmnjjknkcnkgaaDoor
namespace Go.Proofs.YtdmnjjknkcnkgaaDoor
open Go.RowKit

/-- '(*sync/atomic.Bool).Load'. -/
theorem load_any (a : Addr) (d : Int) (b : Bool) (hb : (d != 0) = b) (w : World) (hc : w.cell? a = some (.int .u32 d)) :
    Calls Tryd.prog 41 #[.pointer (some a)] w fun e w' => e = .returned (.bool b) ∧ w = w' := by
  have hl := run_call_load (P := Tryd.prog) Tryd.func58 (by kernel_rfl) (by kernel_rfl) (by kernel_rfl) .u32 (by kernel_rfl) hc
  go_enter Tryd.func41, Tryd.ntmps41
  go_wp2
  go_ret
  exact ⟨rfl, rfl⟩
end Go.Proofs.YtdmnjjknkcnkgaaDoor
namespace Go.Proofs.YtdmnjjknkcnkgaaDoor
open Go.RowKit

theorem disable (w : World) : (callFunc 75 #[]).run Tryd.prog w = .ok (.value (.tuple #[])) w := run_call_mark0 Tryd.func75 (by kernel_rfl) (by kernel_rfl) (by kernel_rfl) .disable (by kernel_rfl) w
theorem enable (w : World) : (callFunc 77 #[]).run Tryd.prog w = .ok (.value (.tuple #[])) w := run_call_mark0 Tryd.func77 (by kernel_rfl) (by kernel_rfl) (by kernel_rfl) .enable (by kernel_rfl) w
theorem acquire (a : Addr) (w : World) : (callFunc 78 #[.pointer (some a)]).run Tryd.prog w = .ok (.value (.tuple #[])) w := run_call_marked Tryd.func78 (by kernel_rfl) (by kernel_rfl) (by kernel_rfl) .acquire (by kernel_rfl) a w
theorem releaseMerge (a : Addr) (w : World) : (callFunc 80 #[.pointer (some a)]).run Tryd.prog w = .ok (.value (.tuple #[])) w := run_call_marked Tryd.func80 (by kernel_rfl) (by kernel_rfl) (by kernel_rfl) .releaseMerge (by kernel_rfl) a w

/-- '(*sync/atomic.Bool).Store(true)', entered as a deferred call: the cell holds 1. -/
theorem store_deferred (a : Addr) (x : Value) (u : FrameMode) (w : World) (hc : w.cell? a = some x) (hz : w.frozen? a = false) :
    CallsD Tryd.prog 61 #[.pointer (some a), .bool true] u w fun e u' w' => u' = u ∧ (e = .returned (.tuple #[]) ∧ w' = w.drew.setCell a (.int .u32 1)) := by
  have hc' : w.drew.cell? a = some x := by go_simp
  have hz' : w.drew.frozen? a = false := by go_simp
  have hst := run_call_store (P := Tryd.prog) Tryd.func69 (by kernel_rfl) (by kernel_rfl) (by kernel_rfl) (by kernel_rfl) (k := .u32) (y := 1) hc' hz'
  go_enter_d Tryd.func61, Tryd.ntmps61
  go_wp2
  go_region_calls
  all_goals (go_end0; exact ⟨rfl, rfl⟩)

set_option maxRecDepth 100000 in
/-- '(*sync.Mutex).Unlock', entered as a deferred call, the lock held and nobody waiting (state 1): state 0. -/
theorem unlock_deferred (a : Addr) (u : FrameMode) (w : World) (hc : w.cell? a = some (.int .i32 1)) (hz : w.frozen? a = false) :
    CallsD Tryd.prog 60 #[.pointer (some a)] u w fun e u' w' => u' = u ∧ (e = .returned (.tuple #[]) ∧ w' = w.setCell a (.int .i32 0)) := by
  have hd := disable
  have he := enable
  have hr := releaseMerge
  have hadd := run_call_add (P := Tryd.prog) Tryd.func81 (by kernel_rfl) (by kernel_rfl) (by kernel_rfl) .i32 (by kernel_rfl) (y := -1) (s := 0) hc hz (by simp [go_sem]; rfl)
  have hcv := run_convert_to_unsafe (P := Tryd.prog) (src := 129) (dst := 133) Tryd.underlying129 Tryd.underlying133 (by kernel_rfl) hc
  go_enter_d Tryd.func60, Tryd.ntmps60
  go_wp2
  go_end0
  go_wp2
  go_end0
  exact ⟨rfl, rfl⟩

set_option maxRecDepth 100000 in
/-- '(*sync.Mutex).Lock', the lock free (state 0): state 1. -/
theorem lock_free (a : Addr) (w : World) (hc : w.cell? a = some (.int .i32 0)) (hz : w.frozen? a = false) :
    Calls Tryd.prog 59 #[.pointer (some a)] w fun e w' => e = .returned (.tuple #[]) ∧ w' = w.setCell a (.int .i32 1) := by
  have hd := disable
  have he := enable
  have ha := acquire
  have hcas := run_call_cas_hit (P := Tryd.prog) Tryd.func76 (by kernel_rfl) (by kernel_rfl) (by kernel_rfl) .i32 (by kernel_rfl) (y := 1) hc hz
  have hc' : (w.setCell a (.int .i32 1)).cell? a = some (.int .i32 1) := World.cell?_setCell_same w a _ hc
  have hcv := run_convert_to_unsafe (P := Tryd.prog) (src := 129) (dst := 133) Tryd.underlying129 Tryd.underlying133 (by kernel_rfl) hc'
  go_enter Tryd.func59, Tryd.ntmps59
  go_wp2
  first | go_end0 | (simp only [Exit.inBlock, Exit.then]; refine bodyPost_ret (results_none rfl _ _ _) rfl ?_) | refine bodyPost_ret (results_none rfl _ _ _) rfl ?_
  go_wp2
  go_end0
  exact ⟨rfl, rfl⟩

end Go.Proofs.YtdmnjjknkcnkgaaDoor
