/-
  ledger: copies of changes, transactions, rows of transactions (by gen_lgk.py).
  The contracts of what package code writes by: longer, low.
  code.Int.
  A row of bytes that came in. Of no program.
  A number on nothing; a row of bytes that came in.
  The contracts of code.Int, code.Byte, code.Text: each answers new memory: the bytes that were handed in, and behind them what the document says.
  The writers on nothing, and on short texts; a row of bytes that came in.
  A value in a block of its own.
  Rows of values: how one lies in cells; what is written of one, and of a row; row.valueBytes.
  sync/atomic's Bool is read.
  sync.Once, one goroutine: its parts, each a contract of its own (after the guide's worked example of it).
  SHA-256 as plain functions on lists of bytes, and its value at one text.
  Unsigned numbers of 32 bits as the walk meets them ('u x' is the number of x); a row of such numbers in a block.
  What a sum on its way holds in its block: the state, the block, how much is used, how long, the last block, its once (three cells), its schedule.
  A region that draws its order, reads first and writes last: met in a world of its own name.
  Package sha: what turns numbers about.
  Plain lemmas on schedules; what a store into one row leaves.
  The contract of spread: the schedule of the block.
  copy into the block of a sum on its way.
  What has been taken in, plain: the blocks that were mixed, and the bytes that wait.
  Pieces of a slice that reads as bytes.
-/
import Derived.Test.YtdmnjjknkcnkgaaGreatDoorMz0
import Derived.Deep.CutRange
import Derived.Deep.CutBlock
import Derived.OpenShut
import Derived.Test.YtdmnjjknkcnkgaaGreatDoorProg
import Derived.WalkKit
import Derived.Laws.Pointers
import Derived.Laws.LoneSync
import Derived.Defers
import Derived.RegionTactic
import Derived.RegionCalls
import Derived.Lib.Hide
import Derived.KernelRfl
import Derived.WalkSpells
import Derived.WalkLawsBesides
import Derived.Laws.BitsAllLaws
import Derived.Laws.Rows
import Derived.Deep.MidRow
import Derived.StillTailTactics
import Derived.Deep.QuietTactic
import Derived.BigQuiet
import Derived.BigRegion
import Derived.Deep.RegionHeld3
import Derived.Below
import Derived.Outline
import Derived.Deep.Draws
import Derived.Laws.CopyOwn
import Derived.Laws.Slices
namespace Go.Proofs.YtdmnjjknkcnkgaaGreatDoor
open Go.RowKit
set_option linter.unusedSimpArgs false
theorem TxtR.isDV {w : World} {B : Nat} {ao : Option Addr} {n c : Nat} {l : List V} (h : TxtR EV w 98 B ao n c l) {Q : Nat → Prop} (hQ : ∀ b, B ≤ b → Q b) : IsD DV w Q ao n c l :=
  h.isR.deep (by decide) fun hn a ha => by
    rcases h.either with ⟨h1, -, -, -⟩ | ⟨g, h1, -, hg⟩
    · rw [h1] at ha; cases ha
    · rw [h1] at ha; cases ha; exact hQ _ hg
/-- A row of the call's own, or nil, that reads as ls. -/
theorem TxtR.isD {α : Type} {D : Dn α} {w : World} {e : TypeId} {B : Nat} {ao : Option Addr} {n c : Nat} {bs : List D.β} {ls : List α} (h : TxtR D.E w e B ao n c bs) {Q : Nat → Prop} (hQ : ∀ b,B ≤ b → Q b) (hR : RdD D w Q bs ls) : IsD D w Q ao n c ls :=
  ⟨bs, h.isR, fun hn a ha => by
    rcases h.either with ⟨h1, -, -, -⟩ | ⟨g, h1, -, hg⟩
    · rw [h1] at ha; cases ha
    · rw [h1] at ha; cases ha; exact hQ _ hg, hR⟩
theorem grown_cell {w w' : World} {g : Nat} (h : w.grownBy w' (some g)) (k : Nat) (v : Value) : w.grownBy (w'.setCell ⟨g, k, none⟩ v) (some g) :=
  ⟨h.os, h.tape, h.output, by simpa using h.size, fun b hb hne => (heap_setCell_other _ _ b _ (fun e => hne (by rw [e]))).trans (h.block b hb hne)⟩
theorem grown_self (w : World) (g : Nat) : w.grownBy w (some g) := below_grown (some g) (Below.refl _ _)
set_option maxRecDepth 100000 in
set_option maxHeartbeats 1000000 in
theorem copyChange_any (w : World) (Q : Nat → Prop) (t : ByteArray) (op : Int) (ao : Option Addr) (n c : Nat) (l : List (V)) (h : IsD DV w Q ao n c l) (hn : n ≤ 100000) :
    Calls Tryz.prog 118 #[.agg #[.string t,.int .i64 op,.slice ao n c]] w fun e w' => ∃ ao' c',e = .returned (.agg #[.string t,.int .i64 op,.slice ao' n c']) ∧ IsD DV w' (FrG w.heap.size) ao' n c' l ∧ Below w.heap.size w w' := by
  have B0 : Below w.heap.size w ((w.alloc (.cells #[.string t,.int .i64 op,.slice ao n c] 67)).alloc (.cells #[.string ⟨#[]⟩,.int .i64 0,.slice none 0 0] 67)) := ((Below.refl _ _).alloc (Nat.le_refl _) _).alloc (by simp) _
  have hP : Bk ((w.alloc (.cells #[.string t,.int .i64 op,.slice ao n c] 67)).alloc (.cells #[.string ⟨#[]⟩,.int .i64 0,.slice none 0 0] 67)) w.heap.size #[.string t,.int .i64 op,.slice ao n c] 67 := (Bk.new w _ _).alloc _
  have hQ : Bk ((w.alloc (.cells #[.string t,.int .i64 op,.slice ao n c] 67)).alloc (.cells #[.string ⟨#[]⟩,.int .i64 0,.slice none 0 0] 67)) (w.heap.size + 1) #[.string ⟨#[]⟩,.int .i64 0,.slice none 0 0] 67 := by
    have := Bk.new (w.alloc (.cells #[.string t, .int .i64 op, .slice ao n c] 67)) #[.string ⟨#[]⟩, .int .i64 0, .slice none 0 0] 67
    rwa [World.size_alloc] at this
  have h1 := h.past B0
  go_enter Tryz.func118, Tryz.ntmps118
  go_upto_region 1 with fail
  generalize (w.alloc (.cells #[.string t, .int .i64 op, .slice ao n c] 67)).alloc (.cells #[.string ⟨#[]⟩, .int .i64 0, .slice none 0 0] 67) = W at B0 hP hQ h1 ⊢
  have hp0 : w.heap.size ≤ W.heap.size := B0.size
  obtain ⟨p, hp⟩ : ∃ p, w.heap.size = p := ⟨_, rfl⟩
  obtain ⟨q, hq⟩ : ∃ q, p + 1 = q := ⟨_, rfl⟩
  have HG := Lib.hid hp
  rw [hp] at hP hQ hp0
  rw [hq] at hQ
  simp only [hp, hq]
  have hpq : p ≠ q := by omega
  have hpq2 : p ≤ q := by omega
  clear hp hq h
  have hpW := hP.lt
  have hqW := hQ.lt
  obtain ⟨c0, c1, c2⟩ : W.cell? ⟨p, 0, none⟩ = some (.string t) ∧ W.cell? ⟨p, 1, none⟩ = some (.int .i64 op) ∧ W.cell? ⟨p, 2, none⟩ = some (.slice ao n c) := ⟨hP.c rfl, hP.c rfl, hP.c rfl⟩
  have HC := kclone_vs W ao n c l h1.flat (by omega)
  go_upto_region 2 with (go_at_call 108; refine HC.mono ?_; rintro e w1 ⟨ao',c',rfl,o1,b1⟩; have hP1 := hP.past b1; have fP := free_blk (i := 2) hP1; have cP : w1.cell? ⟨p,2,none⟩ = some (.slice ao n c) := hP1.c rfl)
  have hP2 : Bk (w1.setCell ⟨p, 2, none⟩ (.slice ao' n c')) p #[.string t, .int .i64 op, .slice ao' n c'] 67 := (heap_setCell_same (i := 2) hP1).trans rfl
  have g2 : w1.grownBy (w1.setCell ⟨p, 2, none⟩ (.slice ao' n c')) (some p) := grown_cell (grown_self _ _) 2 _
  have hQ2 := (hQ.past b1).grown g2 (fun e => hpq (Option.some.inj e).symm)
  have o2 := ((o1.isDV (fun b hb => hb) : IsD DV w1 (FrG W.heap.size) ao' n c' l)).grown g2 (show ¬ W.heap.size ≤ p by omega)
  have B2 : Below w.heap.size w (w1.setCell ⟨p, 2, none⟩ (.slice ao' n c')) := (B0.trans (b1.mono B0.size)).grown g2 (Nat.le_trans B0.size b1.size) (fun z hz => by cases hz; exact Nat.le_of_eq HG.out)
  generalize w1.setCell ⟨p, 2, none⟩ (.slice ao' n c') = w2 at hP2 hQ2 o2 B2 ⊢
  clear hP1 fP cP g2 o1 b1 HC hP hQ c0 c1 c2 h1
  obtain ⟨c0, c1, c2⟩ : w2.cell? ⟨p, 0, none⟩ = some (.string t) ∧ w2.cell? ⟨p, 1, none⟩ = some (.int .i64 op) ∧ w2.cell? ⟨p, 2, none⟩ = some (.slice ao' n c') := ⟨hP2.c rfl, hP2.c rfl, hP2.c rfl⟩
  obtain ⟨f0, f1, f2⟩ : w2.frozen? ⟨q, 0, none⟩ = false ∧ w2.frozen? ⟨q, 1, none⟩ = false ∧ w2.frozen? ⟨q, 2, none⟩ = false := ⟨free_blk hQ2, free_blk hQ2, free_blk hQ2⟩
  obtain ⟨d0, d1, d2⟩ : w2.cell? ⟨q, 0, none⟩ = some (.string ⟨#[]⟩) ∧ w2.cell? ⟨q, 1, none⟩ = some (.int .i64 0) ∧ w2.cell? ⟨q, 2, none⟩ = some (.slice none 0 0) := ⟨hQ2.c rfl, hQ2.c rfl, hQ2.c rfl⟩
  go_wp2_with fail
  have g3 : w2.grownBy (((w2.setCell ⟨q,0,none⟩ (.string t)).setCell ⟨q,1,none⟩ (.int .i64 op)).setCell ⟨q,2,none⟩ (.slice ao' n c')) (some q) := grown_cell (grown_cell (grown_cell (grown_self _ _) 0 _) 1 _) 2 _
  have hQ3 : Bk (((w2.setCell ⟨q, 0, none⟩ (.string t)).setCell ⟨q, 1, none⟩ (.int .i64 op)).setCell ⟨q, 2, none⟩ (.slice ao' n c')) q #[.string t, .int .i64 op, .slice ao' n c'] 67 := by
    have h5 := (heap_setCell_same (i := 2) (v := .slice ao' n c') (heap_setCell_same (i := 1) (v := .int .i64 op) (heap_setCell_same (i := 0) (v := .string t) hQ2)))
    exact h5
  have o3 := (o2.grown g3 (show ¬ W.heap.size ≤ q by omega)).imp (Q' := FrG w.heap.size) (fun b _ hb => Nat.le_trans B0.size hb)
  have B3 := B2.grown g3 B2.size (fun z hz => by cases hz; have := HG.out; omega)
  generalize (((w2.setCell ⟨q, 0, none⟩ (.string t)).setCell ⟨q, 1, none⟩ (.int .i64 op)).setCell ⟨q, 2, none⟩ (.slice ao' n c')) = w3 at hQ3 o3 B3 ⊢
  obtain ⟨r0, r1, r2⟩ : w3.cell? ⟨q, 0, none⟩ = some (.string t) ∧ w3.cell? ⟨q, 1, none⟩ = some (.int .i64 op) ∧ w3.cell? ⟨q, 2, none⟩ = some (.slice ao' n c') := ⟨hQ3.c rfl, hQ3.c rfl, hQ3.c rfl⟩
  refine bodyPost_ret (v := .agg #[.string t, .int .i64 op, .slice ao' n c']) (by simp [results, Tryz.results118, go_sem, r0, r1, r2]) rfl ?_
  exact ⟨_, _, rfl, o3, B3⟩
set_option maxRecDepth 100000 in
set_option maxHeartbeats 1000000 in
theorem copiedC_any (w : World) (Q : Nat → Prop) (ao : Option Addr) (n c : Nat) (ls : List (Chg)) (h : IsD DC w Q ao n c ls) (hn : n ≤ 100000) (hcs : ∀ x ∈ ls, x.2.length ≤ 100000) :
    Calls Tryz.prog 117 #[.slice ao n c, .func (.func 118) #[] #[]] w (CopiedIs DC 67 w n ls) := by
  have hln := h.len
  obtain ⟨bs, hb, -, hR⟩ := h
  have HC := kclone_ch w ao n c bs hb (by omega)
  go_enter Tryz.func117, Tryz.ntmps117
  go_upto_region 2 with (go_at_call 133; refine HC.mono ?_; rintro e w1 ⟨ao', c', rfl, o1, b1⟩)
  have hbl := o1.len
  go_wp2_with fail
  go_loopw [12] (fun i wr => ∃ (j : Nat) (bs' : List (DC.β)),j ≤ n ∧ i = .int .i64 (j : Nat) ∧ TxtR DC.E wr 67 w.heap.size ao' n c' bs' ∧ Hid (∀ (k : Nat) (b : DC.β) (x : Chg),k < j → bs'[k]? = some b → ls[k]? = some x → DC.R wr (FrGN w.heap.size ao') b x) ∧ Hid (∀ k,j ≤ k → bs'[k]? = bs[k]?) ∧ Below w.heap.size w wr) (fun i _ => n - (intOf i).toNat)
  case atStart => exact ⟨0, bs, Nat.zero_le _, rfl, o1, Lib.hid fun k b x hk => absurd hk (Nat.not_lt_zero k), Lib.hid fun k _ => rfl, b1⟩
  case round =>
    clear HC o1 b1 hb
    obtain ⟨j, bs', hj, rfl, o2, hd, he, B2⟩ := hrel
    by_cases hlt : j < n
    · have hlti : (j : Int) < (n : Int) := by omega
      obtain ⟨x, hx⟩ : ∃ x, ls[j]? = some x := ⟨ls[j]'(by omega), List.getElem?_eq_getElem _⟩
      obtain ⟨b, hb0, hr0⟩ := hR.get hx
      have hb1 : bs'[j]? = some b := (he.out j (Nat.le_refl _)).trans hb0
      have hr := DC.past hr0 B2
      rcases o2.either with ⟨-, h0, -, -⟩ | ⟨gb, rfl, og, hgb⟩
      · omega
      have hgl := og.lt
      have hcl : ∀ k u, (DC.E.f b)[k]? = some u → wr.cell? ⟨gb, j * DC.E.sz + k, none⟩ = some u := fun k u hu => by
        have hk := (List.getElem?_eq_some_iff.1 hu).1
        rw [DC.E.len] at hk
        exact og.cell _ _ (by rw [DC.E.all_get bs' j k b hb1 hk]; exact hu)
      have hxl := List.mem_of_getElem? hx
      have hcl : ∀ k u, (DC.E.f b)[k]? = some u → wr.cell? ⟨gb, j * 3 + k, none⟩ = some u := hcl
      obtain ⟨⟨bt, bo⟩, ⟨ba, bn, bc⟩⟩ := b
      have y0 : wr.cell? ⟨gb, j * 3, none⟩ = some (.string bt) := hcl 0 _ rfl
      have y1 : wr.cell? ⟨gb, j * 3 + 1, none⟩ = some (.int .i64 bo) := hcl 1 _ rfl
      have y2 : wr.cell? ⟨gb, j * 3 + 2, none⟩ = some (.slice ba bn bc) := hcl 2 _ rfl
      have bA : Below wr.heap.size wr (wr.alloc (.cells #[.string bt, .int .i64 bo, .slice ba bn bc] 67)) := (Below.refl _ _).alloc (Nat.le_refl _) _
      have hgl2 : gb < (wr.alloc (.cells #[.string bt, .int .i64 bo, .slice ba bn bc] 67)).heap.size := Nat.lt_of_lt_of_le hgl bA.size
      have hr2 := DC.past hr bA
      have HF := copyChange_any (wr.alloc (.cells #[.string bt,.int .i64 bo,.slice ba bn bc] 67)) Q bt bo ba bn bc x.2 hr2.2 (by have h9 := hr2.2.len; simp only at h9; have := hcs x hxl; omega)
      have HX := Lib.hid hx
      have hrE : Hid ((bt, bo) = x.1) := Lib.hid hr.1
      clear hx hcl hr hr2 hr0 hb0 hb1
      go_wp2_with (go_at_call 118; refine HF.mono ?_; rintro e w3 ⟨ao2,c2,rfl,i3,b3⟩; have og3 := og.past (bA.trans (b3.mono bA.size)); have v0 : w3.cell? ⟨gb,j * 3,none⟩ = some (.string bt) := (b3.cell hgl2).trans ((bA.cell hgl).trans y0); have v1 : w3.cell? ⟨gb,j * 3 + 1,none⟩ = some (.int .i64 bo) := (b3.cell hgl2).trans ((bA.cell hgl).trans y1); have v2 : w3.cell? ⟨gb,j * 3 + 2,none⟩ = some (.slice ba bn bc) := (b3.cell hgl2).trans ((bA.cell hgl).trans y2); have q0 : w3.frozen? ⟨gb,j * 3,none⟩ = false := og3.freeD _; have q1 : w3.frozen? ⟨gb,j * 3 + 1,none⟩ = false := og3.freeD _; have q2 : w3.frozen? ⟨gb,j * 3 + 2,none⟩ = false := og3.freeD _)
      have bB : Below wr.heap.size wr w3 := bA.trans (b3.mono bA.size)
      have g3 : w3.grownBy (((w3.setCell ⟨gb,j * 3,none⟩ (.string bt)).setCell ⟨gb,j * 3 + 1,none⟩ (.int .i64 bo)).setCell ⟨gb,j * 3 + 2,none⟩ (.slice ao2 bn c2)) (some gb) := grown_cell (grown_cell (grown_cell (grown_self _ _) _ _) _ _) _ _
      have hset : OwnR DC.E (((w3.setCell ⟨gb,j * 3,none⟩ (.string bt)).setCell ⟨gb,j * 3 + 1,none⟩ (.int .i64 bo)).setCell ⟨gb,j * 3 + 2,none⟩ (.slice ao2 bn c2)) 67 gb n c' (bs'.set j ((bt,bo),⟨ao2,bn,c2⟩)) := og3.put3 j hlt ((bt,bo),⟨ao2,bn,c2⟩) (.string bt) (.int .i64 bo) (.slice ao2 bn c2) rfl
      have i4 := (i3.grown g3 (show ¬ (wr.alloc (.cells #[.string bt,.int .i64 bo,.slice ba bn bc] 67)).heap.size ≤ gb by omega)).imp (Q' := FrGN w.heap.size (some ⟨gb,0,none⟩)) (fun b _ hb => ⟨Nat.le_trans (Nat.le_trans B2.size bA.size) hb,fun e => by have e' : gb = b := Option.some.inj e; have hb' : (wr.alloc (.cells #[.string bt,.int .i64 bo,.slice ba bn bc] 67)).heap.size ≤ b := hb; omega⟩)
      have B3 : Below w.heap.size w (((w3.setCell ⟨gb,j * 3,none⟩ (.string bt)).setCell ⟨gb,j * 3 + 1,none⟩ (.int .i64 bo)).setCell ⟨gb,j * 3 + 2,none⟩ (.slice ao2 bn c2)) := (B2.trans (bB.mono B2.size)).grown g3 (Nat.le_trans B2.size bB.size) (fun z hz => by cases hz; exact hgb)
      have hd3 : ∀ (k : Nat) (b : DC.β) (x : Chg),k < j → bs'[k]? = some b → ls[k]? = some x → DC.R (((w3.setCell ⟨gb,j * 3,none⟩ (.string bt)).setCell ⟨gb,j * 3 + 1,none⟩ (.int .i64 bo)).setCell ⟨gb,j * 3 + 2,none⟩ (.slice ao2 bn c2)) (FrGN w.heap.size (some ⟨gb,0,none⟩)) b x := fun k b x hk h1 h2 => DC.grown (DC.past (hd.out k b x hk h1 h2) bB) g3 (fun h => h.2 rfl)
      have hjl : j < bs'.length := by rw [o2.len]; exact hlt
      have hd4 := set_low (nb := ((bt,bo),⟨ao2,bn,c2⟩)) (P := fun b y => DC.R (((w3.setCell ⟨gb,j * 3,none⟩ (.string bt)).setCell ⟨gb,j * 3 + 1,none⟩ (.int .i64 bo)).setCell ⟨gb,j * 3 + 2,none⟩ (.slice ao2 bn c2)) (FrGN w.heap.size (some ⟨gb,0,none⟩)) b y) hjl HX.out hd3 ⟨hrE.out,i4⟩
      have he3 := set_high (nb := ((bt, bo), ⟨ao2, bn, c2⟩)) he.out
      go_roundw
      case rel => exact ⟨j + 1, _, by omega, by go_num, ⟨.inr ⟨gb, rfl, hset, hgb⟩⟩, Lib.hid hd4, Lib.hid he3, B3⟩
      case measure => simp [intOf]; omega
    · have hlti : ¬ ((j : Int) < (n : Int)) := by omega
      obtain rfl : j = n := by omega
      go_wp2_with fail
      go_ret
      exact ⟨ao', c', bs', rfl, ⟨o2.zero, o2.geB, by rw [o2.len, hln], fun k b x hk hl => hd.out k b x (by have := (List.getElem?_eq_some_iff.1 hl).1; omega) hk hl⟩, B2⟩
set_option maxRecDepth 100000 in
set_option maxHeartbeats 1000000 in
theorem copyTx_any (w : World) (Q : Nat → Prop) (id : Int) (ao : Option Addr) (n c : Nat) (l : List (Chg)) (h : IsD DC w Q ao n c l) (hn : n ≤ 100000) (hcs : ∀ x ∈ l, x.2.length ≤ 100000) :
    Calls Tryz.prog 88 #[.agg #[.int .i64 id,.slice ao n c]] w fun e w' => ∃ ao' c',e = .returned (.agg #[.int .i64 id,.slice ao' n c']) ∧ IsD DC w' (FrG w.heap.size) ao' n c' l ∧ Below w.heap.size w w' := by
  have B0 : Below w.heap.size w ((w.alloc (.cells #[.int .i64 id,.slice ao n c] 45)).alloc (.cells #[.int .i64 0,.slice none 0 0] 45)) := ((Below.refl _ _).alloc (Nat.le_refl _) _).alloc (by simp) _
  have hP : Bk ((w.alloc (.cells #[.int .i64 id,.slice ao n c] 45)).alloc (.cells #[.int .i64 0,.slice none 0 0] 45)) w.heap.size #[.int .i64 id,.slice ao n c] 45 := (Bk.new w _ _).alloc _
  have hQ : Bk ((w.alloc (.cells #[.int .i64 id,.slice ao n c] 45)).alloc (.cells #[.int .i64 0,.slice none 0 0] 45)) (w.heap.size + 1) #[.int .i64 0,.slice none 0 0] 45 := by
    have := Bk.new (w.alloc (.cells #[.int .i64 id, .slice ao n c] 45)) #[.int .i64 0, .slice none 0 0] 45
    rwa [World.size_alloc] at this
  have h1 := h.past B0
  go_enter Tryz.func88, Tryz.ntmps88
  go_upto_region 1 with fail
  generalize (w.alloc (.cells #[.int .i64 id, .slice ao n c] 45)).alloc (.cells #[.int .i64 0, .slice none 0 0] 45) = W at B0 hP hQ h1 ⊢
  have hp0 : w.heap.size ≤ W.heap.size := B0.size
  obtain ⟨p, hp⟩ : ∃ p, w.heap.size = p := ⟨_, rfl⟩
  obtain ⟨q, hq⟩ : ∃ q, p + 1 = q := ⟨_, rfl⟩
  have HG := Lib.hid hp
  rw [hp] at hP hQ hp0
  rw [hq] at hQ
  simp only [hp, hq]
  have hpq : p ≠ q := by omega
  have hpq2 : p ≤ q := by omega
  clear hp hq h
  have hpW := hP.lt
  have hqW := hQ.lt
  obtain ⟨c0, c1⟩ : W.cell? ⟨p, 0, none⟩ = some (.int .i64 id) ∧ W.cell? ⟨p, 1, none⟩ = some (.slice ao n c) := ⟨hP.c rfl, hP.c rfl⟩
  have HC := copiedC_any W Q ao n c l h1 (by omega) hcs
  go_upto_region 2 with (go_at_call 117; refine HC.mono ?_; rintro e w1 ⟨ao',c',bs9,rfl,o1,b1⟩; have hP1 := hP.past b1; have fP := free_blk (i := 1) hP1; have cP : w1.cell? ⟨p,1,none⟩ = some (.slice ao n c) := hP1.c rfl)
  have hP2 : Bk (w1.setCell ⟨p, 1, none⟩ (.slice ao' n c')) p #[.int .i64 id, .slice ao' n c'] 45 := (heap_setCell_same (i := 1) hP1).trans rfl
  have g2 : w1.grownBy (w1.setCell ⟨p, 1, none⟩ (.slice ao' n c')) (some p) := grown_cell (grown_self _ _) 1 _
  have hQ2 := (hQ.past b1).grown g2 (fun e => hpq (Option.some.inj e).symm)
  have o2 := (o1.isD).grown g2 (show ¬ W.heap.size ≤ p by omega)
  have B2 : Below w.heap.size w (w1.setCell ⟨p, 1, none⟩ (.slice ao' n c')) := (B0.trans (b1.mono B0.size)).grown g2 (Nat.le_trans B0.size b1.size) (fun z hz => by cases hz; exact Nat.le_of_eq HG.out)
  generalize w1.setCell ⟨p, 1, none⟩ (.slice ao' n c') = w2 at hP2 hQ2 o2 B2 ⊢
  clear hP1 fP cP g2 o1 b1 HC hP hQ c0 c1 h1
  obtain ⟨c0, c1⟩ : w2.cell? ⟨p, 0, none⟩ = some (.int .i64 id) ∧ w2.cell? ⟨p, 1, none⟩ = some (.slice ao' n c') := ⟨hP2.c rfl, hP2.c rfl⟩
  obtain ⟨f0, f1⟩ : w2.frozen? ⟨q, 0, none⟩ = false ∧ w2.frozen? ⟨q, 1, none⟩ = false := ⟨free_blk hQ2, free_blk hQ2⟩
  obtain ⟨d0, d1⟩ : w2.cell? ⟨q, 0, none⟩ = some (.int .i64 0) ∧ w2.cell? ⟨q, 1, none⟩ = some (.slice none 0 0) := ⟨hQ2.c rfl, hQ2.c rfl⟩
  go_wp2_with fail
  have g3 : w2.grownBy ((w2.setCell ⟨q, 0, none⟩ (.int .i64 id)).setCell ⟨q, 1, none⟩ (.slice ao' n c')) (some q) := grown_cell (grown_cell (grown_self _ _) 0 _) 1 _
  have hQ3 : Bk ((w2.setCell ⟨q, 0, none⟩ (.int .i64 id)).setCell ⟨q, 1, none⟩ (.slice ao' n c')) q #[.int .i64 id, .slice ao' n c'] 45 := by
    have h5 := (heap_setCell_same (i := 1) (v := .slice ao' n c') (heap_setCell_same (i := 0) (v := .int .i64 id) hQ2))
    exact h5
  have o3 := (o2.grown g3 (show ¬ W.heap.size ≤ q by omega)).imp (Q' := FrG w.heap.size) (fun b _ hb => Nat.le_trans B0.size hb)
  have B3 := B2.grown g3 B2.size (fun z hz => by cases hz; have := HG.out; omega)
  generalize ((w2.setCell ⟨q, 0, none⟩ (.int .i64 id)).setCell ⟨q, 1, none⟩ (.slice ao' n c')) = w3 at hQ3 o3 B3 ⊢
  obtain ⟨r0, r1⟩ : w3.cell? ⟨q, 0, none⟩ = some (.int .i64 id) ∧ w3.cell? ⟨q, 1, none⟩ = some (.slice ao' n c') := ⟨hQ3.c rfl, hQ3.c rfl⟩
  refine bodyPost_ret (v := .agg #[.int .i64 id, .slice ao' n c']) (by simp [results, Tryz.results88, go_sem, r0, r1]) rfl ?_
  exact ⟨_, _, rfl, o3, B3⟩
set_option maxRecDepth 100000 in
set_option maxHeartbeats 1000000 in
theorem copiedT_any (w : World) (Q : Nat → Prop) (ao : Option Addr) (n c : Nat) (ls : List (Txn)) (h : IsD DT w Q ao n c ls) (hn : n ≤ 100000) (hcs : ∀ x ∈ ls,x.2.length ≤ 100000 ∧ ∀ y ∈ x.2,y.2.length ≤ 100000) :
    Calls Tryz.prog 131 #[.slice ao n c, .func (.func 88) #[] #[]] w (CopiedIs DT 45 w n ls) := by
  have hln := h.len
  obtain ⟨bs, hb, -, hR⟩ := h
  have HC := kclone_tx w ao n c bs hb (by omega)
  go_enter Tryz.func131, Tryz.ntmps131
  go_upto_region 2 with (go_at_call 144; refine HC.mono ?_; rintro e w1 ⟨ao', c', rfl, o1, b1⟩)
  have hbl := o1.len
  go_wp2_with fail
  go_loopw [12] (fun i wr => ∃ (j : Nat) (bs' : List (DT.β)),j ≤ n ∧ i = .int .i64 (j : Nat) ∧ TxtR DT.E wr 45 w.heap.size ao' n c' bs' ∧ Hid (∀ (k : Nat) (b : DT.β) (x : Txn),k < j → bs'[k]? = some b → ls[k]? = some x → DT.R wr (FrGN w.heap.size ao') b x) ∧ Hid (∀ k,j ≤ k → bs'[k]? = bs[k]?) ∧ Below w.heap.size w wr) (fun i _ => n - (intOf i).toNat)
  case atStart => exact ⟨0, bs, Nat.zero_le _, rfl, o1, Lib.hid fun k b x hk => absurd hk (Nat.not_lt_zero k), Lib.hid fun k _ => rfl, b1⟩
  case round =>
    clear HC o1 b1 hb
    obtain ⟨j, bs', hj, rfl, o2, hd, he, B2⟩ := hrel
    by_cases hlt : j < n
    · have hlti : (j : Int) < (n : Int) := by omega
      obtain ⟨x, hx⟩ : ∃ x, ls[j]? = some x := ⟨ls[j]'(by omega), List.getElem?_eq_getElem _⟩
      obtain ⟨b, hb0, hr0⟩ := hR.get hx
      have hb1 : bs'[j]? = some b := (he.out j (Nat.le_refl _)).trans hb0
      have hr := DT.past hr0 B2
      rcases o2.either with ⟨-, h0, -, -⟩ | ⟨gb, rfl, og, hgb⟩
      · omega
      have hgl := og.lt
      have hcl : ∀ k u, (DT.E.f b)[k]? = some u → wr.cell? ⟨gb, j * DT.E.sz + k, none⟩ = some u := fun k u hu => by
        have hk := (List.getElem?_eq_some_iff.1 hu).1
        rw [DT.E.len] at hk
        exact og.cell _ _ (by rw [DT.E.all_get bs' j k b hb1 hk]; exact hu)
      have hxl := List.mem_of_getElem? hx
      have hcl : ∀ k u, (DT.E.f b)[k]? = some u → wr.cell? ⟨gb, j * 2 + k, none⟩ = some u := hcl
      obtain ⟨bi, ⟨ba, bn, bc⟩⟩ := b
      have y0 : wr.cell? ⟨gb, j * 2, none⟩ = some (.int .i64 bi) := hcl 0 _ rfl
      have y1 : wr.cell? ⟨gb, j * 2 + 1, none⟩ = some (.slice ba bn bc) := hcl 1 _ rfl
      have bA : Below wr.heap.size wr (wr.alloc (.cells #[.int .i64 bi, .slice ba bn bc] 45)) := (Below.refl _ _).alloc (Nat.le_refl _) _
      have hgl2 : gb < (wr.alloc (.cells #[.int .i64 bi, .slice ba bn bc] 45)).heap.size := Nat.lt_of_lt_of_le hgl bA.size
      have hr2 := DT.past hr bA
      have HF := copyTx_any (wr.alloc (.cells #[.int .i64 bi,.slice ba bn bc] 45)) Q bi ba bn bc x.2 hr2.2 (by have h9 := hr2.2.len; simp only at h9; have := (hcs x hxl).1; omega) (hcs x hxl).2
      have HX := Lib.hid hx
      have hrE : Hid (bi = x.1) := Lib.hid hr.1
      clear hx hcl hr hr2 hr0 hb0 hb1
      go_wp2_with (go_at_call 88; refine HF.mono ?_; rintro e w3 ⟨ao2,c2,rfl,i3,b3⟩; have og3 := og.past (bA.trans (b3.mono bA.size)); have v0 : w3.cell? ⟨gb,j * 2,none⟩ = some (.int .i64 bi) := (b3.cell hgl2).trans ((bA.cell hgl).trans y0); have v1 : w3.cell? ⟨gb,j * 2 + 1,none⟩ = some (.slice ba bn bc) := (b3.cell hgl2).trans ((bA.cell hgl).trans y1); have q0 : w3.frozen? ⟨gb,j * 2,none⟩ = false := og3.freeD _; have q1 : w3.frozen? ⟨gb,j * 2 + 1,none⟩ = false := og3.freeD _)
      have bB : Below wr.heap.size wr w3 := bA.trans (b3.mono bA.size)
      have g3 : w3.grownBy ((w3.setCell ⟨gb, j * 2, none⟩ (.int .i64 bi)).setCell ⟨gb, j * 2 + 1, none⟩ (.slice ao2 bn c2)) (some gb) := grown_cell (grown_cell (grown_self _ _) _ _) _ _
      have hset : OwnR DT.E ((w3.setCell ⟨gb,j * 2,none⟩ (.int .i64 bi)).setCell ⟨gb,j * 2 + 1,none⟩ (.slice ao2 bn c2)) 45 gb n c' (bs'.set j (bi,⟨ao2,bn,c2⟩)) := og3.put2 j hlt (bi,⟨ao2,bn,c2⟩) (.int .i64 bi) (.slice ao2 bn c2) rfl
      have i4 := (i3.grown g3 (show ¬ (wr.alloc (.cells #[.int .i64 bi,.slice ba bn bc] 45)).heap.size ≤ gb by omega)).imp (Q' := FrGN w.heap.size (some ⟨gb,0,none⟩)) (fun b _ hb => ⟨Nat.le_trans (Nat.le_trans B2.size bA.size) hb,fun e => by have e' : gb = b := Option.some.inj e; have hb' : (wr.alloc (.cells #[.int .i64 bi,.slice ba bn bc] 45)).heap.size ≤ b := hb; omega⟩)
      have B3 : Below w.heap.size w ((w3.setCell ⟨gb,j * 2,none⟩ (.int .i64 bi)).setCell ⟨gb,j * 2 + 1,none⟩ (.slice ao2 bn c2)) := (B2.trans (bB.mono B2.size)).grown g3 (Nat.le_trans B2.size bB.size) (fun z hz => by cases hz; exact hgb)
      have hd3 : ∀ (k : Nat) (b : DT.β) (x : Txn),k < j → bs'[k]? = some b → ls[k]? = some x → DT.R ((w3.setCell ⟨gb,j * 2,none⟩ (.int .i64 bi)).setCell ⟨gb,j * 2 + 1,none⟩ (.slice ao2 bn c2)) (FrGN w.heap.size (some ⟨gb,0,none⟩)) b x := fun k b x hk h1 h2 => DT.grown (DT.past (hd.out k b x hk h1 h2) bB) g3 (fun h => h.2 rfl)
      have hjl : j < bs'.length := by rw [o2.len]; exact hlt
      have hd4 := set_low (nb := (bi,⟨ao2,bn,c2⟩)) (P := fun b y => DT.R ((w3.setCell ⟨gb,j * 2,none⟩ (.int .i64 bi)).setCell ⟨gb,j * 2 + 1,none⟩ (.slice ao2 bn c2)) (FrGN w.heap.size (some ⟨gb,0,none⟩)) b y) hjl HX.out hd3 ⟨hrE.out,i4⟩
      have he3 := set_high (nb := (bi, ⟨ao2, bn, c2⟩)) he.out
      go_roundw
      case rel => exact ⟨j + 1, _, by omega, by go_num, ⟨.inr ⟨gb, rfl, hset, hgb⟩⟩, Lib.hid hd4, Lib.hid he3, B3⟩
      case measure => simp [intOf]; omega
    · have hlti : ¬ ((j : Int) < (n : Int)) := by omega
      obtain rfl : j = n := by omega
      go_wp2_with fail
      go_ret
      exact ⟨ao', c', bs', rfl, ⟨o2.zero, o2.geB, by rw [o2.len, hln], fun k b x hk hl => hd.out k b x (by have := (List.getElem?_eq_some_iff.1 hl).1; omega) hk hl⟩, B2⟩
set_option maxRecDepth 100000 in
theorem copyTxs_any (w : World) (Q : Nat → Prop) (ao : Option Addr) (n c : Nat) (ls : List Txn) (h : IsD DT w Q ao n c ls) (hn : n ≤ 100000) (hcs : ∀ x ∈ ls,x.2.length ≤ 100000 ∧ ∀ y ∈ x.2,y.2.length ≤ 100000) :
    Calls Tryz.prog 114 #[.slice ao n c] w (CopiedIs DT 45 w n ls) := by
  have HC := copiedT_any w Q ao n c ls h hn hcs
  go_enter Tryz.func114, Tryz.ntmps114
  go_wp2_with (go_at_call 131; refine HC.mono ?_; rintro e w1 ⟨ao', c', bs', rfl, o1, b1⟩)
  go_ret
  exact ⟨ao', c', bs', rfl, o1, b1⟩
set_option maxRecDepth 100000 in
set_option maxHeartbeats 1000000 in
theorem copiedS_any (w : World) (Q : Nat → Prop) (ao : Option Addr) (n c : Nat) (ls : List (List Txn)) (h : IsD DTs w Q ao n c ls) (hn : n ≤ 100000) (hcs : ∀ x ∈ ls,x.length ≤ 100000 ∧ ∀ y ∈ x,y.2.length ≤ 100000 ∧ ∀ z ∈ y.2,z.2.length ≤ 100000) :
    Calls Tryz.prog 116 #[.slice ao n c, .func (.func 114) #[] #[]] w (CopiedIs DTs 25 w n ls) := by
  have hln := h.len
  obtain ⟨bs, hb, -, hR⟩ := h
  have HC := kclone_txs w ao n c bs hb (by omega)
  go_enter Tryz.func116, Tryz.ntmps116
  go_upto_region 2 with (go_at_call 132; refine HC.mono ?_; rintro e w1 ⟨ao', c', rfl, o1, b1⟩)
  have hbl := o1.len
  go_wp2_with fail
  go_loopw [12] (fun i wr => ∃ (j : Nat) (bs' : List (DTs.β)),j ≤ n ∧ i = .int .i64 (j : Nat) ∧ TxtR DTs.E wr 25 w.heap.size ao' n c' bs' ∧ Hid (∀ (k : Nat) (b : DTs.β) (x : List Txn),k < j → bs'[k]? = some b → ls[k]? = some x → DTs.R wr (FrGN w.heap.size ao') b x) ∧ Hid (∀ k,j ≤ k → bs'[k]? = bs[k]?) ∧ Below w.heap.size w wr) (fun i _ => n - (intOf i).toNat)
  case atStart => exact ⟨0, bs, Nat.zero_le _, rfl, o1, Lib.hid fun k b x hk => absurd hk (Nat.not_lt_zero k), Lib.hid fun k _ => rfl, b1⟩
  case round =>
    clear HC o1 b1 hb
    obtain ⟨j, bs', hj, rfl, o2, hd, he, B2⟩ := hrel
    by_cases hlt : j < n
    · have hlti : (j : Int) < (n : Int) := by omega
      obtain ⟨x, hx⟩ : ∃ x, ls[j]? = some x := ⟨ls[j]'(by omega), List.getElem?_eq_getElem _⟩
      obtain ⟨b, hb0, hr0⟩ := hR.get hx
      have hb1 : bs'[j]? = some b := (he.out j (Nat.le_refl _)).trans hb0
      have hr := DTs.past hr0 B2
      rcases o2.either with ⟨-, h0, -, -⟩ | ⟨gb, rfl, og, hgb⟩
      · omega
      have hgl := og.lt
      have hcl : ∀ k u, (DTs.E.f b)[k]? = some u → wr.cell? ⟨gb, j * DTs.E.sz + k, none⟩ = some u := fun k u hu => by
        have hk := (List.getElem?_eq_some_iff.1 hu).1
        rw [DTs.E.len] at hk
        exact og.cell _ _ (by rw [DTs.E.all_get bs' j k b hb1 hk]; exact hu)
      have hxl := List.mem_of_getElem? hx
      have hcl : ∀ k u, (DTs.E.f b)[k]? = some u → wr.cell? ⟨gb, j + k, none⟩ = some u := by simpa only [show DTs.E.sz = 1 from rfl, Nat.mul_one] using hcl
      obtain ⟨ba, bn, bc⟩ := b
      have y0 : wr.cell? ⟨gb, j, none⟩ = some (.slice ba bn bc) := hcl 0 _ rfl
      have bA : Below wr.heap.size wr (wr) := Below.refl _ _
      have hgl2 : gb < (wr).heap.size := Nat.lt_of_lt_of_le hgl bA.size
      have hr2 := DTs.past hr bA
      have HF := copyTxs_any (wr) Q ba bn bc x hr2 (by have h9 := hr2.len; simp only at h9; have := (hcs x hxl).1; omega) (hcs x hxl).2
      have HX := Lib.hid hx
      clear hx hcl hr hr2 hr0 hb0 hb1
      go_wp2_with (go_at_call 114; refine HF.mono ?_; rintro e w3 ⟨ao2,c2,bs9,rfl,i39,b3⟩; have i3 := i39.isD; have og3 := og.past (bA.trans (b3.mono bA.size)); have v0 : w3.cell? ⟨gb,j,none⟩ = some (.slice ba bn bc) := (b3.cell hgl2).trans (y0); have q0 : w3.frozen? ⟨gb,j,none⟩ = false := og3.freeD _)
      have bB : Below wr.heap.size wr w3 := bA.trans (b3.mono bA.size)
      have g3 : w3.grownBy (w3.setCell ⟨gb, j, none⟩ (.slice ao2 bn c2)) (some gb) := grown_cell (grown_self _ _) _ _
      have hset : OwnR DTs.E (w3.setCell ⟨gb, j, none⟩ (.slice ao2 bn c2)) 25 gb n c' (bs'.set j (⟨ao2, bn, c2⟩ : HdR)) := og3.put1 j hlt (⟨ao2, bn, c2⟩ : HdR) (.slice ao2 bn c2) rfl
      have i4 := (i3.grown g3 (show ¬ (wr).heap.size ≤ gb by omega)).imp (Q' := FrGN w.heap.size (some ⟨gb,0,none⟩)) (fun b _ hb => ⟨Nat.le_trans (Nat.le_trans B2.size bA.size) hb,fun e => by have e' : gb = b := Option.some.inj e; have hb' : (wr).heap.size ≤ b := hb; omega⟩)
      have B3 : Below w.heap.size w (w3.setCell ⟨gb, j, none⟩ (.slice ao2 bn c2)) := (B2.trans (bB.mono B2.size)).grown g3 (Nat.le_trans B2.size bB.size) (fun z hz => by cases hz; exact hgb)
      have hd3 : ∀ (k : Nat) (b : DTs.β) (x : List Txn),k < j → bs'[k]? = some b → ls[k]? = some x → DTs.R (w3.setCell ⟨gb,j,none⟩ (.slice ao2 bn c2)) (FrGN w.heap.size (some ⟨gb,0,none⟩)) b x := fun k b x hk h1 h2 => DTs.grown (DTs.past (hd.out k b x hk h1 h2) bB) g3 (fun h => h.2 rfl)
      have hjl : j < bs'.length := by rw [o2.len]; exact hlt
      have hd4 := set_low (nb := (⟨ao2, bn, c2⟩ : HdR)) (P := fun b y => DTs.R (w3.setCell ⟨gb, j, none⟩ (.slice ao2 bn c2)) (FrGN w.heap.size (some ⟨gb, 0, none⟩)) b y) hjl HX.out hd3 i4
      have he3 := set_high (nb := (⟨ao2, bn, c2⟩ : HdR)) he.out
      go_roundw
      case rel => exact ⟨j + 1, _, by omega, by go_num, ⟨.inr ⟨gb, rfl, hset, hgb⟩⟩, Lib.hid hd4, Lib.hid he3, B3⟩
      case measure => simp [intOf]; omega
    · have hlti : ¬ ((j : Int) < (n : Int)) := by omega
      obtain rfl : j = n := by omega
      go_wp2_with fail
      go_ret
      exact ⟨ao', c', bs', rfl, ⟨o2.zero, o2.geB, by rw [o2.len, hln], fun k b x hk hl => hd.out k b x (by have := (List.getElem?_eq_some_iff.1 hl).1; omega) hk hl⟩, B2⟩

set_option maxHeartbeats 400000 in
/-- longer(b, more): a new slice of the same bytes. -/
theorem longer_any (ao : Option Addr) (n cap : Nat) (l : List UInt8) (more : Int) (w : World) (h : IsB w ao n cap l) (hn : n ≤ 1000000) (hm : 0 ≤ more ∧ more ≤ 1000000) :
    Calls Tryz.prog 95 #[.slice ao n cap, .int .i64 more] w (Fresh w n l) := by
  obtain ⟨m, rfl⟩ := Int.eq_ofNat_of_zero_le hm.1
  obtain ⟨i0, hi, hz0, hz1, hz2⟩ := info_parts info_u8
  have hm2 : m ≤ 1000000 := by omega
  clear hm
  go_enter Tryz.func95, Tryz.ntmps95
  go_wp2_with (first | (at_make; refine wpList_make_ob rfl _ _ 81 rfl 5 byteTy .i64 .i64 _ (n + m) rfl rfl (by omega) (by omega) ?_; intro w1 h1 hb1) | (at_builtin; refine wpList_append_ob rfl _ _ 81 81 rfl 5 byteTy _ 0 (n + m) [] rfl h1 _ rfl n l ((h.past hb1).src byteTy.ht) n (by omega) l rfl (by omega) ?_; intro g2 cap2 w2 ho2 hp2 hg2))
  go_ret
  have hs1 := h1.lt
  exact ⟨g2, cap2, rfl, ho2, hb1.trans (hp2.below (Nat.le_refl _) hb1.size), by omega⟩

def XU (x : Int) : Nat := (x % 18446744073709551616).toNat

theorem XU_lt (x : Int) : XU x < 18446744073709551616 := by unfold XU; omega
theorem u64_wrap (x : Int) : IntKind.u64.wrap x = (XU x : Int) := by
  simp [IntKind.wrap, IntKind.bits, IntKind.signed, XU]; omega

set_option maxHeartbeats 400000 in
theorem low_any (g n cap : Nat) (l : List UInt8) (x : Int) (k : Nat) (K : Int) (hK : K = (k : Int)) (w : World) (h : OwnB w 5 g n cap l) (hn : n ≤ 1000000) (hk : k ≤ 8) :
    Calls Tryz.prog 94 #[.slice (some ⟨g, 0, none⟩) n cap, .int .i64 x, .int .i64 K] w (Went w g n (n + k) (l ++ le k (XU x))) := by
  subst hK
  have hlt := Lib.hid (XU_lt x)
  go_enter Tryz.func94, Tryz.ntmps94
  go_wp2_with fail
  go_loopw [0,7,11] (fun v u i wr => ∃ j g' cap' q,j ≤ k ∧ i = .int .i64 (j : Nat) ∧ Hid (q = XU x / 256 ^ j) ∧ u = .int .u64 (q : Nat) ∧ v = .slice (some ⟨g',0,none⟩) (n + j) cap' ∧ OwnB wr 5 g' (n + j) cap' (l ++ le j (XU x)) ∧ Puts w wr g n ∧ (g' = g ∨ w.heap.size ≤ g')) (fun _ _ i _ => k - (intOf i).toNat)
  case atStart => exact ⟨0, g, cap, XU x, by omega, rfl, by simp [Hid], by rw [u64_wrap], rfl, by simpa [le] using h, Puts.refl _ _ _, .inl rfl⟩
  case round =>
    obtain ⟨j, g', cap', q, hj, rfl, hq, rfl, rfl, ho, hp, hg'⟩ := hrel
    have hq0 : q ≤ XU x := by rw [hq.out]; exact Nat.div_le_self _ _
    have hq1 : q < 18446744073709551616 := by have := hlt.out; omega
    have hg := h.lt
    have HL : Hid (l ++ le j (XU x) ++ [UInt8.ofNat (q % 256)] = l ++ le (j + 1) (XU x)) := by rw [hq.out, le_snoc, List.append_assoc]; exact rfl
    clear hq0
    by_cases hlt' : j < k
    · go_wp2_with (at_builtin; refine wpList_append_ob rfl _ _ 81 81 rfl 5 byteTy g' (n + j) cap' (l ++ le j (XU x)) rfl (ho.alloc _) _ rfl 1 [UInt8.ofNat (q % 256)] (src_one byteTy.ht _ _ _ (bc_mod q)) (n + (j + 1)) (by omega) (l ++ le (j + 1) (XU x)) HL.out (by omega) ?_; intro g2 cap2 w2 ho2 hp2 hg2)
      go_roundw
      case rel =>
        exact ⟨j + 1,g2,cap2,q / 256,by omega,by go_num,by unfold Hid; rw [hq.out,Nat.div_div_eq_div_mul, ← Nat.pow_succ],by go_num,rfl,ho2,(hp.alloc _ hg).trans hp2 (by omega),by have := hp.size; simp at hg2; omega⟩
      case measure => simp [intOf]; omega
    · go_wp2_with fail
      go_ret
      obtain rfl : j = k := by omega
      exact ⟨g', cap', rfl, ho, hp, hg'⟩

set_option maxHeartbeats 400000 in
theorem int_any (ao : Option Addr) (n cap : Nat) (l : List UInt8) (x : Int) (w : World) (h : IsB w ao n cap l) (hn : n ≤ 900000) :
    Calls Tryz.prog 61 #[.slice ao n cap, .int .i64 x] w (Fresh w (n + 8) (l ++ le 8 (XU x))) := by
  go_enter Tryz.func61, Tryz.ntmps61
  go_wp2_with (first | (go_at_call 95; refine (longer_any ao n cap l 8 _ h (by omega) (by omega)).mono ?_; rintro e w1 ⟨g1,c1,rfl,h1,hb1,hg1⟩) | (go_at_call 94; refine (low_any g1 n c1 l x 8 _ rfl _ h1 (by omega) (by omega)).mono ?_; rintro e w2 ⟨g2,c2,rfl,h2,hp2,hg2⟩))
  go_ret
  exact ⟨g2, c2, rfl, h2, hb1.trans (hp2.below hg1 hb1.size), by have := hb1.size; omega⟩




theorem int_nil (x : Int) (w : World) : Calls Tryz.prog 61 #[.slice none 0 0, .int .i64 x] w (Fresh w 8 (le 8 (XU x))) :=
  int_any none 0 0 [] x w (IsB.nilB w) (by omega)

set_option maxHeartbeats 400000 in
theorem byte_any (ao : Option Addr) (n cap : Nat) (l : List UInt8) (x : Int) (w : World) (h : IsB w ao n cap l) (hn : n ≤ 900000) :
    Calls Tryz.prog 62 #[.slice ao n cap, .int .i64 x] w (Fresh w (n + 1) (l ++ le 1 (XU x))) := by
  go_enter Tryz.func62, Tryz.ntmps62
  go_wp2_with (first | (go_at_call 95; refine (longer_any ao n cap l 1 _ h (by omega) (by omega)).mono ?_; rintro e w1 ⟨g1,c1,rfl,h1,hb1,hg1⟩) | (go_at_call 94; refine (low_any g1 n c1 l x 1 _ rfl _ h1 (by omega) (by omega)).mono ?_; rintro e w2 ⟨g2,c2,rfl,h2,hp2,hg2⟩))
  go_ret
  exact ⟨g2, c2, rfl, h2, hb1.trans (hp2.below hg1 hb1.size), by have := hb1.size; omega⟩

/-- What stands for a text of the bytes s. -/
def tx (s : List UInt8) : List UInt8 := le 2 (s.take 65535).length ++ s.take 65535

theorem cut_list (s : ByteArray) (k : Nat) : (s.extract 0 k).data.toList = s.data.toList.take k := by
  rw [Lib.extract_data]; simp

set_option maxHeartbeats 400000 in
theorem text_any (ao : Option Addr) (n cap : Nat) (l : List UInt8) (s : ByteArray) (w : World) (h : IsB w ao n cap l) (hn : n ≤ 800000) :
    Calls Tryz.prog 63 #[.slice ao n cap, .string s] w (Fresh w (n + (tx s.data.toList).length) (l ++ tx s.data.toList)) := by
  obtain ⟨k, e1, e2, hk, h1⟩ : ∃ k : Nat, min (s.size : Int) 65535 = (k : Int) ∧ min k s.size = k ∧ k ≤ 65535 ∧ Hid (tx s.data.toList = le 2 k ++ s.data.toList.take k) := by
    have hl : s.data.toList.length = s.size := by simp
    refine ⟨min s.size 65535, by omega, by omega, by omega, ?_⟩
    have e : s.data.toList.take 65535 = s.data.toList.take (min s.size 65535) := by
      rcases Nat.le_total s.size 65535 with h | h
      · rw [Nat.min_eq_left h, List.take_of_length_le (by omega), List.take_of_length_le (by omega)]
      · rw [Nat.min_eq_right h]
    unfold Hid tx
    rw [e, List.length_take, hl]
    congr 1
    congr 1
    omega
  have hks : Hid ((s.data.toList.take k).length = k) := by
    have hl : s.data.toList.length = s.size := by simp
    unfold Hid
    rw [List.length_take]
    omega
  have hsz : Hid ((tx s.data.toList).length = 2 + k) := by unfold Hid; rw [h1.out, List.length_append, le_length, hks.out]
  have hcut : Hid (byteCells (s.extract 0 k) = bcs (s.data.toList.take k)) := by unfold Hid; rw [byteCells_bcs, cut_list]
  have hsrc : ∀ w', Src Tryz.prog 1 9 (.string (s.extract 0 k)) k (bcs (s.data.toList.take k)) w' := fun w' => by
    have := Src.ofString (P := Tryz.prog) w' Tryz.underlying9 (s.extract 0 k)
    rw [hcut.out] at this
    have e : (s.extract 0 k).size = k := by simpa using e2
    rw [e] at this
    exact this
  have HS := Lib.hid hsrc
  clear hsrc
  go_enter Tryz.func63, Tryz.ntmps63
  go_wp2_with (first | (go_at_call 95; refine (longer_any ao n cap l (2 + k) _ h (by omega) (by omega)).mono ?_; rintro e w1 ⟨g1,c1,rfl,h2,hb1,hg1⟩) | (go_at_call 94; refine (low_any g1 n c1 l k 2 _ rfl _ h2 (by omega) (by omega)).mono ?_; rintro e w2 ⟨g2,c2,rfl,h3,hp2,hg2⟩) | (at_builtin; refine wpList_append_ob rfl _ _ 81 9 rfl 5 byteTy g2 (n + 2) c2 _ rfl h3 _ rfl k _ (HS.out _) (n + (2 + k)) (by omega) _ rfl (by omega) ?_; intro g3 c3 w3 h4 hp3 hg3))
  go_ret
  have hx : XU (k : Int) = k := by unfold XU; omega
  rw [hx, List.append_assoc, ← h1.out, ← hsz.out] at h4
  rw [← hsz.out]
  have s1 := hb1.size
  have s2 := hp2.size
  exact ⟨g3, c3, rfl, h4, (hb1.trans (hp2.below hg1 s1)).trans (hp3.below (by omega) (by omega)), by omega⟩

theorem byte_nil (x : Int) (w : World) : Calls Tryz.prog 62 #[.slice none 0 0, .int .i64 x] w (Fresh w 1 (le 1 (XU x))) :=
  byte_any none 0 0 [] x w (IsB.nilB w) (by omega)
theorem text_nil (s : ByteArray) (w : World) : Calls Tryz.prog 63 #[.slice none 0 0, .string s] w (Fresh w (tx s.data.toList).length (tx s.data.toList)) := by
  have h := text_any none 0 0 [] s w (IsB.nilB w) (by omega)
  rw [Nat.zero_add] at h
  exact h


/-- Block g holds a value, and may be written. -/
structure VAt (w : World) (g : Nat) (k n : Int) (s : ByteArray) : Prop where
  c0 : w.cell? ⟨g, 0, none⟩ = some (.int .i64 k)
  c1 : w.cell? ⟨g, 1, none⟩ = some (.int .i64 n)
  c2 : w.cell? ⟨g, 2, none⟩ = some (.string s)
  f0 : w.frozen? ⟨g, 0, none⟩ = false
  f1 : w.frozen? ⟨g, 1, none⟩ = false
  f2 : w.frozen? ⟨g, 2, none⟩ = false
  lt : g < w.heap.size
section
variable {w w' : World} {g : Nat} {k n : Int} {s : ByteArray}
theorem VAt.past (h : VAt w g k n s) (b : Below w.heap.size w w') : VAt w' g k n s :=
  ⟨(b.cell h.lt).trans h.c0, (b.cell h.lt).trans h.c1, (b.cell h.lt).trans h.c2, (b.frozen h.lt).trans h.f0, (b.frozen h.lt).trans h.f1, (b.frozen h.lt).trans h.f2, Nat.lt_of_lt_of_le h.lt b.size⟩
theorem VAt.grown {row : Option Nat} (h : VAt w g k n s) (b : w.grownBy w' row) (hne : some g ≠ row) : VAt w' g k n s := by
  have hb := b.block g h.lt hne
  have ec : ∀ j, w'.cell? ⟨g, j, none⟩ = w.cell? ⟨g, j, none⟩ := fun j => World.cell?_of_block (w := w) hb
  have ef : ∀ j, w'.frozen? ⟨g, j, none⟩ = w.frozen? ⟨g, j, none⟩ := fun j => by simp [World.frozen?, hb]
  exact ⟨(ec _).trans h.c0, (ec _).trans h.c1, (ec _).trans h.c2, (ef _).trans h.f0, (ef _).trans h.f1, (ef _).trans h.f2, Nat.lt_of_lt_of_le h.lt b.size⟩
theorem VAt.alloc (h : VAt w g k n s) (o : Obj) : VAt (w.alloc o) g k n s := h.past ((Below.refl _ _).alloc (Nat.le_refl _) o)
theorem VAt.drew (h : VAt w g k n s) : VAt w.drew g k n s := h.past (Below.refl _ _).drew
theorem VAt.new (w : World) (k n : Int) (s : ByteArray) : VAt (w.alloc (.cells #[.int .i64 k, .int .i64 n, .string s] 98)) w.heap.size k n s :=
  ⟨by go_simp, by go_simp, by go_simp, by go_simp, by go_simp, by go_simp, by simp⟩
theorem VAt.set (h : VAt w g k n s) (k' n' : Int) (s' : ByteArray) : VAt (((w.setCell ⟨g,0,none⟩ (.int .i64 k')).setCell ⟨g,1,none⟩ (.int .i64 n')).setCell ⟨g,2,none⟩ (.string s')) g k' n' s' := by
  obtain ⟨c0, c1, c2, f0, f1, f2, lt⟩ := h
  exact ⟨by go_simp, by go_simp, by go_simp, by go_simp, by go_simp, by go_simp, by simp [lt]⟩
/-- Block g holds a byte. -/
structure UAt (w : World) (g : Nat) (u : UInt8) : Prop where
  c0 : w.cell? ⟨g, 0, none⟩ = some (.int .u8 (u.toNat : Int))
  lt : g < w.heap.size
theorem UAt.past {u : UInt8} (h : UAt w g u) (b : Below w.heap.size w w') : UAt w' g u := ⟨(b.cell h.lt).trans h.c0, Nat.lt_of_lt_of_le h.lt b.size⟩
theorem UAt.new (w : World) (u : UInt8) : UAt (w.alloc (.cells #[.int .u8 (u.toNat : Int)] 5)) w.heap.size u := ⟨by go_simp, by simp⟩
end

/-- What is written of a value. -/
def encV (v : V) : List UInt8 := le 1 (XU v.k) ++ (if v.k = 1 then le 1 (XU v.n) else if v.k = 2 then le 8 (XU v.n) else if v.k = 3 then tx v.s.data.toList else [])
def encVs (l : List V) : List UInt8 := l.flatMap encV
def encR (l : List V) : List UInt8 := le 1 (XU (l.length : Nat)) ++ encVs l
theorem encVs_cons (v : V) (l : List V) : encVs (v :: l) = encV v ++ encVs l := rfl
theorem encVs_snoc (l : List V) (v : V) : encVs (l ++ [v]) = encVs l ++ encV v := by simp [encVs]
theorem encVs_take (l : List V) (i : Nat) (v : V) (h : l[i]? = some v) : encVs (l.take (i + 1)) = encVs (l.take i) ++ encV v := by
  obtain ⟨hj, rfl⟩ := List.getElem?_eq_some_iff.1 h
  rw [List.take_succ_eq_append_getElem hj, encVs_snoc]
theorem tx_length (s : List UInt8) : (tx s).length ≤ 65537 := by
  unfold tx
  rw [List.length_append, le_length, List.length_take]
  omega
theorem encV_length (v : V) : (encV v).length ≤ 65538 := by
  have := tx_length v.s.data.toList
  unfold encV
  rw [List.length_append, le_length]
  split
  · rw [le_length]; omega
  split
  · rw [le_length]; omega
  split
  · omega
  · simp
theorem encVs_length (l : List V) : (encVs l).length ≤ 65538 * l.length := by
  induction l with
  | nil => simp [encVs]
  | cons v l ih =>
    have := encV_length v
    rw [encVs_cons, List.length_append, List.length_cons]
    omega
set_option maxHeartbeats 1000000 in
theorem valueBytes_any (v : V) (w : World) : Calls Tryz.prog 96 #[v.val] w (Fresh w (encV v).length (encV v)) := by
  obtain ⟨k, n, s⟩ := v
  show Calls Tryz.prog 96 #[vv k n s] w _
  have b0 : ∀ o, Below w.heap.size w (w.alloc o) := fun o => (Below.refl _ _).alloc (Nat.le_refl _) o
  by_cases k1 : k = 1
  · subst k1
    have E : encV ⟨1, n, s⟩ = le 1 (XU 1) ++ le 1 (XU n) := rfl
    rw [E, List.length_append, le_length, le_length]
    clear E
    go_enter Tryz.func96, Tryz.ntmps96
    go_wp2_with (first
      | (go_at_call 62; (with_reducible refine (byte_nil _ _).mono ?_); rintro e w1 ⟨g1,c1,rfl,o1,b1,q1⟩; have B1 := (b0 _).trans (b1.mono (b0 _).size); obtain ⟨z0,z1,z2, -, -, -, -⟩ := (VAt.new w _ _ _).past b1)
      | (go_at_call 62; (with_reducible refine (byte_any _ 1 c1 _ n w1 o1.isB (by omega)).mono ?_); rintro e w2 ⟨g2,c2,rfl,o2,b2,q2⟩; have B2 := B1.trans (b2.mono B1.size)))
    go_ret
    exact ⟨g2, c2, rfl, o2, B2, by have := B1.size; omega⟩
  by_cases k2 : k = 2
  · subst k2
    have E : encV ⟨2, n, s⟩ = le 1 (XU 2) ++ le 8 (XU n) := rfl
    rw [E, List.length_append, le_length, le_length]
    clear E
    go_enter Tryz.func96, Tryz.ntmps96
    go_wp2_with (first
      | (go_at_call 62; (with_reducible refine (byte_nil _ _).mono ?_); rintro e w1 ⟨g1,c1,rfl,o1,b1,q1⟩; have B1 := (b0 _).trans (b1.mono (b0 _).size); obtain ⟨z0,z1,z2, -, -, -, -⟩ := (VAt.new w _ _ _).past b1)
      | (go_at_call 61; (with_reducible refine (int_any _ 1 c1 _ n w1 o1.isB (by omega)).mono ?_); rintro e w2 ⟨g2, c2, rfl, o2, b2, q2⟩; have B2 := B1.trans (b2.mono B1.size)))
    go_ret
    exact ⟨g2, c2, rfl, o2, B2, by have := B1.size; omega⟩
  by_cases k3 : k = 3
  · subst k3
    have E : encV ⟨3, n, s⟩ = le 1 (XU 3) ++ tx s.data.toList := rfl
    rw [E, List.length_append, le_length]
    clear E
    go_enter Tryz.func96, Tryz.ntmps96
    go_wp2_with (first
      | (go_at_call 62; (with_reducible refine (byte_nil _ _).mono ?_); rintro e w1 ⟨g1,c1,rfl,o1,b1,q1⟩; have B1 := (b0 _).trans (b1.mono (b0 _).size); obtain ⟨z0,z1,z2, -, -, -, -⟩ := (VAt.new w _ _ _).past b1)
      | (go_at_call 63; (with_reducible refine (text_any _ 1 c1 _ s w1 o1.isB (by omega)).mono ?_); rintro e w2 ⟨g2,c2,rfl,o2,b2,q2⟩; have B2 := B1.trans (b2.mono B1.size)))
    go_ret
    exact ⟨g2, c2, rfl, o2, B2, by have := B1.size; omega⟩
  · have h1 : (k == 1) = false := by simp [k1]
    have h2 : (k == 2) = false := by simp [k2]
    have h3 : (k == 3) = false := by simp [k3]
    have E : encV ⟨k, n, s⟩ = le 1 (XU k) := by unfold encV; rw [if_neg k1, if_neg k2, if_neg k3, List.append_nil]
    rw [E, le_length]
    clear E k1 k2 k3
    go_enter Tryz.func96, Tryz.ntmps96
    go_wp2_with (go_at_call 62; (with_reducible refine (byte_nil _ _).mono ?_); rintro e w1 ⟨g1,c1,rfl,o1,b1,q1⟩; have B1 := (b0 _).trans (b1.mono (b0 _).size); obtain ⟨z0,z1,z2, -, -, -, -⟩ := (VAt.new w _ _ _).past b1)
    go_ret
    exact ⟨g1, c1, rfl, o1, B1, by have := (b0 (.cells #[.int .i64 k, .int .i64 n, .string s] 98)).size; omega⟩
set_option maxHeartbeats 1000000 in
theorem bytes_any (ao : Option Addr) (n cap : Nat) (l : List V) (w : World) (h : IsR EV w ao n cap l) (hn : n ≤ 300) :
    Calls Tryz.prog 64 #[.slice ao n cap] w (Fresh w (encR l).length (encR l)) := by
  have hln := h.len
  go_enter Tryz.func64, Tryz.ntmps64
  go_wp2_with (go_at_call 62; (with_reducible refine (byte_nil _ _).mono ?_); rintro e w1 ⟨g1, c1, rfl, o1, b1, q1⟩)
  go_loopw [3,11] (fun b i wr => ∃ j g' cap' : Nat,j ≤ n ∧ i = .int .i64 (j : Nat) ∧ b = .slice (some ⟨g',0,none⟩) (1 + (encVs (l.take j)).length) cap' ∧ OwnB wr 5 g' (1 + (encVs (l.take j)).length) cap' (le 1 (XU (n : Nat)) ++ encVs (l.take j)) ∧ Below w.heap.size w wr ∧ w.heap.size ≤ g') (fun _ i _ => n - (intOf i).toNat)
  case atStart => exact ⟨0, g1, c1, by omega, rfl, by simp [encVs], by simpa [encVs] using o1, b1, q1⟩
  case round =>
    obtain ⟨j, g', cap', hj, rfl, rfl, ho, hB, hg⟩ := hrel
    clear o1 b1 q1
    have LJ := encVs_length (l.take j)
    rw [List.length_take] at LJ
    by_cases hlt : j < n
    · obtain ⟨v, hv⟩ : ∃ v, l[j]? = some v := ⟨l[j]'(by omega), List.getElem?_eq_getElem _⟩
      obtain ⟨b, off, rfl, hb, hc⟩ := h.open (by omega) (by decide)
      obtain ⟨c0, c1, c2⟩ := cells_v hc j v hv
      rw [← hB.cell hb] at c0 c1 c2
      have hvb := valueBytes_any v
      have LV := encV_length v
      have HT := Lib.hid (encVs_take l j v hv)
      obtain ⟨k, m, s⟩ := v
      simp only at c0 c1 c2
      simp only [V.val] at hvb
      clear hc
      have LE : (encVs (l.take (j + 1))).length = (encVs (l.take j)).length + (encV ⟨k, m, s⟩).length := by rw [HT.out, List.length_append]
      have LE' := Lib.hid LE
      have AE : Hid (le 1 (XU (n : Nat)) ++ encVs (l.take j) ++ encV ⟨k, m, s⟩ = le 1 (XU (n : Nat)) ++ encVs (l.take (j + 1))) := by rw [HT.out, List.append_assoc]; exact rfl
      clear LE HT
      generalize encV ⟨k, m, s⟩ = t at hvb LV LE' AE
      go_wp2_with (first
        | (go_at_call 96; (with_reducible refine (hvb _).mono ?_); rintro e w2 ⟨g2,c2,rfl,o2,b2,q2⟩; have X := Below.alloc (Below.refl wr.heap.size wr) (Nat.le_refl _) (.cells #[.int .i64 k,.int .i64 m,.string s] 98); have B2 := X.trans (b2.mono X.size))
        | (at_builtin; refine wpList_append_ob rfl _ _ 81 81 rfl 5 byteTy g' (1 + (encVs (l.take j)).length) cap' _ rfl (ho.below B2 ho.lt) _ rfl t.length t (o2.isB.src byteTy.ht) (1 + (encVs (l.take (j + 1))).length) (by rw [LE'.out]; omega) _ AE.out (by rw [LE'.out]; omega) ?_; intro g3 c3 w3 o3 p3 q3))
      have s2 := B2.size
      have s1 := hB.size
      go_roundw
      case rel => exact ⟨j + 1, g3, c3, by omega, by go_num, rfl, o3, (hB.trans (B2.mono s1)).trans (p3.below hg (by omega)), by omega⟩
      case measure => simp [intOf]; omega
    · go_wp2_with fail
      go_ret
      obtain rfl : j = n := by omega
      rw [List.take_of_length_le (by omega)] at ho
      have e : encR l = le 1 (XU (j : Nat)) ++ encVs l := by unfold encR; rw [hln]
      rw [e, List.length_append, le_length]
      rw [List.take_of_length_le (by omega)]
      exact ⟨g', cap', rfl, ho, hB, hg⟩

/-- '(*sync/atomic.Bool).Load'. -/
theorem load_any (a : Addr) (d : Int) (b : Bool) (hb : (d != 0) = b) (w : World) (hc : w.cell? a = some (.int .u32 d)) :
    Calls Tryz.prog 112 #[.pointer (some a)] w fun e w' => e = .returned (.bool b) ∧ w = w' := by
  have hl := run_call_load (P := Tryz.prog) Tryz.func127 (by kernel_rfl) (by kernel_rfl) (by kernel_rfl) .u32 (by kernel_rfl) hc
  go_enter Tryz.func112, Tryz.ntmps112
  go_wp2
  go_ret
  exact ⟨rfl, rfl⟩

theorem disable (w : World) : (callFunc 149 #[]).run Tryz.prog w = .ok (.value (.tuple #[])) w := run_call_mark0 Tryz.func149 (by kernel_rfl) (by kernel_rfl) (by kernel_rfl) .disable (by kernel_rfl) w
theorem enable (w : World) : (callFunc 151 #[]).run Tryz.prog w = .ok (.value (.tuple #[])) w := run_call_mark0 Tryz.func151 (by kernel_rfl) (by kernel_rfl) (by kernel_rfl) .enable (by kernel_rfl) w
theorem acquire (a : Addr) (w : World) : (callFunc 152 #[.pointer (some a)]).run Tryz.prog w = .ok (.value (.tuple #[])) w := run_call_marked Tryz.func152 (by kernel_rfl) (by kernel_rfl) (by kernel_rfl) .acquire (by kernel_rfl) a w
theorem releaseMerge (a : Addr) (w : World) : (callFunc 154 #[.pointer (some a)]).run Tryz.prog w = .ok (.value (.tuple #[])) w := run_call_marked Tryz.func154 (by kernel_rfl) (by kernel_rfl) (by kernel_rfl) .releaseMerge (by kernel_rfl) a w

/-- '(*sync/atomic.Bool).Store(true)', entered as a deferred call: the cell holds 1. -/
theorem store_deferred (a : Addr) (x : Value) (u : FrameMode) (w : World) (hc : w.cell? a = some x) (hz : w.frozen? a = false) :
    CallsD Tryz.prog 130 #[.pointer (some a), .bool true] u w fun e u' w' => u' = u ∧ (e = .returned (.tuple #[]) ∧ w' = w.drew.setCell a (.int .u32 1)) := by
  have hc' : w.drew.cell? a = some x := by go_simp
  have hz' : w.drew.frozen? a = false := by go_simp
  have hst := run_call_store (P := Tryz.prog) Tryz.func142 (by kernel_rfl) (by kernel_rfl) (by kernel_rfl) (by kernel_rfl) (k := .u32) (y := 1) hc' hz'
  go_enter_d Tryz.func130, Tryz.ntmps130
  go_wp2
  go_region_calls
  all_goals (go_end0; exact ⟨rfl, rfl⟩)

set_option maxRecDepth 100000 in
/-- '(*sync.Mutex).Unlock', entered as a deferred call, the lock held and nobody waiting (state 1): state 0. -/
theorem unlock_deferred (a : Addr) (u : FrameMode) (w : World) (hc : w.cell? a = some (.int .i32 1)) (hz : w.frozen? a = false) :
    CallsD Tryz.prog 129 #[.pointer (some a)] u w fun e u' w' => u' = u ∧ (e = .returned (.tuple #[]) ∧ w' = w.setCell a (.int .i32 0)) := by
  have hd := disable
  have he := enable
  have hr := releaseMerge
  have hadd := run_call_add (P := Tryz.prog) Tryz.func155 (by kernel_rfl) (by kernel_rfl) (by kernel_rfl) .i32 (by kernel_rfl) (y := -1) (s := 0) hc hz (by simp [go_sem]; rfl)
  have hcv := run_convert_to_unsafe (P := Tryz.prog) (src := 207) (dst := 211) Tryz.underlying207 Tryz.underlying211 (by kernel_rfl) hc
  go_enter_d Tryz.func129, Tryz.ntmps129
  go_wp2
  go_end0
  go_wp2
  go_end0
  exact ⟨rfl, rfl⟩

set_option maxRecDepth 100000 in
/-- '(*sync.Mutex).Lock', the lock free (state 0): state 1. -/
theorem lock_free (a : Addr) (w : World) (hc : w.cell? a = some (.int .i32 0)) (hz : w.frozen? a = false) :
    Calls Tryz.prog 128 #[.pointer (some a)] w fun e w' => e = .returned (.tuple #[]) ∧ w' = w.setCell a (.int .i32 1) := by
  have hd := disable
  have he := enable
  have ha := acquire
  have hcas := run_call_cas_hit (P := Tryz.prog) Tryz.func150 (by kernel_rfl) (by kernel_rfl) (by kernel_rfl) .i32 (by kernel_rfl) (y := 1) hc hz
  have hc' : (w.setCell a (.int .i32 1)).cell? a = some (.int .i32 1) := World.cell?_setCell_same w a _ hc
  have hcv := run_convert_to_unsafe (P := Tryz.prog) (src := 207) (dst := 211) Tryz.underlying207 Tryz.underlying211 (by kernel_rfl) hc'
  go_enter Tryz.func128, Tryz.ntmps128
  go_wp2
  first | go_end0 | (simp only [Exit.inBlock, Exit.then]; refine bodyPost_ret (results_none rfl _ _ _) rfl ?_) | refine bodyPost_ret (results_none rfl _ _ _) rfl ?_
  go_wp2
  go_end0
  exact ⟨rfl, rfl⟩


def rr (x : UInt32) (n : Nat) : UInt32 := UInt32.ofNat (x.toNat / 2 ^ n) ||| UInt32.ofNat (x.toNat * 2 ^ (32 - n))
def sr (x : UInt32) (n : Nat) : UInt32 := UInt32.ofNat (x.toNat / 2 ^ n)
def bs0 (x : UInt32) : UInt32 := rr x 7 ^^^ rr x 18 ^^^ sr x 3
def bs1 (x : UInt32) : UInt32 := rr x 17 ^^^ rr x 19 ^^^ sr x 10
def cs1 (e : UInt32) : UInt32 := rr e 6 ^^^ rr e 11 ^^^ rr e 25
def cs0 (a : UInt32) : UInt32 := rr a 2 ^^^ rr a 13 ^^^ rr a 22
def ch (e f g : UInt32) : UInt32 := (e &&& f) ^^^ (~~~e &&& g)
def mj (a b c : UInt32) : UInt32 := ((a &&& b) ^^^ (a &&& c)) ^^^ (b &&& c)
structure St where
  a : UInt32
  b : UInt32
  c : UInt32
  d : UInt32
  e : UInt32
  f : UInt32
  g : UInt32
  h : UInt32
def St.one (s : St) (k w : UInt32) : UInt32 := s.h + cs1 s.e + ch s.e s.f s.g + k + w
def St.two (s : St) : UInt32 := cs0 s.a + mj s.a s.b s.c
def St.step (s : St) (k w : UInt32) : St := ⟨s.one k w + s.two, s.a, s.b, s.c, s.d + s.one k w, s.e, s.f, s.g⟩
def K64 : List UInt32 := [
    0x428a2f98, 0x71374491, 0xb5c0fbcf, 0xe9b5dba5, 0x3956c25b, 0x59f111f1, 0x923f82a4, 0xab1c5ed5,
    0xd807aa98, 0x12835b01, 0x243185be, 0x550c7dc3, 0x72be5d74, 0x80deb1fe, 0x9bdc06a7, 0xc19bf174,
    0xe49b69c1, 0xefbe4786, 0x0fc19dc6, 0x240ca1cc, 0x2de92c6f, 0x4a7484aa, 0x5cb0a9dc, 0x76f988da,
    0x983e5152, 0xa831c66d, 0xb00327c8, 0xbf597fc7, 0xc6e00bf3, 0xd5a79147, 0x06ca6351, 0x14292967,
    0x27b70a85, 0x2e1b2138, 0x4d2c6dfc, 0x53380d13, 0x650a7354, 0x766a0abb, 0x81c2c92e, 0x92722c85,
    0xa2bfe8a1, 0xa81a664b, 0xc24b8b70, 0xc76c51a3, 0xd192e819, 0xd6990624, 0xf40e3585, 0x106aa070,
    0x19a4c116, 0x1e376c08, 0x2748774c, 0x34b0bcb5, 0x391c0cb3, 0x4ed8aa4a, 0x5b9cca4f, 0x682e6ff3,
    0x748f82ee, 0x78a5636f, 0x84c87814, 0x8cc70208, 0x90befffa, 0xa4506ceb, 0xbef9a3f7, 0xc67178f2]
def kk (i : Nat) : UInt32 := K64.getD i 0
def ext (W : List UInt32) (i : Nat) : UInt32 := bs1 (W.getD (i - 2) 0) + W.getD (i - 7) 0 + bs0 (W.getD (i - 15) 0) + W.getD (i - 16) 0
def sched (W : List UInt32) : Nat → List UInt32
  | 0 => W
  | n + 1 => sched W n ++ [ext (sched W n) (16 + n)]
def be4 (a b c d : UInt8) : UInt32 := UInt32.ofNat (a.toNat * 16777216 + b.toNat * 65536 + c.toNat * 256 + d.toNat)
def word (l : List UInt8) (i : Nat) : UInt32 := be4 (l.getD (4 * i) 0) (l.getD (4 * i + 1) 0) (l.getD (4 * i + 2) 0) (l.getD (4 * i + 3) 0)
def words (l : List UInt8) (n : Nat) : List UInt32 := (List.range n).map (word l)
def rounds (W : List UInt32) (s : St) : Nat → St
  | 0 => s
  | n + 1 => (rounds W s n).step (kk n) (W.getD n 0)
def St.add (s t : St) : St := ⟨s.a + t.a, s.b + t.b, s.c + t.c, s.d + t.d, s.e + t.e, s.f + t.f, s.g + t.g, s.h + t.h⟩
def St.mix (s : St) (l : List UInt8) : St := s.add (rounds (sched (words l 16) 48) s 64)
def H0 : St := ⟨0x6a09e667, 0xbb67ae85, 0x3c6ef372, 0xa54ff53a, 0x510e527f, 0x9b05688c, 0x1f83d9ab, 0x5be0cd19⟩
def St.l (s : St) : List UInt32 := [s.a, s.b, s.c, s.d, s.e, s.f, s.g, s.h]
def blocks (l : List UInt8) (s : St) : Nat → St
  | 0 => s
  | n + 1 => (blocks l s n).mix (l.drop (64 * n))
def be (k x : Nat) : List UInt8 := (List.range k).map fun i => UInt8.ofNat (x / 256 ^ (k - 1 - i))
def padding (n : Nat) : List UInt8 := 0x80 :: (List.replicate ((119 - n % 64) % 64) 0 ++ be 8 (8 * n))
def padded (l : List UInt8) : List UInt8 := l ++ padding l.length
def sha (l : List UInt8) : List UInt8 := ((blocks (padded l) H0 ((padded l).length / 64)).l.map fun x => be 4 x.toNat).flatten

theorem K64_length : K64.length = 64 := rfl
theorem sched_length (W : List UInt32) : ∀ n, (sched W n).length = W.length + n
  | 0 => rfl
  | n + 1 => by rw [sched, List.length_append, sched_length W n]; rfl
theorem words_length (l : List UInt8) (n : Nat) : (words l n).length = n := by simp [words]
theorem words_snoc (l : List UInt8) (n : Nat) : words l (n + 1) = words l n ++ [word l n] := by simp [words, List.range_succ]
theorem St.l_length (s : St) : s.l.length = 8 := rfl
theorem be_length (k x : Nat) : (be k x).length = k := by simp [be]
theorem sha_length (l : List UInt8) : (sha l).length = 32 := by simp [sha, St.l, be_length]

def u (x : UInt32) : Int := (x.toNat : Int)
theorem u_lo (x : UInt32) : 0 ≤ u x := by unfold u; omega
theorem u_hi (x : UInt32) : u x < 4294967296 := by unfold u; have := x.toNat_lt; omega
theorem u_add (x y : UInt32) : (u x + u y) % 4294967296 = u (x + y) := by
  unfold u; rw [UInt32.toNat_add]; omega
theorem u_xor (x y : UInt32) : bits .xor .u32 (u x) (u y) = u (x ^^^ y) := by
  unfold u; rw [u32_xor_nat _ _ x.toNat_lt y.toNat_lt, UInt32.toNat_xor]
theorem u_and (x y : UInt32) : bits .and .u32 (u x) (u y) = u (x &&& y) := by
  unfold u; rw [u32_and_nat _ _ x.toNat_lt y.toNat_lt, UInt32.toNat_and]
theorem u_or (x y : UInt32) : bits .or .u32 (u x) (u y) = u (x ||| y) := by
  unfold u; rw [u32_or_nat _ _ x.toNat_lt y.toNat_lt, UInt32.toNat_or]
theorem u_not (x : UInt32) : bits .xor .u32 4294967295 (u x) = u (~~~x) := by
  have h : (4294967295 : Int) = u 4294967295 := rfl
  rw [h, u_xor]
  congr 1
theorem u_inv (x : UInt32) : bits .xor .u32 (if IntKind.u32.signed = true then -1 else IntKind.u32.max) (u x) = u (~~~x) := u_not x
theorem u_wrap (x y : UInt32) : IntKind.u32.wrap (u x + u y) = u (x + y) := by rw [IntKind.wrap_u32']; exact u_add x y
theorem u_shr (x : UInt32) (n : Nat) : u x / 2 ^ n = u (sr x n) := by
  unfold u sr
  have h := x.toNat_lt
  have h1 : x.toNat / 2 ^ n ≤ x.toNat := Nat.div_le_self _ _
  rw [UInt32.toNat_ofNat_of_lt' (by show _ < 4294967296; omega)]
  simp
theorem u_shl (x : UInt32) (n : Nat) : u x * 2 ^ n % 4294967296 = u (UInt32.ofNat (x.toNat * 2 ^ n)) := by
  unfold u
  rw [UInt32.toNat_ofNat']
  simp
def ub (x : UInt8) : Int := (x.toNat : Int)
theorem ub_lo (x : UInt8) : 0 ≤ ub x := by unfold ub; omega
theorem ub_hi (x : UInt8) : ub x < 256 := by unfold ub; have := x.toNat_lt; omega
theorem or_parts (x y i : Nat) (h : y < 2 ^ i) : x * 2 ^ i ||| y = x * 2 ^ i + y := by
  have := Nat.shiftLeft_add_eq_or_of_lt h x
  rw [Nat.shiftLeft_eq] at this
  exact this.symm
theorem or_be4 (a b c d : UInt8) : bits .or .u32 (bits .or .u32 (bits .or .u32 (ub a * 16777216) (ub b * 65536)) (ub c * 256)) (ub d) = u (be4 a b c d) := by
  have ha := a.toNat_lt
  have hb := b.toNat_lt
  have hc := c.toNat_lt
  have hd := d.toNat_lt
  unfold ub be4 u
  generalize a.toNat = A at *
  generalize b.toNat = B at *
  generalize c.toNat = C at *
  generalize d.toNat = D at *
  have h1 : A * 16777216 ||| B * 65536 = A * 16777216 + B * 65536 := or_parts A (B * 65536) 24 (by omega)
  have h2 : A * 16777216 + B * 65536 ||| C * 256 = A * 16777216 + B * 65536 + C * 256 := by
    have := or_parts (A * 256 + B) (C * 256) 16 (by omega)
    rwa [show (A * 256 + B) * 2 ^ 16 = A * 16777216 + B * 65536 by omega] at this
  have h3 : A * 16777216 + B * 65536 + C * 256 ||| D = A * 16777216 + B * 65536 + C * 256 + D := by
    have := or_parts (A * 65536 + B * 256 + C) D 8 (by omega)
    rwa [show (A * 65536 + B * 256 + C) * 2 ^ 8 = A * 16777216 + B * 65536 + C * 256 by omega] at this
  have g1 := u32_or_nat (A * 16777216) (B * 65536) (by omega) (by omega)
  have g2 := u32_or_nat (A * 16777216 + B * 65536) (C * 256) (by omega) (by omega)
  have g3 := u32_or_nat (A * 16777216 + B * 65536 + C * 256) D (by omega) (by omega)
  rw [h1] at g1
  rw [h2] at g2
  rw [h3] at g3
  rw [show (A : Int) * 16777216 = ((A * 16777216 : Nat) : Int) by omega,show (B : Int) * 65536 = ((B * 65536 : Nat) : Int) by omega,show (C : Int) * 256 = ((C * 256 : Nat) : Int) by omega,g1,g2,g3]
  rw [UInt32.toNat_ofNat_of_lt' (by show _ < 4294967296; omega)]
def cu (x : UInt32) : Value := .int .u32 (u x)
def cus (L : List UInt32) : Array Value := (L.map cu).toArray
theorem cus_size (L : List UInt32) : (cus L).size = L.length := by simp [cus]
theorem cus_get (L : List UInt32) (j : Nat) : (cus L)[j]? = (L[j]?).map cu := by simp [cus]
theorem cus_one (L : List UInt32) : (cus L).all (·.oneCell') = true := by
  simp [cus, cu, Value.oneCell']

/-- BLOCK g HOLDS THE NUMBERS L. -/
def Ar (w : World) (t : TypeId) (g : Nat) (L : List UInt32) : Prop := w.heap[g]? = some (.cells (cus L) t (0, 0))
theorem Ar.lt {w : World} {t : TypeId} {g : Nat} {L : List UInt32} (h : Ar w t g L) : g < w.heap.size := (Array.getElem?_eq_some_iff.1 h).1
theorem Ar.cell {w : World} {t : TypeId} {g : Nat} {L : List UInt32} (h : Ar w t g L) (j : Nat) (x : UInt32) (hx : L[j]? = some x) : w.cell? ⟨g, j, none⟩ = some (.int .u32 (u x)) := by
  rw [cell_of_row w g j _ t (0, 0) h, cus_get, hx]; rfl
theorem Ar.get {w : World} {t : TypeId} {g : Nat} {L : List UInt32} (h : Ar w t g L) (j : Nat) (hj : j < L.length) : w.cell? ⟨g, j, none⟩ = some (.int .u32 (u (L.getD j 0))) :=
  h.cell j _ (by simp [List.getD, hj])
theorem Ar.free {w : World} {t : TypeId} {g : Nat} {L : List UInt32} (h : Ar w t g L) (j : Nat) : w.frozen? ⟨g, j, none⟩ = false := frozen_of_row w g j _ t h
theorem Ar.kept {w w' : World} {t : TypeId} {g : Nat} {L : List UInt32} (h : Ar w t g L) (k : w'.heap[g]? = w.heap[g]?) : Ar w' t g L := k.trans h
theorem Ar.set {w : World} {t : TypeId} {g : Nat} {L : List UInt32} (h : Ar w t g L) (j : Nat) (x : UInt32) : Ar (w.setCell ⟨g, j, none⟩ (.int .u32 (u x))) t g (L.set j x) := by
  have e := Go.heap_setCell_same w g j _ t (.int .u32 (u x)) h
  unfold Ar
  rw [e]
  congr 2
  simp [cus, cu, List.map_set]
theorem Ar.other {w : World} {t : TypeId} {g : Nat} {L : List UInt32} (h : Ar w t g L) (a : Addr) (v : Value) (hne : g ≠ a.block) : Ar (w.setCell a v) t g L := h.kept (heap_setCell_other w a g v hne)

theorem wpList_alloc_ar {P : Program} {w : World} {ops : Array Oper} {rest : List Oper} {o : Oper} {a : Act} {Q : Exit → Act → World → Prop} (hgd : o.guard = none) (t : TypeId) (ho : o.op = .alloc t) (N : Nat)
    (hz : (P.info? t).map (fun i => i.zero) = some (some (.agg (cus (List.replicate N 0)))))
    (hK : ∀ w' g, Ar w' t g (List.replicate N 0) → Below w.heap.size w w' → w.heap.size ≤ g → wpList P ops Q rest (a.put o.dst (.pointer (some ⟨g, 0, none⟩))) w') :
    wpList P ops Q (o :: rest) a w := wpList_alloc_blk hgd t ho _ hz fun w' g h => hK w' g h
/-- All of such an array is written. -/
theorem wpList_store_ar {P : Program} {w : World} {ops : Array Oper} {rest : List Oper} {o : Oper} {a : Act} {Q : Exit → Act → World → Prop} (hgd : o.guard = none) (ty : TypeId) (x y : Operand) (ho : o.op = .store ty x y)
    (g : Nat) (L M : List UInt32) (hx : a.eval x = .pointer (some ⟨g,0,none⟩)) (hy : a.eval y = .agg (cus M)) (t : TypeId) (hg : Ar w t g L) (N : Nat) (hi : (P.info? ty).map (·.size) = some N) (hl : L.length = N) (hm : M.length = N)
    (hK : ∀ w', Ar w' t g M → w.grownBy w' (some g) → wpList P ops Q rest (a.put o.dst undef) w') :
    wpList P ops Q (o :: rest) a w := by
  refine wpList_store_row hgd ty x y ho g (cus M) hx hy t (cus L) hg (by rw [hi,cus_size,hm]) (by rw [cus_size,cus_size,hl,hm]) (cus_one M) (hK _ (setRow_heap w g _ _ _ _ hg) ⟨rfl,rfl,rfl,by simp,fun k _ hk => setRow_other w g k _ (fun e => hk (by rw [e]))⟩)
/-- All of such an array is read. -/
theorem wpList_load_ar {P : Program} {w : World} {ops : Array Oper} {rest : List Oper} {o : Oper} {a : Act} {Q : Exit → Act → World → Prop} (hgd : o.guard = none) (ty : TypeId) (x : Operand) (ho : o.op = .load ty x)
    (g : Nat) (L : List UInt32) (hx : a.eval x = .pointer (some ⟨g,0,none⟩)) (t : TypeId) (hg : Ar w t g L) (n : Nat) (e : TypeId) (hu : P.underlying ty = some (.array n e)) (N : Nat) (hi : (P.info? ty).map (·.size) = some N) (hl : L.length = N)
    (hK : wpList P ops Q rest (a.put o.dst (.agg (cus L))) w) : wpList P ops Q (o :: rest) a w :=
  wpList_load_row hgd ty x ho g hx t (cus L) (0, 0) _ hg hu rfl (by rw [hi, cus_size, hl]) hK
/-- Byte k of a number, 0 the lowest. -/
def byt (x : UInt32) (k : Nat) : UInt8 := UInt8.ofNat (x.toNat / 256 ^ k)
theorem u_byte3 (x : UInt32) : u x / 16777216 = ub (byt x 3) := by
  have := x.toNat_lt
  unfold u ub byt
  rw [UInt8.toNat_ofNat']
  omega
theorem u_byte2 (x : UInt32) : u x / 65536 % 256 = ub (byt x 2) := by
  unfold u ub byt
  rw [UInt8.toNat_ofNat']
  omega
theorem u_byte1 (x : UInt32) : u x / 256 % 256 = ub (byt x 1) := by
  unfold u ub byt
  rw [UInt8.toNat_ofNat']
  omega
theorem u_byte0 (x : UInt32) : u x % 256 = ub (byt x 0) := by
  unfold u ub byt
  rw [UInt8.toNat_ofNat']
  omega
/-- The state with its first t numbers grown by T's. -/
def sums (S T : St) : Nat → List UInt32
  | 0 => S.l
  | t + 1 => (sums S T t).set t (S.l.getD t 0 + T.l.getD t 0)
theorem sums_length (S T : St) : ∀ t, (sums S T t).length = 8
  | 0 => rfl
  | t + 1 => by rw [sums, List.length_set, sums_length S T t]
theorem sums_get (S T : St) (t : Nat) (h : t < 8) : (sums S T t).getD t 0 = S.l.getD t 0 := by
  match t, h with
  | 0, _ => rfl
  | 1, _ => rfl
  | 2, _ => rfl
  | 3, _ => rfl
  | 4, _ => rfl
  | 5, _ => rfl
  | 6, _ => rfl
  | 7, _ => rfl
theorem sums_all (S T : St) : sums S T 8 = (S.add T).l := rfl
/-- The first 4 t bytes of the answer. -/
def outs (S : St) : Nat → List UInt8
  | 0 => List.replicate 32 0
  | t + 1 => ((((outs S t).set (4 * t) (byt (S.l.getD t 0) 3)).set (4 * t + 1) (byt (S.l.getD t 0) 2)).set (4 * t + 2) (byt (S.l.getD t 0) 1)).set (4 * t + 3) (byt (S.l.getD t 0) 0)
theorem outs_all (S : St) : outs S 8 = (S.l.map fun x => be 4 x.toNat).flatten := by kernel_rfl
theorem outs_length (S : St) : ∀ t, (outs S t).length = 32
  | 0 => rfl
  | t + 1 => by simp [outs, outs_length S t]
/-- BLOCK g HOLDS THE BYTES l. -/
def Ab (w : World) (t : TypeId) (g : Nat) (l : List UInt8) : Prop := w.heap[g]? = some (.cells (l.map fun x => Value.int .u8 (ub x)).toArray t (0, 0))
theorem Ab.lt {w : World} {t : TypeId} {g : Nat} {l : List UInt8} (h : Ab w t g l) : g < w.heap.size := (Array.getElem?_eq_some_iff.1 h).1
theorem Ab.cell {w : World} {t : TypeId} {g : Nat} {l : List UInt8} (h : Ab w t g l) (j : Nat) (hj : j < l.length) : w.cell? ⟨g, j, none⟩ = some (.int .u8 (ub (l.getD j 0))) := by
  rw [cell_of_row w g j _ t (0, 0) h]
  simp [List.getD, hj]
theorem Ab.free {w : World} {t : TypeId} {g : Nat} {l : List UInt8} (h : Ab w t g l) (j : Nat) : w.frozen? ⟨g, j, none⟩ = false := frozen_of_row w g j _ t h
theorem Ab.kept {w w' : World} {t : TypeId} {g : Nat} {l : List UInt8} (h : Ab w t g l) (k : w'.heap[g]? = w.heap[g]?) : Ab w' t g l := k.trans h
theorem Ab.set {w : World} {t : TypeId} {g : Nat} {l : List UInt8} (h : Ab w t g l) (j : Nat) (x : UInt8) : Ab (w.setCell ⟨g, j, none⟩ (.int .u8 (ub x))) t g (l.set j x) := by
  have e := Go.heap_setCell_same w g j _ t (.int .u8 (ub x)) h
  unfold Ab
  rw [e]
  congr 2
  simp [List.map_set]
theorem Ab.drew {w : World} {t : TypeId} {g : Nat} {l : List UInt8} (h : Ab w t g l) : Ab w.drew t g l := h
theorem u8_byte3 (x : UInt32) : IntKind.u8.wrap (u x / 16777216) = ub (byt x 3) := by
  rw [IntKind.wrap_u8', u_byte3]
  exact Int.emod_eq_of_lt (ub_lo _) (ub_hi _)
theorem u8_byte2 (x : UInt32) : IntKind.u8.wrap (u x / 65536) = ub (byt x 2) := by rw [IntKind.wrap_u8', u_byte2]
theorem u8_byte1 (x : UInt32) : IntKind.u8.wrap (u x / 256) = ub (byt x 1) := by rw [IntKind.wrap_u8', u_byte1]
theorem u8_byte0 (x : UInt32) : IntKind.u8.wrap (u x) = ub (byt x 0) := by rw [IntKind.wrap_u8', u_byte0]
theorem ub_wrap (x : UInt8) : IntKind.u8.wrap (ub x) = ub x := by
  rw [IntKind.wrap_u8']
  exact Int.emod_eq_of_lt (ub_lo _) (ub_hi _)
theorem ub_mod (x : UInt8) : ub x % 256 = ub x := Int.emod_eq_of_lt (ub_lo _) (ub_hi _)
theorem far_cell {g h : Nat} (hne : g ≠ h) (w : World) (i j : Nat) (v : Value) : (w.setCell ⟨h, i, none⟩ v).cell? ⟨g, j, none⟩ = w.cell? ⟨g, j, none⟩ :=
  World.cell?_setCell_other w _ _ _ (fun e => hne (by cases e; rfl))

def smL (st : List UInt32) (blk : List UInt8) (used : Nat) (len : Int) (last : List UInt8) (mid : List Value) (sch : List UInt32) : List Value :=
  st.map cu ++ (bcs blk ++ ([.int .i64 used, .int .u64 len] ++ (bcs last ++ (mid ++ sch.map cu))))
/-- BLOCK g HOLDS SUCH A SUM. -/
structure Sm (w : World) (g : Nat) (st : List UInt32) (blk : List UInt8) (used : Nat) (len : Int) (last : List UInt8) (mid : List Value) (sch : List UInt32) : Prop where
  row : w.heap[g]? = some (.cells (smL st blk used len last mid sch).toArray 169 (0, 0))
  l1 : st.length = 8
  l2 : blk.length = 64
  l3 : last.length = 64
  l4 : sch.length = 64
  lm : mid.length = 3

section
variable {w w' : World} {g used : Nat} {len : Int} {st sch : List UInt32} {blk last : List UInt8} {mid : List Value}
theorem Sm.lt (h : Sm w g st blk used len last mid sch) : g < w.heap.size := (Array.getElem?_eq_some_iff.1 h.row).1
theorem Sm.kept (h : Sm w g st blk used len last mid sch) (k : w'.heap[g]? = w.heap[g]?) : Sm w' g st blk used len last mid sch := ⟨k.trans h.row, h.l1, h.l2, h.l3, h.l4, h.lm⟩
theorem Sm.free (h : Sm w g st blk used len last mid sch) (j : Nat) : w.frozen? ⟨g, j, none⟩ = false := frozen_of_row w g j _ _ h.row
theorem Sm.at (h : Sm w g st blk used len last mid sch) (j : Nat) (v : Value) (hv : (smL st blk used len last mid sch)[j]? = some v) : w.cell? ⟨g, j, none⟩ = some v := by
  rw [cell_of_row w g j _ _ (0, 0) h.row, List.getElem?_toArray]
  exact hv
theorem app_get {α : Type} {A B : List α} {n j : Nat} (h : A.length = n) : (A ++ B)[n + j]? = B[j]? := by
  subst h
  rw [List.getElem?_append_right (by omega), Nat.add_sub_cancel_left]
theorem app_set {α : Type} {A B : List α} {n j : Nat} {v : α} (h : A.length = n) : (A ++ B).set (n + j) v = A ++ B.set j v := by
  subst h
  rw [List.set_append_right _ _ (by omega), Nat.add_sub_cancel_left]
theorem Sm.st_cell (h : Sm w g st blk used len last mid sch) (j : Nat) (hj : j < 8) : w.cell? ⟨g, j, none⟩ = some (.int .u32 (u (st.getD j 0))) := by
  refine h.at j _ ?_
  have hl := h.l1
  unfold smL
  rw [List.getElem?_append_left (by simp; omega)]
  simp [cu, List.getD, show j < st.length by omega]
theorem Sm.blk_cell (h : Sm w g st blk used len last mid sch) (j : Nat) (hj : j < 64) : w.cell? ⟨g, 8 + j, none⟩ = some (.int .u8 (ub (blk.getD j 0))) := by
  refine h.at (8 + j) _ ?_
  have hl := h.l2
  unfold smL
  rw [app_get (by simp [h.l1]), List.getElem?_append_left (by simp [bcs]; omega)]
  simp [bcs, bc, ub, List.getD, show j < blk.length by omega]
theorem Sm.used_cell (h : Sm w g st blk used len last mid sch) : w.cell? ⟨g, 72, none⟩ = some (.int .i64 used) := by
  refine h.at (8 + (64 + 0)) _ ?_
  unfold smL
  rw [app_get (by simp [h.l1]), app_get (by simp [bcs, h.l2])]
  rfl
theorem Sm.len_cell (h : Sm w g st blk used len last mid sch) : w.cell? ⟨g, 73, none⟩ = some (.int .u64 len) := by
  refine h.at (8 + (64 + 1)) _ ?_
  unfold smL
  rw [app_get (by simp [h.l1]), app_get (by simp [bcs, h.l2])]
  rfl
theorem Sm.last_cell (h : Sm w g st blk used len last mid sch) (j : Nat) (hj : j < 64) : w.cell? ⟨g, 74 + j, none⟩ = some (.int .u8 (ub (last.getD j 0))) := by
  refine h.at (74 + j) _ ?_
  have hl := h.l3
  rw [show 74 + j = 8 + (64 + (2 + j)) by omega]
  unfold smL
  rw [app_get (by simp [h.l1]), app_get (by simp [bcs, h.l2]), app_get (n := 2) rfl, List.getElem?_append_left (by simp [bcs]; omega)]
  simp [bcs, bc, ub, List.getD, show j < last.length by omega]
theorem Sm.mid_cell (h : Sm w g st blk used len last mid sch) (j : Nat) (v : Value) (hj : mid[j]? = some v) : w.cell? ⟨g, 138 + j, none⟩ = some v := by
  refine h.at (138 + j) _ ?_
  have hl := (List.getElem?_eq_some_iff.1 hj).1
  rw [show 138 + j = 8 + (64 + (2 + (64 + j))) by omega]
  unfold smL
  rw [app_get (by simp [h.l1]), app_get (by simp [bcs, h.l2]), app_get (n := 2) rfl, app_get (by simp [bcs, h.l3]), List.getElem?_append_left hl]
  exact hj
theorem Sm.sch_cell (h : Sm w g st blk used len last mid sch) (j : Nat) (hj : j < 64) : w.cell? ⟨g, 141 + j, none⟩ = some (.int .u32 (u (sch.getD j 0))) := by
  refine h.at (141 + j) _ ?_
  have hl := h.l4
  rw [show 141 + j = 8 + (64 + (2 + (64 + (3 + j)))) by omega]
  unfold smL
  rw [app_get (by simp [h.l1]), app_get (by simp [bcs, h.l2]), app_get (n := 2) rfl, app_get (by simp [bcs, h.l3]), app_get h.lm]
  simp [cu, List.getD, show j < sch.length by omega]
theorem Sm.put (h : Sm w g st blk used len last mid sch) (j : Nat) (v : Value) : (w.setCell ⟨g,j,none⟩ v).heap[g]? = some (.cells ((smL st blk used len last mid sch).set j v).toArray 169 (0,0)) := by
  rw [Go.heap_setCell_same w g j _ _ v h.row]
  simp
theorem Sm.set_st (h : Sm w g st blk used len last mid sch) (j : Nat) (x : UInt32) (hj : j < 8) : Sm (w.setCell ⟨g, j, none⟩ (.int .u32 (u x))) g (st.set j x) blk used len last mid sch := by
  refine ⟨(h.put j _).trans ?_, by simp [h.l1], h.l2, h.l3, h.l4, h.lm⟩
  have hl := h.l1
  unfold smL
  rw [List.set_append_left _ _ (by simp; omega), List.map_set]
  rfl
theorem Sm.set_mid (h : Sm w g st blk used len last mid sch) (j : Nat) (v : Value) (hj : j < 3) : Sm (w.setCell ⟨g, 138 + j, none⟩ v) g st blk used len last (mid.set j v) sch := by
  refine ⟨(h.put (138 + j) _).trans ?_, h.l1, h.l2, h.l3, h.l4, by simp [h.lm]⟩
  have hl := h.lm
  rw [show 138 + j = 8 + (64 + (2 + (64 + j))) by omega]
  unfold smL
  rw [app_set (by simp [h.l1]), app_set (by simp [bcs, h.l2]), app_set (n := 2) rfl, app_set (by simp [bcs, h.l3]), List.set_append_left _ _ (by omega)]
theorem Sm.set_sch (h : Sm w g st blk used len last mid sch) (j : Nat) (x : UInt32) (_hj : j < 64) : Sm (w.setCell ⟨g, 141 + j, none⟩ (.int .u32 (u x))) g st blk used len last mid (sch.set j x) := by
  refine ⟨(h.put (141 + j) _).trans ?_, h.l1, h.l2, h.l3, by simp [h.l4], h.lm⟩
  have hl := h.l4
  rw [show 141 + j = 8 + (64 + (2 + (64 + (3 + j)))) by omega]
  unfold smL
  rw [app_set (by simp [h.l1]), app_set (by simp [bcs, h.l2]), app_set (n := 2) rfl, app_set (by simp [bcs, h.l3]), app_set h.lm, List.map_set]
  rfl
theorem Sm.set_used (h : Sm w g st blk used len last mid sch) (n : Nat) : Sm (w.setCell ⟨g, 72, none⟩ (.int .i64 n)) g st blk n len last mid sch := by
  refine ⟨(h.put (8 + (64 + 0)) _).trans ?_, h.l1, h.l2, h.l3, h.l4, h.lm⟩
  unfold smL
  rw [app_set (by simp [h.l1]), app_set (by simp [bcs, h.l2])]
  rfl
theorem Sm.set_len (h : Sm w g st blk used len last mid sch) (n : Int) : Sm (w.setCell ⟨g, 73, none⟩ (.int .u64 n)) g st blk used n last mid sch := by
  refine ⟨(h.put (8 + (64 + 1)) _).trans ?_, h.l1, h.l2, h.l3, h.l4, h.lm⟩
  unfold smL
  rw [app_set (by simp [h.l1]), app_set (by simp [bcs, h.l2])]
  rfl
end

theorem region_tail {P : Program} {id : Nat} {Q : Exit → Act → World → Prop} {a : Act} {w : World} {l : List Oper} (n : Nat) (hm : P.follows .mixedOrders = true) (hB : Region.lexTailB .any l.toArray n = true)
    (h : ∀ w1 : World,Hid (w1.heap = w.heap) → Below w.heap.size w w1 → wpStill P l.toArray w1 (fun a' => wpList P l.toArray Q (l.drop n) a' w1) (l.take n) a) : (Code.region id l.toArray true).wp P Q a w :=
  wp_region_still_tail n hm hB (h w.drew rfl (Below.refl _ _).drew)
theorem region_all {P : Program} {id : Nat} {Q : Exit → Act → World → Prop} {a : Act} {w : World} {l : List Oper} (hm : P.follows .mixedOrders = true) (hB : Region.lexB .any l.toArray = true)
    (h : ∀ w1 : World, Hid (w1.heap = w.heap) → Below w.heap.size w w1 → wpStill P l.toArray w1 (fun a' => Q .normal a' w1) l a) : (Code.region id l.toArray true).wp P Q a w :=
  wp_region_still_lit hm hB (h w.drew rfl (Below.refl _ _).drew)
theorem cell_hid {w w1 : World} (h : Hid (w1.heap = w.heap)) {p : Addr} {v : Value} (hc : w.cell? p = some v) : w1.cell? p = some v := by
  have e : w1.cell? p = w.cell? p := by simp [World.cell?, h.out]
  rw [e, hc]
theorem heap_hid {w w1 : World} (h : Hid (w1.heap = w.heap)) (g : Nat) : w1.heap[g]? = w.heap[g]? := by rw [h.out]
theorem below_drewN {B : Nat} {a w w1 : World} {n : Nat} (h : Below B a w) (k : Below (w.drewN n).heap.size (w.drewN n) w1) (hB : B ≤ w.heap.size) : Below B a w1 :=
  h.trans ⟨k.os, k.tape, k.output, k.size, fun i hi => k.block i (Nat.lt_of_lt_of_le hi hB)⟩

theorem and31 : ∀ n : Fin 32, 1 ≤ n.1 → bits .and .u64 (IntKind.u64.wrap (-(n.1 : Int))) 31 = ((32 - n.1 : Nat) : Int) := by decide +kernel
theorem rotl_any (x : UInt32) (n : Nat) (w : World) (hn : 1 ≤ n ∧ n ≤ 31) :
    Calls Tryz.prog 157 #[.int .u32 (u x), .int .i64 (-(n : Int))] w fun e w' => e = .returned (.int .u32 (u (rr x n))) ∧ w' = w := by
  have h1 := u_lo x
  have h2 := u_hi x
  have e := and31 ⟨n, by omega⟩ hn.1
  simp only at e
  have hk : 1 ≤ 32 - n ∧ 32 - n ≤ 31 := by omega
  have E : Hid (bits BinOp.or IntKind.u32 (u x * 2 ^ (32 - n) % 4294967296) (u x / 2 ^ (32 - (32 - n))) = u (rr x n)) := by
    unfold Hid
    rw [u_shr, u_shl, u_or, show 32 - (32 - n) = n by omega]
    unfold rr sr
    rw [UInt32.or_comm]
  generalize 32 - n = k at e hk E
  go_enter Tryz.func157, Tryz.ntmps157
  go_wp2_with fail
  go_ret
  exact ⟨ret_int E.out, rfl⟩

theorem right_any (x : UInt32) (n : Nat) (w : World) (hn : 1 ≤ n ∧ n ≤ 31) :
    Calls Tryz.prog 147 #[.int .u32 (u x), .int .i64 n] w fun e w' => e = .returned (.int .u32 (u (rr x n))) ∧ w' = w := by
  go_enter Tryz.func147, Tryz.ntmps147
  go_wp2_with (go_at_call 157; refine (rotl_any x n _ hn).mono ?_; rintro e w' ⟨rfl, rfl⟩)
  go_ret
  exact ⟨rfl, rfl⟩

theorem turned_any (x : UInt32) (i j k : Nat) (w : World) (hi : 1 ≤ i ∧ i ≤ 31) (hj : 1 ≤ j ∧ j ≤ 31) (hk : 1 ≤ k ∧ k ≤ 31) :
    Calls Tryz.prog 136 #[.int .u32 (u x), .int .i64 i, .int .i64 j, .int .i64 k] w fun e w' => e = .returned (.int .u32 (u (rr x i ^^^ rr x j ^^^ rr x k))) ∧ w' = w := by
  have r1 := u_xor
  go_enter Tryz.func136, Tryz.ntmps136
  go_wp2_with (go_at_call 147; refine (right_any x _ _ (by omega)).mono ?_; rintro e w' ⟨rfl, rfl⟩)
  go_ret
  exact ⟨rfl, rfl⟩

theorem shifted_any (x : UInt32) (i j k : Nat) (w : World) (hi : 1 ≤ i ∧ i ≤ 31) (hj : 1 ≤ j ∧ j ≤ 31) (hk : 1 ≤ k ∧ k ≤ 31) :
    Calls Tryz.prog 146 #[.int .u32 (u x),.int .i64 i,.int .i64 j,.int .i64 k] w fun e w' => e = .returned (.int .u32 (u (rr x i ^^^ rr x j ^^^ sr x k))) ∧ ∃ n,w' = w.drewN n := by
  have r1 := u_xor
  have r2 := u_shr
  have lo := u_lo x
  have hi := u_hi x
  go_enter Tryz.func146, Tryz.ntmps146
  go_wp2_with fail
  go_quiet ((go_at_call 147; exact Calls.quiet_of_same (right_any x _ _ (by omega))))
  go_wp2_with fail
  go_ret
  exact ⟨rfl, nq, rfl⟩
theorem shifted_lit (x : UInt32) (i j k : Int) (w : World) (hi : 1 ≤ i ∧ i ≤ 31) (hj : 1 ≤ j ∧ j ≤ 31) (hk : 1 ≤ k ∧ k ≤ 31) :
    Calls Tryz.prog 146 #[.int .u32 (u x),.int .i64 i,.int .i64 j,.int .i64 k] w fun e w' => e = .returned (.int .u32 (u (rr x i.toNat ^^^ rr x j.toNat ^^^ sr x k.toNat))) ∧ ∃ n,w' = w.drewN n := by
  obtain ⟨a, rfl⟩ := Int.eq_ofNat_of_zero_le (show 0 ≤ i by omega)
  obtain ⟨b, rfl⟩ := Int.eq_ofNat_of_zero_le (show 0 ≤ j by omega)
  obtain ⟨c, rfl⟩ := Int.eq_ofNat_of_zero_le (show 0 ≤ k by omega)
  exact shifted_any x a b c w (by omega) (by omega) (by omega)
theorem turned_lit (x : UInt32) (i j k : Int) (w : World) (hi : 1 ≤ i ∧ i ≤ 31) (hj : 1 ≤ j ∧ j ≤ 31) (hk : 1 ≤ k ∧ k ≤ 31) :
    Calls Tryz.prog 136 #[.int .u32 (u x),.int .i64 i,.int .i64 j,.int .i64 k] w fun e w' => e = .returned (.int .u32 (u (rr x i.toNat ^^^ rr x j.toNat ^^^ rr x k.toNat))) ∧ w' = w := by
  obtain ⟨a, rfl⟩ := Int.eq_ofNat_of_zero_le (show 0 ≤ i by omega)
  obtain ⟨b, rfl⟩ := Int.eq_ofNat_of_zero_le (show 0 ≤ j by omega)
  obtain ⟨c, rfl⟩ := Int.eq_ofNat_of_zero_le (show 0 ≤ k by omega)
  exact turned_any x a b c w (by omega) (by omega) (by omega)

theorem take_set_snoc (L : List UInt32) (k : Nat) (x : UInt32) (h : k < L.length) : (L.set k x).take (k + 1) = L.take k ++ [x] := by
  rw [List.take_add_one, List.getElem?_set_self h, List.take_set_of_le (Nat.le_refl _)]
  rfl
theorem ext_take (L : List UInt32) (i : Nat) (h1 : 16 ≤ i) : ext (L.take i) i = ext L i := by
  have e : ∀ d, 1 ≤ d → d ≤ 16 → (L.take i).getD (i - d) 0 = L.getD (i - d) 0 := fun d a b => by
    simp only [List.getD]
    rw [List.getElem?_take_of_lt (by omega)]
  unfold ext
  rw [e 2 (by omega) (by omega), e 7 (by omega) (by omega), e 15 (by omega) (by omega), e 16 (by omega) (by omega)]
theorem sched_step (L W : List UInt32) (i : Nat) (h1 : 16 ≤ i) (h2 : i < L.length) (h : L.take i = sched W (i - 16)) : (L.set i (ext L i)).take (i + 1) = sched W (i + 1 - 16) := by
  rw [take_set_snoc L i _ h2, show i + 1 - 16 = (i - 16) + 1 by omega, sched, ← h, show 16 + (i - 16) = i by omega, ext_take L i h1]
theorem grown_set {w a : World} {g i : Nat} {v : Value} (h : w.grownBy a (some g)) : w.grownBy (a.setCell ⟨g, i, none⟩ v) (some g) :=
  ⟨h.os, h.tape, h.output, by have := h.size; simpa [World.setCell] using this, fun k hk hne => by
    rw [Below.heap_setCell _ _ _ _ (fun e => hne (by rw [e])), h.block k hk hne]⟩
theorem grown_row {w a b : World} {r : Option Nat} (h : w.grownBy a r) (k : Below a.heap.size a b) : w.grownBy b r :=
  ⟨k.os.trans h.os, k.tape.trans h.tape, k.output.trans h.output, Nat.le_trans h.size k.size, fun i hi hne => by
    have := h.size
    rw [k.block i (by omega), h.block i hi hne]⟩
theorem bcs_all (l : List UInt8) : (bcs l).toArray.all (·.oneCell') = true := by
  simp only [Array.all_eq_true_iff_forall_mem, List.mem_toArray]
  exact bcs_one l
theorem grown_both {a b c : World} {g : Nat} (h : a.grownBy b (some g)) (k : b.drew.grownBy c (some g)) : a.grownBy c (some g) :=
  ⟨k.os.trans h.os, k.tape.trans h.tape, k.output.trans h.output, Nat.le_trans h.size k.size, fun i hi hne => (k.block i (Nat.lt_of_lt_of_le hi h.size) hne).trans (h.block i hi hne)⟩
theorem grown_then {a b c : World} {g : Nat} (h : a.grownBy b (some g)) (k : b.grownBy c (some g)) : a.grownBy c (some g) :=
  ⟨k.os.trans h.os, k.tape.trans h.tape, k.output.trans h.output, Nat.le_trans h.size k.size, fun i hi hne => (k.block i (Nat.lt_of_lt_of_le hi h.size) hne).trans (h.block i hi hne)⟩
theorem gbelow {a b : World} {g : Nat} (h : a.grownBy b (some g)) (hg : g ≤ a.heap.size) : Below g a b :=
  ⟨h.os, h.tape, h.output, h.size, fun k hk => h.block k (by omega) (fun e => by have := Option.some.inj e; omega)⟩
theorem word_at {P : List UInt8} {a k : Nat} {b0 b1 b2 b3 : UInt8} (h0 : P[64 * a + 4 * k]? = some b0) (h1 : P[64 * a + 4 * k + 1]? = some b1) (h2 : P[64 * a + 4 * k + 2]? = some b2) (h3 : P[64 * a + 4 * k + 3]? = some b3) :
    word (P.drop (64 * a)) k = be4 b0 b1 b2 b3 := by
  unfold word
  simp only [List.getD, List.getElem?_drop, ← Nat.add_assoc, h0, h1, h2, h3, Option.getD_some]
theorem sched_turn (a b c d : UInt32) : a + b + c + d = d + b + c + a := by
  rw [UInt32.add_comm (a + b + c) d, UInt32.add_comm a b, UInt32.add_assoc b a c, UInt32.add_comm a c, ← UInt32.add_assoc, ← UInt32.add_assoc]
theorem grown_drewN {w a : World} {r : Option Nat} {n : Nat} (h : w.grownBy a r) : w.grownBy (a.drewN n) r := ⟨h.os, h.tape, h.output, h.size, h.block⟩

theorem slice_blk (g o k : Nat) (hk : k < 16) (w : World) :
    (Instr.sliceAt 165 (.pointer (some ⟨g,o,none⟩)) (some (.int .i64 (4 * (k : Int)))) (some (.int .i64 (4 * (k : Int) + 4))) none).run Tryz.prog w = .ok (.slice (some ⟨g,o + 4 * k,none⟩) 4 (64 - 4 * k)) w := by
  have hz : ∀ w', (sizeOf (Tryz.prog.elem 165)).run Tryz.prog w' = .ok 1 w' := fun w' => by kernel_rfl
  have hn : Tryz.prog.arrayLen 165 = 64 := by kernel_rfl
  rw [run_sliceAt_array_lh w 165 ⟨g, o, none⟩ (by kernel_rfl) .i64 .i64 _ _ (by omega) (by omega) (by rw [hn]; omega), hz, hn]
  simp only [Result.andThen_ok, slicedAt]
  have e1 : (4 * (k : Int)).toNat = 4 * k := by omega
  have e2 : (4 * (k : Int) + 4).toNat = 4 * k + 4 := by omega
  rw [e1, e2, if_neg (by omega), Addr.add_lit, Nat.mul_one, show 4 * k + 4 - 4 * k = 4 by omega]

set_option maxRecDepth 100000 in
set_option maxHeartbeats 4000000 in
theorem spread_any (g : Nat) (st : List UInt32) (blk : List UInt8) (used : Nat) (len : Int) (last : List UInt8) (mid : List Value) (sch : List UInt32) (w : World) (h : Sm w g st blk used len last mid sch) :
    Calls Tryz.prog 135 #[.pointer (some ⟨g,74,none⟩)] w fun e w' => e = .returned (.tuple #[]) ∧ Sm w' g st blk used len last mid (sched (words last 16) 48) ∧ w.grownBy w' (some g) := by
  go_enter Tryz.func135, Tryz.ntmps135
  go_wp2_with fail
  go_loopw [11] (fun i wq => ∃ (k : Nat) (L : List UInt32),k ≤ 16 ∧ i = .int .i64 k ∧ Sm wq g st blk used len last mid L ∧ Hid (L.take k = words last k) ∧ w.grownBy wq (some g)) (fun i _ => 16 - (intOf i).toNat)
  case atStart => exact ⟨0, sch, Nat.zero_le _, rfl, h, rfl, World.grownBy.refl _ _⟩
  case round =>
    obtain ⟨k, L, hk, rfl, hS, ht, hg⟩ := hrel
    by_cases hk16 : k < 16
    · have y0 := hS.last_cell (4 * k) (by omega)
      have y1 := hS.last_cell (4 * k + 1) (by omega)
      rw [← Nat.add_assoc] at y1
      have y2 := hS.last_cell (4 * k + 2) (by omega)
      rw [← Nat.add_assoc] at y2
      have y3 := hS.last_cell (4 * k + 3) (by omega)
      rw [← Nat.add_assoc] at y3
      have HW : Hid (word last k = be4 (last.getD (4 * k) 0) (last.getD (4 * k + 1) 0) (last.getD (4 * k + 2) 0) (last.getD (4 * k + 3) 0)) := rfl
      generalize last.getD (4 * k) 0 = b0 at y0 HW
      generalize last.getD (4 * k + 1) 0 = b1 at y1 HW
      generalize last.getD (4 * k + 2) 0 = b2 at y2 HW
      generalize last.getD (4 * k + 3) 0 = b3 at y3 HW
      have lo0 := ub_lo b0
      have hi0 := ub_hi b0
      have lo1 := ub_lo b1
      have hi1 := ub_hi b1
      have lo2 := ub_lo b2
      have hi2 := ub_hi b2
      have lo3 := ub_lo b3
      have hi3 := ub_hi b3
      have m1 : 4 * (k : Int) + 4 ≤ 64 := by omega
      have k64 : (k : Int) < 64 := by omega
      have hsl := slice_blk g 74 k hk16
      go_wp2_with fail
      refine region_tail 26 (by kernel_rfl) (by kernel_rfl) ?_
      intro wx hx bx
      replace y0 := cell_hid hx y0
      replace y1 := cell_hid hx y1
      replace y2 := cell_hid hx y2
      replace y3 := cell_hid hx y3
      have hSx := hS.kept (heap_hid hx g)
      have tw := hSx.sch_cell k (by omega)
      have tf := hSx.free (141 + k)
      simp only [List.take_succ_cons, List.take_zero, List.drop_succ_cons, List.drop_zero]
      iterate 26 still_step
      refine wpStill_nil ?_
      go_wp2_with fail
      go_roundw
      case rel =>
        refine ⟨k + 1, L.set k (be4 b0 b1 b2 b3), by omega, by go_num, ?_, ?_, ?_⟩
        · have := hSx.set_sch k (be4 b0 b1 b2 b3) (by omega)
          rw [← or_be4] at this
          exact this
        · unfold Hid
          rw [words_snoc, HW.out, ← ht.out]
          exact take_set_snoc _ _ _ (by have := hSx.l4; omega)
        · exact grown_set (grown_row hg bx)
      case measure => simp [intOf]; omega
    · obtain rfl : k = 16 := by omega
      have HT : Hid (L.take 16 = words last 16) := ht
      clear ht hk hk16
      go_wp2_with fail
      simp only [show ((16 : Nat) : Int) = 16 from rfl]
      go_loopw [5] (fun i wq => ∃ (i0 : Nat) (L1 : List UInt32),16 ≤ i0 ∧ i0 ≤ 64 ∧ i = .int .i64 i0 ∧ Sm wq g st blk used len last mid L1 ∧ Hid (L1.take i0 = sched (words last 16) (i0 - 16)) ∧ w.grownBy wq (some g)) (fun i _ => 64 - (intOf i).toNat)
      case atStart => exact ⟨16, L, by omega, by omega, rfl, hS, HT, hg⟩
      case round =>
        clear hS HT hg
        obtain ⟨i, L1, hi1, hi2, rfl, hS, HT, hg⟩ := hrel
        by_cases hi3 : i < 64
        · have x15 := hS.sch_cell (i - 15) (by omega)
          have x2 := hS.sch_cell (i - 2) (by omega)
          have x7 := hS.sch_cell (i - 7) (by omega)
          have x16 := hS.sch_cell (i - 16) (by omega)
          have HE : Hid (ext L1 i = bs1 (L1.getD (i - 2) 0) + L1.getD (i - 7) 0 + bs0 (L1.getD (i - 15) 0) + L1.getD (i - 16) 0) := rfl
          generalize L1.getD (i - 15) 0 = a15 at x15 HE
          generalize L1.getD (i - 2) 0 = a2 at x2 HE
          generalize L1.getD (i - 7) 0 = a7 at x7 HE
          generalize L1.getD (i - 16) 0 = a16 at x16 HE
          have HF : Hid (ext L1 i = a16 + a7 + (rr a15 7 ^^^ rr a15 18 ^^^ sr a15 3) + (rr a2 17 ^^^ rr a2 19 ^^^ sr a2 10)) := by
            unfold Hid
            rw [HE.out, sched_turn]
            rfl
          clear HE
          have e15 := IntWalk.i64_in ((i : Int) - 15) (by omega)
          have e2 := IntWalk.i64_in ((i : Int) - 2) (by omega)
          have e7 := IntWalk.i64_in ((i : Int) - 7) (by omega)
          have e16 := IntWalk.i64_in ((i : Int) - 16) (by omega)
          have n15 : 0 ≤ (i : Int) - 15 := by omega
          have n2 : 0 ≤ (i : Int) - 2 := by omega
          have n7 : 0 ≤ (i : Int) - 7 := by omega
          have n16 : 0 ≤ (i : Int) - 16 := by omega
          have k15 : 15 ≤ (i : Int) := by omega
          have k2 : 2 ≤ (i : Int) := by omega
          have k7 : 7 ≤ (i : Int) := by omega
          have k16 : 16 ≤ (i : Int) := by omega
          have m15 : (i : Int) - 15 < 64 := by omega
          have m2 : (i : Int) - 2 < 64 := by omega
          have m7 : (i : Int) - 7 < 64 := by omega
          have m16 : (i : Int) - 16 < 64 := by omega
          have m0 : (i : Int) < 64 := by omega
          have c15 : ((i : Int) - 15).toNat = i - 15 := by omega
          have c2 : ((i : Int) - 2).toNat = i - 2 := by omega
          have c7 : ((i : Int) - 7).toNat = i - 7 := by omega
          have c16 : ((i : Int) - 16).toNat = i - 16 := by omega
          go_wp2_with fail
          go_quiet (fail)
          go_wp2_with fail
          have far16 : ∀ (W : World) (v : Value),(W.setCell ⟨g,141 + i,none⟩ v).cell? ⟨g,141 + (i - 16),none⟩ = W.cell? ⟨g,141 + (i - 16),none⟩ := fun W v => World.cell?_setCell_other W _ _ v (fun e => by have := congrArg Addr.off e; simp at this; omega)
          have far7 : ∀ (W : World) (v : Value),(W.setCell ⟨g,141 + i,none⟩ v).cell? ⟨g,141 + (i - 7),none⟩ = W.cell? ⟨g,141 + (i - 7),none⟩ := fun W v => World.cell?_setCell_other W _ _ v (fun e => by have := congrArg Addr.off e; simp at this; omega)
          have tw := hS.sch_cell i hi3
          have tf := hS.free (141 + i)
          have r1 := u_xor
          have r2 := u_add
          have r3 := u_wrap
          have lo := u_lo
          have hi := u_hi
          go_region_held3 (fun w' => w'.cell? ⟨g,141 + (i - 16),none⟩ = some (.int .u32 (u a16)) ∧ w'.cell? ⟨g,141 + (i - 7),none⟩ = some (.int .u32 (u a7))) (first | go_keep | exact ⟨x16,x7⟩ | (simp only [far16,far7,World.cell?_drewN]; exact ⟨x16,x7⟩)) ((go_at_call 146; refine (shifted_lit _ _ _ _ _ (by omega) (by omega) (by omega)).mono ?_; rintro e w' ⟨rfl,d1,rfl⟩))
          go_wp2_with fail
          go_roundw
          case rel =>
            refine ⟨i + 1, L1.set i (ext L1 i), by omega, by omega, by go_num, ?_, ?_, ?_⟩
            · rw [HF.out]
              exact (hS.kept (w' := wr.drewN _) rfl).set_sch i _ hi3
            · exact sched_step L1 _ i hi1 (by have := hS.l4; omega) HT.out
            · exact grown_set (grown_drewN hg)
          case measure => simp [intOf]; omega
        · obtain rfl : i = 64 := by omega
          have hW : L1 = sched (words last 16) 48 := by
            have e := HT.out
            rwa [List.take_of_length_le (by have := hS.l4; omega)] at e
          rw [hW] at hS
          clear hW HT
          go_wp2_with fail
          go_end0
          exact ⟨rfl, hS, hg⟩

theorem sm_splice (st : List UInt32) (blk cs : List UInt8) (used : Nat) (len : Int) (last : List UInt8) (mid : List Value) (sch : List UInt32) (n : Nat) (h1 : st.length = 8) (h2 : n + cs.length ≤ blk.length) :
    (smL st blk used len last mid sch).take (8 + n) ++ bcs cs ++ (smL st blk used len last mid sch).drop (8 + n + (bcs cs).length) = smL st (blk.take n ++ cs ++ blk.drop (n + cs.length)) used len last mid sch := by
  have e1 : (st.map cu).length = 8 := by simp [h1]
  have e2 : (bcs blk).length = blk.length := bcs_length blk
  unfold smL
  generalize [Value.int .i64 (used : Int), .int .u64 len] ++ (bcs last ++ (mid ++ sch.map cu)) = R
  rw [List.take_append,List.drop_append,e1,List.take_of_length_le (by omega),List.drop_of_length_le (by omega),show 8 + n - 8 = n by omega,bcs_length,show 8 + n + cs.length - 8 = n + cs.length by omega,
    List.take_append_of_le_length (by omega), List.drop_append_of_le_length (by omega), bcs_append, bcs_append, bcs_take]
  have e3 : (bcs blk).drop (n + cs.length) = bcs (blk.drop (n + cs.length)) := by simp [bcs]
  rw [e3]
  simp [List.append_assoc]

theorem step_copy_sm {P : Program} {ops : Array Oper} {o : Oper} {a : Act} {w : World} {K : Act → World → Prop} {Q : Exit → Act → World → Prop} {E : Prop} (hgd : o.guard = none) (d s : Operand) (dT sT : TypeId)
    (ho : o.op = .call { callee := .builtin .copy, args := #[d, s], argTypes := #[dT, sT] }) (elem : TypeId) (hu : P.underlying dT = some (.slice elem)) (hsz : (P.info? elem).map (·.size) = some 1)
    (g : Nat) (st : List UInt32) (blk : List UInt8) (used : Nat) (len : Int) (last : List UInt8) (mid : List Value) (sch : List UInt32) (h : Sm w g st blk used len last mid sch) (n : Nat) (hn : n < 64)
    (hd : a.eval d = .slice (some ⟨g,8 + n,none⟩) (64 - n) (64 - n)) (ao : Option Addr) (pn pc : Nat) (p : List UInt8) (hs : a.eval s = .slice ao pn pc) (hp : IsB w ao pn pc p) (hpos : 0 < pn) (c : Nat) (hc : c = min pn (64 - n))
    (hK : ∀ w', Sm w' g st (blk.take n ++ p.take c ++ blk.drop (n + c)) used len last mid sch → w.grownBy w' (some g) → K (a.put o.dst (.int .i64 c)) w') :
    if Region.wanted o (yielded ops a.tmps) = true then Oper.wp P o a w K Q else E := by
  have hw : Region.wanted o (yielded ops a.tmps) = true := by simp [Region.wanted, hgd]
  rw [if_pos hw]
  have hl2 := h.l2
  have hpl := hp.len
  have hcl : (p.take c).length = c := by rw [List.length_take]; omega
  have hbl : (bcs (p.take c)).length = c := by rw [bcs_length, hcl]
  cases ao with
  | none =>
    have h1 := hp.nil rfl
    have h2 := hp.le
    omega
  | some ad =>
    have hrun := run_copy_row (P := P) w dT sT o.type elem g (8 + n) (64 - n) (64 - n) ad pn pc (smL st blk used len last mid sch).toArray 169 (bcs (p.take c)) hu hsz h.row
      (by rw [hbl, hc])
      (fun j v hj => by
        rw [bcs_get] at hj
        obtain ⟨x, hx, rfl⟩ := Option.map_eq_some_iff.1 hj
        refine hp.cell ad rfl j x ?_
        rw [List.getElem?_take] at hx
        split at hx
        · exact hx
        · cases hx)
      (by rw [hbl]; simp [smL, bcs, h.l1, h.l2]; omega) (bcs_one _)
    rw [sm_splice st blk (p.take c) used len last mid sch n h.l1 (by rw [hcl]; omega), hcl, hbl] at hrun
    unfold Oper.wp
    simp only [execOp, ho, resolve, invoke, builtin, hd, hs, hrun, Sem.run_bind, Sem.run_pure, Result.andThen_ok, List.map_toArray, List.map_cons, List.map_nil]
    refine hK _ ⟨?_, h.l1, by simp [h.l2]; omega, h.l3, h.l4, h.lm⟩ ⟨rfl, rfl, rfl, by simp, fun k _ hk => setRow_other w g k _ (fun e => hk (by rw [e]))⟩
    exact setRow_heap w g _ _ _ _ h.row

theorem word_append (l p : List UInt8) (i : Nat) (h : 4 * i + 4 ≤ l.length) : word (l ++ p) i = word l i := by
  have e : ∀ j, j < l.length → (l ++ p).getD j 0 = l.getD j 0 := fun j hj => by simp [List.getD, List.getElem?_append_left hj]
  unfold word
  rw [e _ (by omega), e _ (by omega), e _ (by omega), e _ (by omega)]
theorem words_append (l p : List UInt8) (h : 64 ≤ l.length) : words (l ++ p) 16 = words l 16 := by
  unfold words
  refine List.map_congr_left fun i hi => word_append l p i ?_
  have := List.mem_range.1 hi
  omega
theorem mix_append (s : St) (l p : List UInt8) (h : 64 ≤ l.length) : s.mix (l ++ p) = s.mix l := by
  unfold St.mix
  rw [words_append l p h]
theorem blocks_append (m p : List UInt8) (s : St) : ∀ n, 64 * n ≤ m.length → blocks (m ++ p) s n = blocks m s n
  | 0, _ => rfl
  | n + 1, h => by
    rw [blocks, blocks, blocks_append m p s n (by omega), List.drop_append_of_le_length (by omega), mix_append _ _ _ (by simp; omega)]

/-- THE BYTES m HAVE BEEN TAKEN IN. -/
structure Taken (m : List UInt8) (st : St) (blk : List UInt8) (used : Nat) : Prop where
  hst : st = blocks m H0 (m.length / 64)
  hused : used = m.length % 64
  wait : blk.take used = m.drop (64 * (m.length / 64))
theorem Taken.more {m : List UInt8} {st : St} {blk : List UInt8} {used : Nat} (h : Taken m st blk used) (cs : List UInt8) (hb : blk.length = 64) (hc : used + cs.length < 64) :
    Taken (m ++ cs) st (blk.take used ++ cs ++ blk.drop (used + cs.length)) (used + cs.length) := by
  have hu := h.hused
  have e : (m ++ cs).length / 64 = m.length / 64 := by rw [List.length_append]; omega
  refine ⟨?_, by rw [List.length_append]; omega, ?_⟩
  · rw [e, blocks_append m cs H0 _ (by omega)]
    exact h.hst
  · rw [e, List.drop_append_of_le_length (by omega), ← h.wait]
    have hl : (blk.take used ++ cs).length = used + cs.length := by rw [List.length_append, List.length_take]; omega
    rw [← hl, List.take_left]
theorem Taken.full {m : List UInt8} {st : St} {blk : List UInt8} {used : Nat} (h : Taken m st blk used) (cs : List UInt8) (hc : used + cs.length = 64) (c : List UInt8) :
    Taken (m ++ cs) (st.mix (blk.take used ++ cs)) c 0 := by
  have hu := h.hused
  have e : (m ++ cs).length / 64 = m.length / 64 + 1 := by rw [List.length_append]; omega
  refine ⟨?_, by rw [List.length_append]; omega, ?_⟩
  · rw [e, blocks, blocks_append m cs H0 _ (by omega), ← h.hst, List.drop_append_of_le_length (by omega), ← h.wait]
  · rw [e, List.take_zero, List.drop_of_length_le (by rw [List.length_append]; omega)]
theorem Taken.none (blk : List UInt8) : Taken [] H0 blk 0 := ⟨rfl, rfl, rfl⟩
theorem Taken.sum {m : List UInt8} {st : St} {blk : List UInt8} {used : Nat} (h : Taken (padded m) st blk used) : (st.l.map fun x => be 4 x.toNat).flatten = sha m := by
  unfold sha
  rw [h.hst]

theorem IsB_drop {w : World} {ao : Option Addr} {n cap m : Nat} {l : List UInt8} (h : IsB w ao n cap l) (hm : m ≤ n) : IsB w (Option.map (fun x => x.add m) ao) (n - m) (cap - m) (l.drop m) := by
  have h1 := h.len
  have h2 := h.le
  have h3 := h.max
  refine ⟨by rw [List.length_drop]; omega, by omega, by omega, fun hn => ?_, fun a ha j u hu => ?_⟩
  · have := h.nil (by simpa using hn)
    omega
  · obtain ⟨b, rfl, rfl⟩ := Option.map_eq_some_iff.1 ha
    rw [Addr.add_add]
    rw [List.getElem?_drop] at hu
    exact h.cell b rfl _ u hu
theorem IsB_end {w : World} {ao : Option Addr} {n cap : Nat} {l : List UInt8} (h : IsB w ao n cap l) : IsB w ao 0 0 (l.drop n) := by
  have h1 := h.len
  rw [List.drop_eq_nil_of_le (by omega)]
  exact ⟨rfl, Nat.le_refl _, Nat.zero_le _, fun _ => rfl, fun a ha j u hu => by cases hu⟩
theorem block_add (a : Addr) (m : Nat) : (a.add m).block = a.block := by unfold Addr.add; split <;> rfl
/-- 'p[c:]'. -/
theorem IsB_cut {P : Program} {w : World} {ao : Option Addr} {n cap : Nat} {l : List UInt8} {t : TypeId} (h : IsB w ao n cap l) (ht : P.underlying t = some (.slice (P.elem t))) (hz : ∀ w' : World,(sizeOf (P.elem t)).run P w' = .ok 1 w') (c : Nat) (hc : c ≤ n) :
    ∃ ao2,(∀ w' : World,(Instr.slice t (.slice ao n cap) (some (.int .i64 c)) none none).run P w' = .ok (.slice ao2 (n - c) (cap - c)) w') ∧ IsB w ao2 (n - c) (cap - c) (l.drop c) ∧ (∀ a2,ao2 = some a2 → ∃ a,ao = some a ∧ a2.block = a.block) := by
  have hle := h.le
  have hrun : ∀ w' : World, (Instr.slice t (.slice ao n cap) (some (.int .i64 c)) none none).run P w' = .ok (sliced ao c n cap 1) w' := fun w' => by
    rw [run_slice_l w' t ao n cap ht .i64 (c : Int) (by omega) (by omega), hz]
    simp [Result.andThen]
  by_cases he : cap = c
  · have hn : n = c := by omega
    refine ⟨ao, fun w' => by rw [hrun, sliced, if_pos he], ?_, fun a2 h2 => ⟨a2, h2, rfl⟩⟩
    subst he
    subst hn
    rw [Nat.sub_self]
    exact IsB_end h
  · refine ⟨ao.map fun x => x.add c, fun w' => by rw [hrun, sliced, if_neg he]; simp, IsB_drop h hc, fun a2 h2 => ?_⟩
    obtain ⟨b, hb, rfl⟩ := Option.map_eq_some_iff.1 h2
    exact ⟨b, hb, block_add b c⟩
end Go.Proofs.YtdmnjjknkcnkgaaGreatDoor
