/-
  SchemaTwice, walked.
-/
import Derived.Test.YtpfhggalbdjjmaaDoorSFew
import Derived.Test.YtpfhggalbdjjmaaDoorOpenSc
import Derived.Deep.QuietTactic
import Derived.BigQuiet
namespace Go.Proofs.YtpfhggalbdjjmaaDoor
open Go.RowKit
set_option linter.unusedSimpArgs false

theorem gAt_name (cs : List Co) (i : Nat) : (gAt cs i).name = [UInt8.ofNat (97 + i)] := by
  unfold gAt
  split <;> rfl
theorem gAt_kind (cs : List Co) (i : Nat) : 1 ≤ (gAt cs i).kind ∧ (gAt cs i).kind ≤ 3 := by
  unfold gAt
  split
  · rename_i c _
    have h1 := wth_lo c.kind 3 (by omega)
    have h2 := wth_hi c.kind 3 (by omega)
    show 1 ≤ 1 + wth c.kind 3 ∧ 1 + wth c.kind 3 ≤ 3
    omega
  · show 1 ≤ (2 : Int) ∧ (2 : Int) ≤ 3
    omega
/-- What the columns' names are; of what kinds they are. -/
theorem gFin_get (cs : List Co) (key : Int) (j : Nat) (hj : j < gN cs) : ∃ x, (gFin cs key)[j]? = some x ∧ x.name = [UInt8.ofNat (97 + j)] ∧ 1 ≤ x.kind ∧ x.kind ≤ 3 ∧ (j = gKey cs key → x.null = false) := by
  have hk := (gKey_lt cs key).1
  unfold gFin gCols
  by_cases e : gKey cs key = j
  · subst e
    refine ⟨_, List.getElem?_set_self (by simpa using hk), gAt_name _ _, (gAt_kind _ _).1, (gAt_kind _ _).2, fun _ => rfl⟩
  · refine ⟨gAt cs j, ?_, gAt_name _ _, (gAt_kind _ _).1, (gAt_kind _ _).2, fun h => absurd h.symm e⟩
    rw [List.getElem?_set_ne e, List.getElem?_map, List.getElem?_range hj]
    rfl
/-- The columns with names of their own: what is wrong with them hangs on the names alone. -/
def nameE : List (List UInt8) → List (List UInt8) → Bool
  | _, [] => true
  | T, c :: r => (spelt c && !T.contains c) && nameE (c :: T) r
theorem colsE_names : ∀ (cs : List Co) (T : List (List UInt8)), (∀ c ∈ cs, 1 ≤ c.kind ∧ c.kind ≤ 3) → colsE T cs = if nameE T (cs.map Co.name) = true then 0 else 12
  | [], T, _ => rfl
  | c :: cs, T, h => by
    have hc := h c (by simp)
    have ih := colsE_names cs (c.name :: T) fun x hx => h x (by simp [hx])
    show (if colE T c = 0 then colsE (c.name :: T) cs else colE T c) = if ((spelt c.name && !T.contains c.name) && nameE (c.name :: T) (cs.map Co.name)) = true then 0 else 12
    unfold colE
    rw [if_pos hc]
    cases hf : (spelt c.name && !T.contains c.name) with
    | true => rw [if_pos rfl, if_pos rfl, ih]; simp
    | false => rw [if_neg (by simp), if_neg (by simp)]; simp
/-- Of letters each name is one; with one twice they are not. -/
theorem names_one : ∀ N, N ≤ 6 → nameE wordsR ((List.range N).map fun i => [UInt8.ofNat (97 + i)]) = true := by decide +kernel
theorem names_two : ∀ N, N ≤ 6 → ∀ a, a < N → ∀ b, b < N → nameE wordsR (((List.range N).map fun i => [UInt8.ofNat (97 + i)]).set a [UInt8.ofNat (97 + b)]) = decide (a = b) := by decide +kernel
theorem nm_ok : ∀ q, q < 26 → (spelt [113, UInt8.ofNat (97 + q)] && !wordsR.contains [113, UInt8.ofNat (97 + q)]) = true := by decide +kernel
theorem gNm_ok (nn : Int) : (spelt (gNm nn) && !wordsR.contains (gNm nn)) = true := by
  have h1 := wth_lo nn 26 (by omega)
  have h2 := wth_hi nn 26 (by omega)
  unfold gNm
  exact nm_ok _ (by omega)
theorem gNm_len (nn : Int) : (gNm nn).length = 2 := rfl
def renamed (x : Co) (nm : List UInt8) : Co := ⟨nm, x.kind, x.null⟩
/-- The valid schema, and with a column's name at another column's place. -/
theorem two_E (nn : Int) (cs : List Co) (key : Int) (a b : Nat) (x y : Co) (ha : (gFin cs key)[a]? = some x) (hb : (gFin cs key)[b]? = some y) : scE (gNm nn) ((gFin cs key).set a (renamed x y.name)) (gKey cs key : Nat) = if a = b then 0 else 12 := by
  have hN := gN_pos cs
  have hk := (gKey_lt cs key).1
  have hlen := gFin_len cs key
  have han : a < gN cs := by have := (List.getElem?_eq_some_iff.1 ha).1; omega
  have hbn : b < gN cs := by have := (List.getElem?_eq_some_iff.1 hb).1; omega
  have hnames : (gFin cs key).map Co.name = (List.range (gN cs)).map fun i => [UInt8.ofNat (97 + i)] := by
    apply List.ext_getElem?
    intro j
    rw [List.getElem?_map, List.getElem?_map]
    by_cases hj : j < gN cs
    · obtain ⟨z, hz, hz2, _⟩ := gFin_get cs key j hj
      rw [hz, List.getElem?_range hj]
      show some z.name = _
      rw [hz2]
      rfl
    · rw [List.getElem?_eq_none (by omega), List.getElem?_eq_none (by simp; omega)]
      rfl
  have hy : y.name = [UInt8.ofNat (97 + b)] := by
    obtain ⟨z, hz, hz2, _⟩ := gFin_get cs key b hbn
    rw [hb] at hz
    rw [Option.some.inj hz]
    exact hz2
  have hkinds : ∀ c ∈ (gFin cs key).set a (renamed x y.name), 1 ≤ c.kind ∧ c.kind ≤ 3 := by
    intro c hc
    rcases List.mem_or_eq_of_mem_set hc with h | h
    · obtain ⟨j, hj, rfl⟩ := List.getElem_of_mem h
      obtain ⟨z, hz, _, h1, h2, _⟩ := gFin_get cs key j (by omega)
      rw [List.getElem?_eq_getElem hj] at hz
      rw [Option.some.inj hz]
      exact ⟨h1, h2⟩
    · subst h
      obtain ⟨z, hz, _, h1, h2, _⟩ := gFin_get cs key a han
      rw [ha] at hz
      have := Option.some.inj hz
      subst this
      exact ⟨h1, h2⟩
  have hmap : ((gFin cs key).set a (renamed x y.name)).map Co.name = ((List.range (gN cs)).map fun i => [UInt8.ofNat (97 + i)]).set a [UInt8.ofNat (97 + b)] := by
    rw [List.map_set, hnames]
    show List.set _ a y.name = _
    rw [hy]
  have hcol := colsE_names _ wordsR hkinds
  rw [hmap, names_two _ hN.2 a han b hbn] at hcol
  unfold scE
  rw [if_pos (gNm_ok nn), List.length_set, hlen, if_pos ⟨hN.1, hN.2⟩]
  by_cases e : a = b
  · rw [if_pos e]
    rw [decide_eq_true e, if_pos rfl] at hcol
    rw [if_pos hcol]
    obtain ⟨z, hz, _, _, _, hz5⟩ := gFin_get cs key (gKey cs key) hk
    have hnull : ∃ z', ((gFin cs key).set a (renamed x y.name))[gKey cs key]? = some z' ∧ z'.null = false := by
      by_cases e2 : a = gKey cs key
      · subst e2
        refine ⟨_, List.getElem?_set_self (by omega), ?_⟩
        rw [ha] at hz
        have := Option.some.inj hz
        subst this
        exact hz5 rfl
      · exact ⟨z, by rw [List.getElem?_set_ne e2]; exact hz, hz5 rfl⟩
    obtain ⟨z', hz', hn'⟩ := hnull
    unfold keyE
    rw [List.length_set, hlen, if_neg (by omega), Int.toNat_natCast, List.getD_eq_getElem?_getD, hz']
    show (if z'.null = true then _ else _) = _
    rw [hn']
    rfl
  · rw [if_neg e]
    rw [decide_eq_false e] at hcol
    rw [if_neg (by rw [hcol]; simp), hcol]
    simp
theorem all_set_name : ∀ (l : List Co) (k : Nat) (x : Co) (nm : List UInt8), l[k]? = some x → (encCo.all l).set (k * 3) (.string (bsOf nm)) = encCo.all (l.set k (renamed x nm))
  | [], k, x, nm, h => by simp at h
  | y :: l, 0, x, nm, h => by
    obtain rfl : y = x := by simpa using h
    rw [encCo.all_cons, List.set_cons_zero, encCo.all_cons]
    rfl
  | y :: l, k + 1, x, nm, h => by
    have ih := all_set_name l k x nm (by simpa using h)
    rw [encCo.all_cons, List.set_cons_succ, encCo.all_cons, ← ih, show (k + 1) * 3 = k * 3 + 3 by omega]
    show ([_, _, _] ++ encCo.all l).set (k * 3 + 3) _ = _
    rfl
theorem OwnR.rename {w : World} {e : TypeId} {g n cap : Nat} {l : List Co} (h : OwnR encCo w e g n cap l) (k : Nat) (x : Co) (nm : List UInt8) (hx : l[k]? = some x) : OwnR encCo (w.setCell ⟨g, k * 3, none⟩ (.string (bsOf nm))) e g n cap (l.set k (renamed x nm)) := by
  obtain ⟨cur, h1, h2, h3⟩ := h.row
  have hk : k < l.length := (List.getElem?_eq_some_iff.1 hx).1
  have hl := h.len
  refine ⟨by rw [List.length_set]; exact h.len, h.le, h.max, cur.setIfInBounds (k * 3) (.string (bsOf nm)), heap_setCell_same h1, by simpa using h2, ?_⟩
  rw [Array.toList_setIfInBounds, List.take_set, h3]
  exact all_set_name l k x nm hx
theorem short_names (cs : List Co) (key : Int) (a b : Nat) (x y : Co) (hb : (gFin cs key)[b]? = some y) : ∀ c ∈ (gFin cs key).set a (renamed x y.name), c.name.length ≤ 1000000 := by
  have hlen := gFin_len cs key
  have all : ∀ (j : Nat) (z : Co), (gFin cs key)[j]? = some z → z.name.length ≤ 1000000 := fun j z hz => by
    have hj := (List.getElem?_eq_some_iff.1 hz).1
    obtain ⟨z', hz', hn, _⟩ := gFin_get cs key j (by omega)
    rw [hz] at hz'
    rw [Option.some.inj hz', hn]
    show 1 ≤ 1000000
    omega
  intro c hc
  rcases List.mem_or_eq_of_mem_set hc with h | h
  · obtain ⟨j, hj, rfl⟩ := List.getElem_of_mem h
    exact all j _ (List.getElem?_eq_getElem hj)
  · subst h
    exact all b y hb
/-- What stands while the region's operations come up. -/
inductive STwice6 (B : Nat) (pg : Nat) (g : Nat) (N : Nat) (c4 : Nat) (ka : Int) (kb : Int) (ia : Nat) (ib : Nat) (a0 : Act) (w0 : World) (L : Array Bool) (a : Act) (w : World) : Prop
  | mk (b0 b1 b2 b3 b4 b5 b6 b7 b8 b9 b10 b11 : Bool) (x18 x19 x20 x21 x22 x23 x24 x25 x26 x27 x2 x3 : Value) (hL : L = #[b0, b1, b2, b3, b4, b5, b6, b7, b8, b9, b10, b11]) (ha : a = ⟨((((((((((((a0.tmps.setIfInBounds 18 x18).setIfInBounds 19 x19).setIfInBounds 20 x20).setIfInBounds 21 x21).setIfInBounds 22 x22).setIfInBounds 23 x23).setIfInBounds 24 x24).setIfInBounds 25 x25).setIfInBounds 26 x26).setIfInBounds 27 x27).setIfInBounds 2 x2).setIfInBounds 3 x3), a0.defers⟩) (hb : Below B w0 w) (cd0 : Hid (b0 = true → x18 = .int .i64 ka)) (cd1 : Hid (b1 = true → x19 = .pointer (some ⟨pg, 1, none⟩))) (cd2 : Hid (b2 = true → x20 = .slice (some ⟨g, 0, none⟩) N c4)) (cd3 : Hid (b3 = true → x21 = .int .i64 (N : Nat))) (cd4 : Hid (b4 = true → x22 = .int .i64 (ia : Nat))) (cd5 : Hid (b5 = true → x23 = .int .i64 kb)) (cd6 : Hid (b6 = true → x24 = .pointer (some ⟨pg, 1, none⟩))) (cd7 : Hid (b7 = true → x25 = .slice (some ⟨g, 0, none⟩) N c4)) (cd8 : Hid (b8 = true → x26 = .int .i64 (N : Nat))) (cd9 : Hid (b9 = true → x27 = .int .i64 (ib : Nat))) (cd10 : Hid (b10 = true → x2 = .int .i64 (ia : Nat))) (cd11 : Hid (b11 = true → x3 = .int .i64 (ib : Nat))) (f_s10 : Hid (b10 = false → x2 = .int .i64 ka)) (f_s11 : Hid (b11 = false → x3 = .int .i64 kb)) (f_o10 : Hid (b10 = true → b0 = true)) (f_o11 : Hid (b11 = true → b5 = true)) : STwice6 B pg g N c4 ka kb ia ib a0 w0 L a w
set_option maxRecDepth 100000 in
set_option maxHeartbeats 2000000 in
theorem schemaTwice_walk (l : List UInt8) (ao : Option Addr) (n c : Nat) (key : Int) (only : Bool) (cs : List Co) (nn ka kb : Int) (w : World) (hW : WL w) (_hl : l.length ≤ maxLen) (_hkey : (Lit.int .i64 key).wf = true) (h : IsR encCo w ao n c cs) (_hcs : ∀ x ∈ cs, (Lit.int .i64 x.kind).wf = true ∧ x.name.length ≤ maxLen) (_hn : (Lit.int .i64 nn).wf = true) (_ha : (Lit.int .i64 ka).wf = true) (_hb : (Lit.int .i64 kb).wf = true) :
    Calls Tryd.prog 9 #[scV l ao n c key only, .int .i64 nn, .int .i64 ka, .int .i64 kb] w (Told w true) := by
  have hln := h.len
  unfold scV
  have X := ScB.new w l ao n c key only
  have B := (Below.refl w.heap.size w).alloc (Nat.le_refl _) (.cells #[.string (bsOf l), .slice ao n c, .int .i64 key, .bool only] 24)
  go_enter Tryd.func9, Tryd.ntmps9
  go_upto_region 1 with fail
  generalize w.alloc (.cells #[.string (bsOf l), .slice ao n c, .int .i64 key, .bool only] 24) = w1 at X B ⊢
  obtain ⟨p, hp⟩ : ∃ p, w.heap.size = p := ⟨_, rfl⟩
  have hW1 := hW.past B
  have HWlt := Lib.hid hW.lt
  have h1 := h.past B
  rw [hp] at X B
  simp only [hp]
  have HP := Lib.hid hp
  clear hp hW h
  go_wp2_with fail
  refine (known9 w1 hW1).mono ?_
  rintro e w2 ⟨rfl, b2⟩
  have X2 := X.past b2
  have B2 : Below p w w2 := B.trans (b2.mono (by have := B.size; rw [HP.out] at this; exact this))
  have h2 := h1.past b2
  have W2 := hW1.past b2
  have y0 : w2.cell? ⟨p, 0, none⟩ = some (.string (bsOf l)) := cell_blk X2 rfl
  have y1 : w2.cell? ⟨p, 1, none⟩ = some (.slice ao n c) := cell_blk X2 rfl
  have y2 : w2.cell? ⟨p, 2, none⟩ = some (.int .i64 key) := cell_blk X2 rfl
  have y3 : w2.cell? ⟨p, 3, none⟩ = some (.bool only) := cell_blk X2 rfl
  have HF := few9_any w2 l ao n c cs key only h2
  unfold scV at HF
  clear X B b2 h1 hW1
  obtain ⟨f, hf⟩ : ∃ f, fewS l cs = f := ⟨_, rfl⟩
  rw [hf] at HF
  cases f with
  | false =>
    clear hf
    go_wp2_with fail
    refine HF.mono ?_
    rintro e w3 ⟨rfl, b3⟩
    go_wp2_with fail
    go_ret
    rw [Told, HP.out]
    exact ⟨rfl, B2.trans (b3.mono (by have := B2.size; rw [HP.out] at this; exact this))⟩
  | true =>
    have hn9 : n ≤ 9 := by
      unfold fewS at hf
      simp at hf
      omega
    clear hf
    go_wp2_with fail
    refine HF.mono ?_
    rintro e w3 ⟨rfl, b3⟩
    have X3 := X2.past b3
    have B3 : Below p w w3 := B2.trans (b3.mono (by have := B2.size; rw [HP.out] at this; exact this))
    have h3 := h2.past b3
    have W3 := W2.past b3
    have HG := good9_any w3 l ao n c cs key nn only h3 (by omega)
    unfold GoodIs scV at HG
    have z0 : w3.cell? ⟨p, 0, none⟩ = some (.string (bsOf l)) := cell_blk X3 rfl
    have z1 : w3.cell? ⟨p, 1, none⟩ = some (.slice ao n c) := cell_blk X3 rfl
    have z2 : w3.cell? ⟨p, 2, none⟩ = some (.int .i64 key) := cell_blk X3 rfl
    have z3 : w3.cell? ⟨p, 3, none⟩ = some (.bool only) := cell_blk X3 rfl
    clear X2 B2 h2 W2 b3 y0 y1 y2 y3 HF
    go_wp2_with fail
    refine HG.mono ?_
    rintro e w4 ⟨g, c4, rfl, O4, b4, q4⟩
    have B4 : Below p w w4 := B3.trans (b4.mono (by have := B3.size; rw [HP.out] at this; exact this))
    have hp4 : p ≤ w4.heap.size := by have := B4.size; rw [HP.out] at this; exact this
    have W4 := W3.past b4
    have hNp := gN_pos cs
    have hlen := gFin_len cs key
    have hget := fun (j : Nat) (hj : j < gN cs) => (show ∃ x, (gFin cs key)[j]? = some x from ⟨_, (gFin_get cs key j hj).choose_spec.1⟩)
    have hE := fun a b x y ha hb => two_E nn cs key a b x y ha hb
    have hSh := fun a b x y hb => short_names cs key a b x y hb
    have hNl := gNm_len nn
    have hKp := (gKey_lt cs key).1
    generalize gFin cs key = F at O4 hget hE hSh hlen
    generalize gN cs = N at O4 hNp hget hKp hlen ⊢
    generalize gKey cs key = K at hKp hE ⊢
    generalize gNm nn = NM at hE hNl ⊢
    have hwith : ∀ k : Int, ∃ kk : Nat, kk < N ∧ ∀ w, Calls Tryd.prog 17 #[.int .i64 k, .int .i64 (N : Nat)] w fun e w' => e = .returned (.int .i64 (kk : Nat)) ∧ w' = w := fun k => by
      have h1 := wth_lo k (N : Nat) (by omega)
      have h2 := wth_hi k (N : Nat) (by omega)
      refine ⟨(wth k (N : Nat)).toNat, by omega, fun w => (within9_any k (N : Nat) w (by omega) (by omega)).mono ?_⟩
      rintro e w' ⟨rfl, h⟩
      exact ⟨by rw [Int.toNat_of_nonneg h1], h.symm⟩
    obtain ⟨ia, haN, HWa⟩ := hwith ka
    obtain ⟨ib, hbN, HWb⟩ := hwith kb
    have hai : (ia : Int) < (N : Int) := by omega
    have hbi : (ib : Int) < (N : Int) := by omega
    obtain ⟨x, hx⟩ := hget ia haN
    obtain ⟨y, hy⟩ := hget ib hbN
    have hE' := hE ia ib x y hx hy
    have hSh' := hSh ia ib x y hy
    have X5 := ScB.new w4 NM (some ⟨g, 0, none⟩) N c4 (K : Nat) only
    have B5 := (Below.refl w4.heap.size w4).alloc (Nat.le_refl _) (.cells #[.string (bsOf NM), .slice (some ⟨g, 0, none⟩) N c4, .int .i64 (K : Nat), .bool only] 24)
    go_upto_region 6 with fail
    generalize w4.alloc (.cells #[.string (bsOf NM), .slice (some ⟨g, 0, none⟩) N c4, .int .i64 (K : Nat), .bool only] 24) = w5 at X5 B5 ⊢
    obtain ⟨pg, hpg⟩ : ∃ pg, w4.heap.size = pg := ⟨_, rfl⟩
    have hgpg : g ≠ pg := by have := O4.lt; omega
    rw [hpg] at X5
    simp only [hpg]
    have O5 := O4.past B5
    have W5 := W4.past B5
    have B05 : Below p w w5 := B4.trans (B5.mono hp4)
    have hp5 : p ≤ w5.heap.size := by have := B05.size; rw [HP.out] at this; exact this
    have hgp : p ≤ g := by have := B3.size; rw [HP.out] at this; omega
    have hwp : 0 < p := by
      rw [← HP.out]
      exact HWlt.out
    clear hpg O4 B4 B5 X3 B3 h3 b4 z0 z1 z2 z3 HG hget hE hSh hwith W4 W3
    have g0 : w5.cell? ⟨pg, 0, none⟩ = some (.string (bsOf NM)) := cell_blk X5 rfl
    have g1 : w5.cell? ⟨pg, 1, none⟩ = some (.slice (some ⟨g, 0, none⟩) N c4) := cell_blk X5 rfl
    have g2 : w5.cell? ⟨pg, 2, none⟩ = some (.int .i64 (K : Nat)) := cell_blk X5 rfl
    have g3 : w5.cell? ⟨pg, 3, none⟩ = some (.bool only) := cell_blk X5 rfl
    obtain ⟨x0, -, -⟩ := O5.cell3 ia x hx
    obtain ⟨y0, -, -⟩ := O5.cell3 ib y hy
    have xf := O5.free (ia * 3)
    have hpgB := X5.lt
    go_wp2_with fail
    refine region_inv (STwice6 w5.heap.size pg g N c4 ka kb ia ib) (by kernel_rfl) (by kernel_rfl) ?_ ?_ ?_
    · exact ⟨false, false, false, false, false, false, false, false, false, false, false, false, undef, undef, undef, undef, undef, undef, undef, undef, undef, undef, .int .i64 ka, .int .i64 kb, rfl, (by simp only [Act.put, List.setIfInBounds_toArray, List.set_cons_zero, List.set_cons_succ]), Below.refl _ _, (fun h => by cases h), (fun h => by cases h), (fun h => by cases h), (fun h => by cases h), (fun h => by cases h), (fun h => by cases h), (fun h => by cases h), (fun h => by cases h), (fun h => by cases h), (fun h => by cases h), (fun h => by cases h), (fun h => by cases h), (fun h1 => rfl), (fun h1 => rfl), (fun h => by cases h), (fun h => by cases h)⟩
    · refine ⟨?_, ?_, ?_, ?_, ?_, ?_, ?_, ?_, ?_, ?_, ?_, ?_, trivial⟩
      · rintro L a w ⟨b0, b1, b2, b3, b4, b5, b6, b7, b8, b9, b10, b11, x18, x19, x20, x21, x22, x23, x24, x25, x26, x27, x2, x3, rfl, rfl, hb, cd0, cd1, cd2, cd3, cd4, cd5, cd6, cd7, cd8, cd9, cd10, cd11, f_s10, f_s11, f_o10, f_o11⟩ hf hd
        have hf' : b0 = false := hf
        subst hf'
        clear hf hd
        have e10 : b10 = false := by cases hq : b10 with | false => rfl | true => exact absurd (f_o10.out hq) (by simp)
        subst e10
        have q10 := f_s10.out rfl
        subst q10
        try simp only [List.setIfInBounds_toArray, List.set_cons_zero, List.set_cons_succ]
        intro K hK
        rw [if_pos (by rfl)]
        go_simp
        exact hK.out _ _ ⟨true, b1, b2, b3, b4, b5, b6, b7, b8, b9, false, b11, (.int .i64 ka), x19, x20, x21, x22, x23, x24, x25, x26, x27, .int .i64 ka, x3, (by simp only [Act.put, List.setIfInBounds_toArray, List.set_cons_zero, List.set_cons_succ]), (by simp only [Act.put, List.setIfInBounds_toArray, List.set_cons_zero, List.set_cons_succ]), hb, (fun _ => rfl), cd1, cd2, cd3, cd4, cd5, cd6, cd7, cd8, cd9, cd10, cd11, f_s10, f_s11, (fun _ => rfl), f_o11⟩
      · rintro L a w ⟨b0, b1, b2, b3, b4, b5, b6, b7, b8, b9, b10, b11, x18, x19, x20, x21, x22, x23, x24, x25, x26, x27, x2, x3, rfl, rfl, hb, cd0, cd1, cd2, cd3, cd4, cd5, cd6, cd7, cd8, cd9, cd10, cd11, f_s10, f_s11, f_o10, f_o11⟩ hf hd
        have hf' : b1 = false := hf
        subst hf'
        clear hf hd
        try simp only [List.setIfInBounds_toArray, List.set_cons_zero, List.set_cons_succ]
        intro K hK
        rw [if_pos (by rfl)]
        go_simp
        exact hK.out _ _ ⟨b0, true, b2, b3, b4, b5, b6, b7, b8, b9, b10, b11, x18, (.pointer (some ⟨pg, 1, none⟩)), x20, x21, x22, x23, x24, x25, x26, x27, x2, x3, (by simp only [Act.put, List.setIfInBounds_toArray, List.set_cons_zero, List.set_cons_succ]), (by simp only [Act.put, List.setIfInBounds_toArray, List.set_cons_zero, List.set_cons_succ]), hb, cd0, (fun _ => rfl), cd2, cd3, cd4, cd5, cd6, cd7, cd8, cd9, cd10, cd11, f_s10, f_s11, f_o10, f_o11⟩
      · rintro L a w ⟨b0, b1, b2, b3, b4, b5, b6, b7, b8, b9, b10, b11, x18, x19, x20, x21, x22, x23, x24, x25, x26, x27, x2, x3, rfl, rfl, hb, cd0, cd1, cd2, cd3, cd4, cd5, cd6, cd7, cd8, cd9, cd10, cd11, f_s10, f_s11, f_o10, f_o11⟩ hf hd
        have hf' : b2 = false := hf
        subst hf'
        have d1 : b1 = true := hd ⟨1, .data⟩ (by simp) rfl
        subst d1
        obtain rfl := cd1.out rfl
        clear hf hd
        try simp only [List.setIfInBounds_toArray, List.set_cons_zero, List.set_cons_succ]
        have z := (hb.cell hpgB).trans g1
        intro K hK
        rw [if_pos (by rfl)]
        go_simp
        exact hK.out _ _ ⟨b0, true, true, b3, b4, b5, b6, b7, b8, b9, b10, b11, x18, .pointer (some ⟨pg, 1, none⟩), (.slice (some ⟨g, 0, none⟩) N c4), x21, x22, x23, x24, x25, x26, x27, x2, x3, (by simp only [Act.put, List.setIfInBounds_toArray, List.set_cons_zero, List.set_cons_succ]), (by simp only [Act.put, List.setIfInBounds_toArray, List.set_cons_zero, List.set_cons_succ]), hb, cd0, (fun _ => rfl), (fun _ => rfl), cd3, cd4, cd5, cd6, cd7, cd8, cd9, cd10, cd11, f_s10, f_s11, f_o10, f_o11⟩
      · rintro L a w ⟨b0, b1, b2, b3, b4, b5, b6, b7, b8, b9, b10, b11, x18, x19, x20, x21, x22, x23, x24, x25, x26, x27, x2, x3, rfl, rfl, hb, cd0, cd1, cd2, cd3, cd4, cd5, cd6, cd7, cd8, cd9, cd10, cd11, f_s10, f_s11, f_o10, f_o11⟩ hf hd
        have hf' : b3 = false := hf
        subst hf'
        have d2 : b2 = true := hd ⟨2, .data⟩ (by simp) rfl
        subst d2
        obtain rfl := cd2.out rfl
        clear hf hd
        try simp only [List.setIfInBounds_toArray, List.set_cons_zero, List.set_cons_succ]
        intro K hK
        rw [if_pos (by rfl)]
        go_simp
        exact hK.out _ _ ⟨b0, b1, true, true, b4, b5, b6, b7, b8, b9, b10, b11, x18, x19, .slice (some ⟨g, 0, none⟩) N c4, (.int .i64 (N : Nat)), x22, x23, x24, x25, x26, x27, x2, x3, (by simp only [Act.put, List.setIfInBounds_toArray, List.set_cons_zero, List.set_cons_succ]), (by simp only [Act.put, List.setIfInBounds_toArray, List.set_cons_zero, List.set_cons_succ]), hb, cd0, cd1, (fun _ => rfl), (fun _ => rfl), cd4, cd5, cd6, cd7, cd8, cd9, cd10, cd11, f_s10, f_s11, f_o10, f_o11⟩
      · rintro L a w ⟨b0, b1, b2, b3, b4, b5, b6, b7, b8, b9, b10, b11, x18, x19, x20, x21, x22, x23, x24, x25, x26, x27, x2, x3, rfl, rfl, hb, cd0, cd1, cd2, cd3, cd4, cd5, cd6, cd7, cd8, cd9, cd10, cd11, f_s10, f_s11, f_o10, f_o11⟩ hf hd
        have hf' : b4 = false := hf
        subst hf'
        have d0 : b0 = true := hd ⟨0, .data⟩ (by simp) rfl
        subst d0
        have d3 : b3 = true := hd ⟨3, .data⟩ (by simp) rfl
        subst d3
        obtain rfl := cd0.out rfl
        obtain rfl := cd3.out rfl
        clear hf hd
        try simp only [List.setIfInBounds_toArray, List.set_cons_zero, List.set_cons_succ]
        intro K hK
        rw [if_pos (by rfl)]
        go_simp
        go_at_call 17
        refine (HWa _).mono ?_
        rintro e w' ⟨rfl, rfl⟩
        exact hK.out _ _ ⟨true, b1, b2, true, true, b5, b6, b7, b8, b9, b10, b11, .int .i64 ka, x19, x20, .int .i64 (N : Nat), (.int .i64 (ia : Nat)), x23, x24, x25, x26, x27, x2, x3, (by simp only [Act.put, List.setIfInBounds_toArray, List.set_cons_zero, List.set_cons_succ]), (by simp only [Act.put, List.setIfInBounds_toArray, List.set_cons_zero, List.set_cons_succ]), hb, (fun _ => rfl), cd1, cd2, (fun _ => rfl), (fun _ => rfl), cd5, cd6, cd7, cd8, cd9, cd10, cd11, f_s10, f_s11, f_o10, f_o11⟩
      · rintro L a w ⟨b0, b1, b2, b3, b4, b5, b6, b7, b8, b9, b10, b11, x18, x19, x20, x21, x22, x23, x24, x25, x26, x27, x2, x3, rfl, rfl, hb, cd0, cd1, cd2, cd3, cd4, cd5, cd6, cd7, cd8, cd9, cd10, cd11, f_s10, f_s11, f_o10, f_o11⟩ hf hd
        have hf' : b5 = false := hf
        subst hf'
        clear hf hd
        have e11 : b11 = false := by cases hq : b11 with | false => rfl | true => exact absurd (f_o11.out hq) (by simp)
        subst e11
        have q11 := f_s11.out rfl
        subst q11
        try simp only [List.setIfInBounds_toArray, List.set_cons_zero, List.set_cons_succ]
        intro K hK
        rw [if_pos (by rfl)]
        go_simp
        exact hK.out _ _ ⟨b0, b1, b2, b3, b4, true, b6, b7, b8, b9, b10, false, x18, x19, x20, x21, x22, (.int .i64 kb), x24, x25, x26, x27, x2, .int .i64 kb, (by simp only [Act.put, List.setIfInBounds_toArray, List.set_cons_zero, List.set_cons_succ]), (by simp only [Act.put, List.setIfInBounds_toArray, List.set_cons_zero, List.set_cons_succ]), hb, cd0, cd1, cd2, cd3, cd4, (fun _ => rfl), cd6, cd7, cd8, cd9, cd10, cd11, f_s10, f_s11, f_o10, (fun _ => rfl)⟩
      · rintro L a w ⟨b0, b1, b2, b3, b4, b5, b6, b7, b8, b9, b10, b11, x18, x19, x20, x21, x22, x23, x24, x25, x26, x27, x2, x3, rfl, rfl, hb, cd0, cd1, cd2, cd3, cd4, cd5, cd6, cd7, cd8, cd9, cd10, cd11, f_s10, f_s11, f_o10, f_o11⟩ hf hd
        have hf' : b6 = false := hf
        subst hf'
        clear hf hd
        try simp only [List.setIfInBounds_toArray, List.set_cons_zero, List.set_cons_succ]
        intro K hK
        rw [if_pos (by rfl)]
        go_simp
        exact hK.out _ _ ⟨b0, b1, b2, b3, b4, b5, true, b7, b8, b9, b10, b11, x18, x19, x20, x21, x22, x23, (.pointer (some ⟨pg, 1, none⟩)), x25, x26, x27, x2, x3, (by simp only [Act.put, List.setIfInBounds_toArray, List.set_cons_zero, List.set_cons_succ]), (by simp only [Act.put, List.setIfInBounds_toArray, List.set_cons_zero, List.set_cons_succ]), hb, cd0, cd1, cd2, cd3, cd4, cd5, (fun _ => rfl), cd7, cd8, cd9, cd10, cd11, f_s10, f_s11, f_o10, f_o11⟩
      · rintro L a w ⟨b0, b1, b2, b3, b4, b5, b6, b7, b8, b9, b10, b11, x18, x19, x20, x21, x22, x23, x24, x25, x26, x27, x2, x3, rfl, rfl, hb, cd0, cd1, cd2, cd3, cd4, cd5, cd6, cd7, cd8, cd9, cd10, cd11, f_s10, f_s11, f_o10, f_o11⟩ hf hd
        have hf' : b7 = false := hf
        subst hf'
        have d6 : b6 = true := hd ⟨6, .data⟩ (by simp) rfl
        subst d6
        obtain rfl := cd6.out rfl
        clear hf hd
        try simp only [List.setIfInBounds_toArray, List.set_cons_zero, List.set_cons_succ]
        have z := (hb.cell hpgB).trans g1
        intro K hK
        rw [if_pos (by rfl)]
        go_simp
        exact hK.out _ _ ⟨b0, b1, b2, b3, b4, b5, true, true, b8, b9, b10, b11, x18, x19, x20, x21, x22, x23, .pointer (some ⟨pg, 1, none⟩), (.slice (some ⟨g, 0, none⟩) N c4), x26, x27, x2, x3, (by simp only [Act.put, List.setIfInBounds_toArray, List.set_cons_zero, List.set_cons_succ]), (by simp only [Act.put, List.setIfInBounds_toArray, List.set_cons_zero, List.set_cons_succ]), hb, cd0, cd1, cd2, cd3, cd4, cd5, (fun _ => rfl), (fun _ => rfl), cd8, cd9, cd10, cd11, f_s10, f_s11, f_o10, f_o11⟩
      · rintro L a w ⟨b0, b1, b2, b3, b4, b5, b6, b7, b8, b9, b10, b11, x18, x19, x20, x21, x22, x23, x24, x25, x26, x27, x2, x3, rfl, rfl, hb, cd0, cd1, cd2, cd3, cd4, cd5, cd6, cd7, cd8, cd9, cd10, cd11, f_s10, f_s11, f_o10, f_o11⟩ hf hd
        have hf' : b8 = false := hf
        subst hf'
        have d7 : b7 = true := hd ⟨7, .data⟩ (by simp) rfl
        subst d7
        obtain rfl := cd7.out rfl
        clear hf hd
        try simp only [List.setIfInBounds_toArray, List.set_cons_zero, List.set_cons_succ]
        intro K hK
        rw [if_pos (by rfl)]
        go_simp
        exact hK.out _ _ ⟨b0, b1, b2, b3, b4, b5, b6, true, true, b9, b10, b11, x18, x19, x20, x21, x22, x23, x24, .slice (some ⟨g, 0, none⟩) N c4, (.int .i64 (N : Nat)), x27, x2, x3, (by simp only [Act.put, List.setIfInBounds_toArray, List.set_cons_zero, List.set_cons_succ]), (by simp only [Act.put, List.setIfInBounds_toArray, List.set_cons_zero, List.set_cons_succ]), hb, cd0, cd1, cd2, cd3, cd4, cd5, cd6, (fun _ => rfl), (fun _ => rfl), cd9, cd10, cd11, f_s10, f_s11, f_o10, f_o11⟩
      · rintro L a w ⟨b0, b1, b2, b3, b4, b5, b6, b7, b8, b9, b10, b11, x18, x19, x20, x21, x22, x23, x24, x25, x26, x27, x2, x3, rfl, rfl, hb, cd0, cd1, cd2, cd3, cd4, cd5, cd6, cd7, cd8, cd9, cd10, cd11, f_s10, f_s11, f_o10, f_o11⟩ hf hd
        have hf' : b9 = false := hf
        subst hf'
        have d5 : b5 = true := hd ⟨5, .data⟩ (by simp) rfl
        subst d5
        have d8 : b8 = true := hd ⟨8, .data⟩ (by simp) rfl
        subst d8
        have d4 : b4 = true := hd ⟨4, .chain⟩ (by simp) rfl
        subst d4
        obtain rfl := cd5.out rfl
        obtain rfl := cd8.out rfl
        obtain rfl := cd4.out rfl
        clear hf hd
        try simp only [List.setIfInBounds_toArray, List.set_cons_zero, List.set_cons_succ]
        intro K hK
        rw [if_pos (by rfl)]
        go_simp
        go_at_call 17
        refine (HWb _).mono ?_
        rintro e w' ⟨rfl, rfl⟩
        exact hK.out _ _ ⟨b0, b1, b2, b3, true, true, b6, b7, true, true, b10, b11, x18, x19, x20, x21, .int .i64 (ia : Nat), .int .i64 kb, x24, x25, .int .i64 (N : Nat), (.int .i64 (ib : Nat)), x2, x3, (by simp only [Act.put, List.setIfInBounds_toArray, List.set_cons_zero, List.set_cons_succ]), (by simp only [Act.put, List.setIfInBounds_toArray, List.set_cons_zero, List.set_cons_succ]), hb, cd0, cd1, cd2, cd3, (fun _ => rfl), (fun _ => rfl), cd6, cd7, (fun _ => rfl), (fun _ => rfl), cd10, cd11, f_s10, f_s11, f_o10, f_o11⟩
      · rintro L a w ⟨b0, b1, b2, b3, b4, b5, b6, b7, b8, b9, b10, b11, x18, x19, x20, x21, x22, x23, x24, x25, x26, x27, x2, x3, rfl, rfl, hb, cd0, cd1, cd2, cd3, cd4, cd5, cd6, cd7, cd8, cd9, cd10, cd11, f_s10, f_s11, f_o10, f_o11⟩ hf hd
        have hf' : b10 = false := hf
        subst hf'
        have d4 : b4 = true := hd ⟨4, .data⟩ (by simp) rfl
        subst d4
        have d9 : b9 = true := hd ⟨9, .chain⟩ (by simp) rfl
        subst d9
        have d0 : b0 = true := hd ⟨0, .phase⟩ (by simp) rfl
        subst d0
        have d1 : b1 = true := hd ⟨1, .phase⟩ (by simp) rfl
        subst d1
        have d2 : b2 = true := hd ⟨2, .phase⟩ (by simp) rfl
        subst d2
        have d3 : b3 = true := hd ⟨3, .phase⟩ (by simp) rfl
        subst d3
        obtain rfl := cd4.out rfl
        obtain rfl := cd9.out rfl
        obtain rfl := cd0.out rfl
        obtain rfl := cd1.out rfl
        obtain rfl := cd2.out rfl
        obtain rfl := cd3.out rfl
        clear hf hd
        have W_s10 := f_s10.out rfl
        try simp only [List.setIfInBounds_toArray, List.set_cons_zero, List.set_cons_succ]
        intro K hK
        rw [if_pos (by rfl)]
        go_simp
        exact hK.out _ _ ⟨true, true, true, true, true, b5, b6, b7, b8, true, true, b11, .int .i64 ka, .pointer (some ⟨pg, 1, none⟩), .slice (some ⟨g, 0, none⟩) N c4, .int .i64 (N : Nat), .int .i64 (ia : Nat), x23, x24, x25, x26, .int .i64 (ib : Nat), (.int .i64 (ia : Nat)), x3, (by simp only [Act.put, List.setIfInBounds_toArray, List.set_cons_zero, List.set_cons_succ]), (by simp only [Act.put, List.setIfInBounds_toArray, List.set_cons_zero, List.set_cons_succ]), hb, (fun _ => rfl), (fun _ => rfl), (fun _ => rfl), (fun _ => rfl), (fun _ => rfl), cd5, cd6, cd7, cd8, (fun _ => rfl), (fun _ => rfl), cd11, (fun h => by cases h), f_s11, (fun _ => rfl), f_o11⟩
      · rintro L a w ⟨b0, b1, b2, b3, b4, b5, b6, b7, b8, b9, b10, b11, x18, x19, x20, x21, x22, x23, x24, x25, x26, x27, x2, x3, rfl, rfl, hb, cd0, cd1, cd2, cd3, cd4, cd5, cd6, cd7, cd8, cd9, cd10, cd11, f_s10, f_s11, f_o10, f_o11⟩ hf hd
        have hf' : b11 = false := hf
        subst hf'
        have d9 : b9 = true := hd ⟨9, .data⟩ (by simp) rfl
        subst d9
        have d10 : b10 = true := hd ⟨10, .chain⟩ (by simp) rfl
        subst d10
        have d0 : b0 = true := hd ⟨0, .phase⟩ (by simp) rfl
        subst d0
        have d1 : b1 = true := hd ⟨1, .phase⟩ (by simp) rfl
        subst d1
        have d2 : b2 = true := hd ⟨2, .phase⟩ (by simp) rfl
        subst d2
        have d3 : b3 = true := hd ⟨3, .phase⟩ (by simp) rfl
        subst d3
        have d4 : b4 = true := hd ⟨4, .phase⟩ (by simp) rfl
        subst d4
        have d5 : b5 = true := hd ⟨5, .phase⟩ (by simp) rfl
        subst d5
        have d6 : b6 = true := hd ⟨6, .phase⟩ (by simp) rfl
        subst d6
        have d7 : b7 = true := hd ⟨7, .phase⟩ (by simp) rfl
        subst d7
        have d8 : b8 = true := hd ⟨8, .phase⟩ (by simp) rfl
        subst d8
        obtain rfl := cd9.out rfl
        obtain rfl := cd10.out rfl
        obtain rfl := cd0.out rfl
        obtain rfl := cd1.out rfl
        obtain rfl := cd2.out rfl
        obtain rfl := cd3.out rfl
        obtain rfl := cd4.out rfl
        obtain rfl := cd5.out rfl
        obtain rfl := cd6.out rfl
        obtain rfl := cd7.out rfl
        obtain rfl := cd8.out rfl
        clear hf hd
        have W_s11 := f_s11.out rfl
        have W_o10 := f_o10.out rfl
        try simp only [List.setIfInBounds_toArray, List.set_cons_zero, List.set_cons_succ]
        intro K hK
        rw [if_pos (by rfl)]
        go_simp
        exact hK.out _ _ ⟨true, true, true, true, true, true, true, true, true, true, true, true, .int .i64 ka, .pointer (some ⟨pg, 1, none⟩), .slice (some ⟨g, 0, none⟩) N c4, .int .i64 (N : Nat), .int .i64 (ia : Nat), .int .i64 kb, .pointer (some ⟨pg, 1, none⟩), .slice (some ⟨g, 0, none⟩) N c4, .int .i64 (N : Nat), .int .i64 (ib : Nat), .int .i64 (ia : Nat), (.int .i64 (ib : Nat)), (by simp only [Act.put, List.setIfInBounds_toArray, List.set_cons_zero, List.set_cons_succ]), (by simp only [Act.put, List.setIfInBounds_toArray, List.set_cons_zero, List.set_cons_succ]), hb, (fun _ => rfl), (fun _ => rfl), (fun _ => rfl), (fun _ => rfl), (fun _ => rfl), (fun _ => rfl), (fun _ => rfl), (fun _ => rfl), (fun _ => rfl), (fun _ => rfl), (fun _ => rfl), (fun _ => rfl), (fun h => by cases h), (fun h => by cases h), f_o10, (fun _ => rfl)⟩
    · rintro act V ⟨b0, b1, b2, b3, b4, b5, b6, b7, b8, b9, b10, b11, x18, x19, x20, x21, x22, x23, x24, x25, x26, x27, x2, x3, hL, rfl, hb, cd0, cd1, cd2, cd3, cd4, cd5, cd6, cd7, cd8, cd9, cd10, cd11, f_s10, f_s11, f_o10, f_o11⟩
      have hL' : [true, true, true, true, true, true, true, true, true, true, true, true] = [b0, b1, b2, b3, b4, b5, b6, b7, b8, b9, b10, b11] := congrArg Array.toList hL
      simp only [List.cons.injEq, and_true] at hL'
      obtain ⟨rfl, rfl, rfl, rfl, rfl, rfl, rfl, rfl, rfl, rfl, rfl, rfl⟩ := hL'
      obtain rfl := cd0.out rfl
      obtain rfl := cd1.out rfl
      obtain rfl := cd2.out rfl
      obtain rfl := cd3.out rfl
      obtain rfl := cd4.out rfl
      obtain rfl := cd5.out rfl
      obtain rfl := cd6.out rfl
      obtain rfl := cd7.out rfl
      obtain rfl := cd8.out rfl
      obtain rfl := cd9.out rfl
      obtain rfl := cd10.out rfl
      obtain rfl := cd11.out rfl
      have W_o10 := f_o10.out rfl
      have W_o11 := f_o11.out rfl
      clear hL f_s10 f_s11 f_o10 f_o11 cd0 cd1 cd2 cd3 cd4 cd5 cd6 cd7 cd8 cd9 cd10 cd11
      simp only [List.setIfInBounds_toArray, List.set_cons_zero, List.set_cons_succ]
      have hbV : Below w5.heap.size w5 V := (Below.refl _ _).drew.trans hb
      have XV := X5.past hbV
      have OV := O5.past hbV
      have WV := W5.past hbV
      have BV : Below p w V := B05.trans (hbV.mono hp5)
      have hpV : p ≤ V.heap.size := Nat.le_trans hp5 hbV.size
      obtain ⟨x0V, -, -⟩ := OV.cell3 ia x hx
      obtain ⟨y0V, -, -⟩ := OV.cell3 ib y hy
      have xfV := OV.free (ia * 3)
      have v0 : V.cell? ⟨pg, 0, none⟩ = some (.string (bsOf NM)) := cell_blk XV rfl
      have v1 : V.cell? ⟨pg, 1, none⟩ = some (.slice (some ⟨g, 0, none⟩) N c4) := cell_blk XV rfl
      have v2 : V.cell? ⟨pg, 2, none⟩ = some (.int .i64 (K : Nat)) := cell_blk XV rfl
      have v3 : V.cell? ⟨pg, 3, none⟩ = some (.bool only) := cell_blk XV rfl
      clear hb hbV X5 O5 W5 B05 g0 g1 g2 g3 x0 y0 xf HWa HWb hpgB
      have hwV : w.heap.size = p := HP.out
      have O7 : OwnR encCo ((V.drew).setCell ⟨g, ia * 3, none⟩ (.string (bsOf y.name))) 35 g N c4 (F.set ia (renamed x y.name)) := OV.drew.rename ia x y.name hx
      have X7 : ScB ((V.drew).setCell ⟨g, ia * 3, none⟩ (.string (bsOf y.name))) pg NM (some ⟨g, 0, none⟩) N c4 (K : Nat) only := (heap_setCell_other _ _ pg _ (by simpa using hgpg.symm)).trans (XV.past (Below.refl _ _).drew)
      have B7 : Below p w ((V.drew).setCell ⟨g, ia * 3, none⟩ (.string (bsOf y.name))) := BV.drew.setCell (p := ⟨g, ia * 3, none⟩) hgp _
      have W7 : WL ((V.drew).setCell ⟨g, ia * 3, none⟩ (.string (bsOf y.name))) := WV.low (((Below.refl p V).drew).setCell (p := ⟨g, ia * 3, none⟩) hgp _) hwp
      have t0 : (((V.drew).setCell ⟨g, ia * 3, none⟩ (.string (bsOf y.name)))).cell? ⟨pg, 0, none⟩ = some (.string (bsOf NM)) := cell_blk X7 rfl
      have t1 : (((V.drew).setCell ⟨g, ia * 3, none⟩ (.string (bsOf y.name)))).cell? ⟨pg, 1, none⟩ = some (.slice (some ⟨g, 0, none⟩) N c4) := cell_blk X7 rfl
      have t2 : (((V.drew).setCell ⟨g, ia * 3, none⟩ (.string (bsOf y.name)))).cell? ⟨pg, 2, none⟩ = some (.int .i64 (K : Nat)) := cell_blk X7 rfl
      have t3 : (((V.drew).setCell ⟨g, ia * 3, none⟩ (.string (bsOf y.name)))).cell? ⟨pg, 3, none⟩ = some (.bool only) := cell_blk X7 rfl
      have HCK := check_any _ NM (some ⟨g, 0, none⟩) N c4 _ (K : Nat) only O7.isR (by omega) hSh' W7
      rw [hE'] at HCK
      unfold scV at HCK
      have HCK8 : Hid (∀ w, OwnR encCo w 35 g N c4 (F.set ia (renamed x y.name)) → WL w → Calls Tryd.prog 12 #[.agg #[.string (bsOf NM), .slice (some ⟨g, 0, none⟩) N c4, .int .i64 (K : Nat), .bool only]] w fun e w' => e = .returned (.int .i64 (if ia = ib then 0 else 12)) ∧ Below w.heap.size w w') := fun w O W => by
        have := check_any w NM (some ⟨g, 0, none⟩) N c4 _ (K : Nat) only O.isR (by omega) hSh' W
        rw [hE'] at this
        exact this
      have hp7 : p ≤ (((V.drew).setCell ⟨g, ia * 3, none⟩ (.string (bsOf y.name)))).heap.size := by have := B7.size; omega
      have HB7 := Lib.hid B7
      have HP7 := Lib.hid hp7
      have HX7 := Lib.hid X7
      have HO7 := Lib.hid O7
      have HW7 := Lib.hid W7
      clear hwV XV BV hpV B7 hp7 X7 O7 W7 hE' hSh' OV WV
      by_cases e : ia = ib
      · rw [if_pos e] at HCK
        have heq : ((ia : Int) == (ib : Int)) = true := by rw [e]; simp
        clear e
        go_wp2_with fail
        go_region
        all_goals
          go_wp2_with (go_at_call 12; refine HCK.mono ?_; rintro e w8 ⟨rfl, b8⟩)
          go_ret
          rw [Told, HP.out]
          exact ⟨rfl, HB7.out.trans (b8.mono HP7.out)⟩
      · rw [if_neg e] at HCK
        simp only [if_neg e] at HCK8
        have heq : ((ia : Int) == (ib : Int)) = false := by simp; omega
        clear e
        go_wp2_with fail
        go_region
        all_goals
          go_wp2_with fail
          refine HCK.mono ?_
          rintro e w8 ⟨rfl, b8⟩
          have B8 := HB7.out.trans (b8.mono HP7.out)
          have X8 := HX7.out.past b8
          have s0 : w8.cell? ⟨pg, 0, none⟩ = some (.string (bsOf NM)) := cell_blk X8 rfl
          have s1 : w8.cell? ⟨pg, 1, none⟩ = some (.slice (some ⟨g, 0, none⟩) N c4) := cell_blk X8 rfl
          have s2 : w8.cell? ⟨pg, 2, none⟩ = some (.int .i64 (K : Nat)) := cell_blk X8 rfl
          have s3 : w8.cell? ⟨pg, 3, none⟩ = some (.bool only) := cell_blk X8 rfl
          have HC8 := HCK8.out w8 (HO7.out.past b8) (HW7.out.past b8)
          have hp8 : p ≤ w8.heap.size := Nat.le_trans HP7.out b8.size
          clear t0 t1 t2 t3 HCK HCK8
          go_wp2_with (go_at_call 12; refine HC8.mono ?_; rintro e w9 ⟨rfl, b9⟩)
          go_ret
          rw [Told, HP.out]
          exact ⟨rfl, B8.trans (b9.mono hp8)⟩
end Go.Proofs.YtpfhggalbdjjmaaDoor
