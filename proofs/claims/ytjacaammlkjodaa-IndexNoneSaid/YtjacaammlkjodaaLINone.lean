/-
  IndexNone, walked (by gen_inone.py).
-/
import Derived.Test.YtjacaammlkjodaaIxL
namespace Go.Proofs.Ytjacaammlkjodaa
open Go.RowKit
set_option linter.unusedSimpArgs false
set_option maxRecDepth 100000 in
set_option maxHeartbeats 8000000 in
theorem indexNone_walk (l : List UInt8) (ao : Option Addr) (n c : Nat) (key : Int) (only : Bool) (cs : List Co) (na : Option Addr) (nl nc : Nat) (ns : List Int) (cl : Int) (w : World) (_hl : l.length ≤ maxLen) (_hkey : (Lit.int .i64 key).wf = true) (h : IsR encCo w ao n c cs) (_hcs : ∀ x ∈ cs, (Lit.int .i64 x.kind).wf = true ∧ x.name.length ≤ maxLen) (hI : IsR EI w na nl nc ns) (hIw : ∀ x ∈ ns, (Lit.int .i64 x).wf = true) (_ : (Lit.int .i64 cl).wf = true) :
    Calls Try.prog 8 #[scV l ao n c key only, .slice na nl nc, .int .i64 cl] w (Told w true) := by
  unfold scV
  have X0 := ScB.new w l ao n c key only
  have B0 := (Below.refl w.heap.size w).alloc (Nat.le_refl _) (.cells #[.string (bsOf l), .slice ao n c, .int .i64 key, .bool only] 24)
  go_enter Try.func8, Try.ntmps8
  go_upto_region 1 with fail
  generalize w.alloc (.cells #[.string (bsOf l), .slice ao n c, .int .i64 key, .bool only] 24) = W0 at X0 B0 ⊢
  obtain ⟨p0, hp0⟩ : ∃ p0, w.heap.size = p0 := ⟨_, rfl⟩
  have HP := Lib.hid hp0
  rw [hp0] at X0 B0
  simp only [hp0]
  clear hp0
  have hW0 : p0 ≤ W0.heap.size := Nat.le_of_lt X0.lt
  go_upto_region 3 with (go_at_call 13; refine (known11 _).mono ?_; rintro e w1 ⟨rfl, b1⟩)
  have X1 := X0.past b1
  have B1 := B0.trans (b1.mono hW0)
  have hW1 := Nat.le_trans hW0 b1.size
  have h1 : IsR encCo w1 ao n c cs := h.past (by rw [HP.out]; exact B1)
  have HFw := few9_any w1 l ao n c cs key only h1
  unfold scV at HFw
  have y0 : w1.cell? ⟨p0, 0, none⟩ = some (.string (bsOf l)) := cell_blk X1 rfl
  have y1 : w1.cell? ⟨p0, 1, none⟩ = some (.slice ao n c) := cell_blk X1 rfl
  have y2 : w1.cell? ⟨p0, 2, none⟩ = some (.int .i64 key) := cell_blk X1 rfl
  have y3 : w1.cell? ⟨p0, 3, none⟩ = some (.bool only) := cell_blk X1 rfl
  cases hfw : fewS l cs
  · rw [hfw] at HFw
    go_wp2_with (go_at_call 14; refine HFw.mono ?_; rintro e w2 ⟨rfl, b2⟩)
    go_ret
    exact ⟨rfl, by rw [HP.out]; exact B1.trans (b2.mono hW1)⟩
  rw [hfw] at HFw
  have hn9 : n ≤ 9 := by
    unfold fewS at hfw
    simp only [Bool.and_eq_true, decide_eq_true_eq] at hfw
    have := h.len
    omega
  clear hfw
  go_upto_region 5 with (go_at_call 14; refine HFw.mono ?_; rintro e w2 ⟨rfl, b2⟩)
  have X2 := X1.past b2
  have B2 := B1.trans (b2.mono hW1)
  have hW2 := Nat.le_trans hW1 b2.size
  have h2 := h1.past b2
  clear y0 y1 y2 y3 HFw
  have y0 : w2.cell? ⟨p0, 0, none⟩ = some (.string (bsOf l)) := cell_blk X2 rfl
  have y1 : w2.cell? ⟨p0, 1, none⟩ = some (.slice ao n c) := cell_blk X2 rfl
  have y2 : w2.cell? ⟨p0, 2, none⟩ = some (.int .i64 key) := cell_blk X2 rfl
  have y3 : w2.cell? ⟨p0, 3, none⟩ = some (.bool only) := cell_blk X2 rfl
  have HG := good9_any w2 l ao n c cs key 3 only h2 (by omega)
  unfold GoodIs scV at HG
  have hNp := gN_pos cs
  have hKl := (gKey_lt cs key).1
  have hFl := gFin_len cs key
  have hFk := gFin_kinds cs key
  have hFn := gFin_keyN cs key
  obtain ⟨N, hN⟩ : ∃ N, gN cs = N := ⟨_, rfl⟩
  obtain ⟨KI, hKI⟩ : ∃ KI, gKey cs key = KI := ⟨_, rfl⟩
  obtain ⟨F, hF⟩ : ∃ F, gFin cs key = F := ⟨_, rfl⟩
  obtain ⟨NM, hNM⟩ : ∃ NM, gNm 3 = NM := ⟨_, rfl⟩
  simp only [hN, hKI, hF, hNM] at HG hNp hKl hFl hFk hFn
  clear hN hKI hF hNM
  go_upto_region 6 with (go_at_call 15; refine HG.mono ?_; rintro e w3 ⟨g, cg, rfl, og, b3, q3⟩)
  have hW3 := Nat.le_trans hW2 b3.size
  have B3 : Below p0 w (w3.alloc (.cells #[.string (bsOf NM), .slice (some ⟨g, 0, none⟩) N cg, .int .i64 (KI : Nat), .bool only] 24)) := (B2.trans (b3.mono hW2)).alloc hW3 _
  have XS : Bk (w3.alloc (.cells #[.string (bsOf NM), .slice (some ⟨g, 0, none⟩) N cg, .int .i64 (KI : Nat), .bool only] 24)) w3.heap.size (scC NM (some ⟨g, 0, none⟩) N cg (KI : Nat) only) 24 := Bk.new w3 _ _
  have oG := og.alloc (.cells #[.string (bsOf NM), .slice (some ⟨g, 0, none⟩) N cg, .int .i64 (KI : Nat), .bool only] 24)
  have hgl := og.lt
  have hg0 : p0 ≤ g := Nat.le_trans hW2 q3
  generalize w3.alloc (.cells #[.string (bsOf NM), .slice (some ⟨g, 0, none⟩) N cg, .int .i64 (KI : Nat), .bool only] 24) = W at B3 XS oG ⊢
  obtain ⟨gs, hgs⟩ : ∃ gs, w3.heap.size = gs := ⟨_, rfl⟩
  rw [hgs] at XS hgl hW3
  simp only [hgs]
  obtain ⟨z0, z1, z2, z3⟩ := sc_cells XS
  have hgsW : gs < W.heap.size := XS.lt
  have iG := oG.isR
  clear hgs og b3 q3 HG y0 y1 y2 y3 X2 X1 X0 B2 B1 B0 b1 b2 h2 h1 hW2 hW1 hW0
  have hpW : p0 ≤ W.heap.size := by omega
  obtain ⟨C, hC, hCl0⟩ := wth_of cl N (by omega)
  have hCl : C < N := by omega
  have HWi := fun w => within11_any cl N w (by omega) (by omega)
  rw [hC] at HWi
  have hgW : g < W.heap.size := by omega
  go_upto_region 7 with (go_at_call 16; refine (HWi _).mono ?_; rintro e w' ⟨rfl, rfl⟩)
  have HFl := fill_any W NM g N cg KI only F iG hFl hNp hFk hKl na nl nc ns (hI.past (by rw [HP.out]; exact B3)) hIw hgW
  unfold scV at HFl
  go_upto_region 8 with (first
    | (go_at_call 17; refine HFl.mono ?_; rintro e w5 ⟨ro, rn, rc, rs, rfl, iR, hFi, hrn, b5⟩; unfold tbV; have HO := of_any w5 NM (some ⟨g, 0, none⟩) N cg KI only ro rn rc; unfold tbV at HO)
    | (go_at_call 19; refine HO.mono ?_; rintro e w6 ⟨rfl, b6⟩; have HB := build_any w6 NM (some ⟨g, 0, none⟩) N cg KI only ro rn rc _ rs (iR.past b6) C (fits_vok hFl hKl hCl hFi) (by omega); unfold tbV at HB)
    | (go_at_call 18; refine HB.mono ?_; rintro e w7 ⟨x, rfl, hX, b7⟩))
  have B5 := B3.trans (b5.mono hpW)
  have hp5 := Nat.le_trans hpW b5.size
  have B6 := B5.trans (b6.mono hp5)
  have hp6 := Nat.le_trans hp5 b6.size
  have B7 := B6.trans (b7.mono hp6)
  have hp7 := Nat.le_trans hp6 b7.size
  obtain ⟨hE, hM⟩ := ix_spec hFl hKl hCl hFi
  have hel := ixOf_len C KI rs
  have hrl := iR.len
  have e1 : keysE ZV (ixOf C KI rs) = [] := none_keys hE zv_ok (fun e he q => by
    obtain ⟨r, hr, rfl⟩ := (hM e).1 he
    obtain ⟨-, m, d, -, e1⟩ := fits_at hFl hCl hFi hr
    have := fit_zz m C d
    have q' : kOf C r = ZV := q
    rw [← e1, q', V.cmp_self] at this
    omega)
  have e2 : keysE BV (ixOf C KI rs) = [] := none_keys hE bv_ok (fun e he q => by
    obtain ⟨r, hr, rfl⟩ := (hM e).1 he
    obtain ⟨-, m, d, -, e1⟩ := fits_at hFl hCl hFi hr
    have q' : kOf C r = BV := q
    exact fit_bv m C d (e1.symm.trans q'))
  have e3 : fromE ZV 9 (ixOf C KI rs) = [] := none_from hE zv_ok 9 (fun e he => by
    obtain ⟨r, hr, rfl⟩ := (hM e).1 he
    obtain ⟨-, m, d, -, e1⟩ := fits_at hFl hCl hFi hr
    show (kOf C r).cmp ZV < 0
    rw [e1]
    exact fit_zz m C d)
  obtain ⟨es, hes⟩ : ∃ es, ixOf C KI rs = es := ⟨_, rfl⟩
  rw [hes] at hX e1 e2 e3 hel
  have HK1 : ∀ w', IsX w' w6.heap.size w7.heap.size x C KI es → Calls Try.prog 31 #[.pointer (some ⟨x, 0, none⟩), .agg #[.int .i64 3, .int .i64 0, .string ⟨#[122, 122, 122, 122, 122, 122, 122, 122, 122, 122]⟩]] w' fun e w'' => ∃ ao c, e = .returned (.slice ao 0 c) ∧ Below w'.heap.size w' w'' := fun w' h => (keys_any w' _ _ x C KI es h (by omega) ZV zv_ok).mono fun e w'' ⟨ao, c, h1, _, h3⟩ => ⟨ao, c, by rw [h1, e1]; rfl, h3⟩
  have HK2 : ∀ w', IsX w' w6.heap.size w7.heap.size x C KI es → Calls Try.prog 31 #[.pointer (some ⟨x, 0, none⟩), .agg #[.int .i64 2, .int .i64 1099511627776, .string ⟨#[]⟩]] w' fun e w'' => ∃ ao c, e = .returned (.slice ao 0 c) ∧ Below w'.heap.size w' w'' := fun w' h => (keys_any w' _ _ x C KI es h (by omega) BV bv_ok).mono fun e w'' ⟨ao, c, h1, _, h3⟩ => ⟨ao, c, by rw [h1, e2]; rfl, h3⟩
  have HK3 : ∀ w', IsX w' w6.heap.size w7.heap.size x C KI es → w7.heap.size ≤ w'.heap.size → Calls Try.prog 33 #[.pointer (some ⟨x, 0, none⟩), .agg #[.int .i64 3, .int .i64 0, .string ⟨#[122, 122, 122, 122, 122, 122, 122, 122, 122, 122]⟩], .int .i64 9] w' fun e w'' => ∃ ao c, e = .returned (.slice ao 0 c) ∧ Below w'.heap.size w' w'' := fun w' h hh => (from_any w' _ _ x C KI es h hh (by omega) ZV zv_ok 9).mono fun e w'' ⟨ao, c, h1, _, h3⟩ => ⟨ao, c, by rw [h1, e3]; rfl, h3⟩
  clear e1 e2 e3 hel hE hM hes HFl HO HB z0 z1 z2 z3
  go_upto_region 9 with fail
  have hZ : VAt (w7.alloc (.cells #[.int .i64 3, .int .i64 0, .string ⟨#[122, 122, 122, 122, 122, 122, 122, 122, 122, 122]⟩] 46)) w7.heap.size 3 0 ⟨#[122, 122, 122, 122, 122, 122, 122, 122, 122, 122]⟩ := VAt.new w7 3 0 _
  have b8 : Below w7.heap.size w7 (w7.alloc (.cells #[.int .i64 3, .int .i64 0, .string ⟨#[122, 122, 122, 122, 122, 122, 122, 122, 122, 122]⟩] 46)) := (Below.refl _ _).alloc (Nat.le_refl _) _
  generalize w7.alloc (.cells #[.int .i64 3, .int .i64 0, .string ⟨#[122, 122, 122, 122, 122, 122, 122, 122, 122, 122]⟩] 46) = w8 at hZ b8 ⊢
  obtain ⟨gz, hgz⟩ : ∃ gz, w7.heap.size = gz := ⟨_, rfl⟩
  have hgz2 := Lib.hid hgz
  rw [hgz] at hZ
  simp only [hgz]
  clear hgz
  go_upto_region 10 with fail
  have hB : VAt (w8.alloc (.cells #[.int .i64 2, .int .i64 1099511627776, .string ⟨#[]⟩] 46)) w8.heap.size 2 1099511627776 ⟨#[]⟩ := VAt.new w8 2 _ _
  have b9 : Below w8.heap.size w8 (w8.alloc (.cells #[.int .i64 2, .int .i64 1099511627776, .string ⟨#[]⟩] 46)) := (Below.refl _ _).alloc (Nat.le_refl _) _
  generalize w8.alloc (.cells #[.int .i64 2, .int .i64 1099511627776, .string ⟨#[]⟩] 46) = w9 at hB b9 ⊢
  obtain ⟨gb, hgb⟩ : ∃ gb, w8.heap.size = gb := ⟨_, rfl⟩
  have hgb2 := Lib.hid hgb
  rw [hgb] at hB
  simp only [hgb]
  clear hgb
  have hZ9 := hZ.past b9
  have bX := b8.trans (b9.mono b8.size)
  have B9 := B7.trans (bX.mono hp7)
  have hp9 := Nat.le_trans hp7 bX.size
  have hX9 := hX.past bX
  obtain ⟨c0, c1, c2, -, -, -, -⟩ := id hZ9
  go_wp2_with (first
    | (go_at_call 31; (with_reducible refine (HK1 _ hX9).mono ?_); rintro e wa ⟨aa, ca, rfl, ba⟩; obtain ⟨d0, d1, d2, -, -, -, -⟩ := hB.past ba)
    | (go_at_call 31; (with_reducible refine (HK2 _ (hX9.past ba)).mono ?_); rintro e wb ⟨ab, cb, rfl, bb⟩; have bab := ba.trans (bb.mono ba.size); obtain ⟨d0, d1, d2, -, -, -, -⟩ := hZ9.past bab)
    | (go_at_call 33; refine (HK3 _ (hX9.past bab) (Nat.le_trans bX.size bab.size)).mono ?_; rintro e wc ⟨ac, cc, rfl, bc⟩))
  go_ret
  exact ⟨rfl, by rw [HP.out]; exact (B9.trans (bab.mono hp9)).trans (bc.mono (Nat.le_trans hp9 bab.size))⟩
end Go.Proofs.Ytjacaammlkjodaa
