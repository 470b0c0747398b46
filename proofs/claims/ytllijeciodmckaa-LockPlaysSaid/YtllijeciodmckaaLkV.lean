/-
  lock's greatest, Victim.
-/
import Derived.Test.YtllijeciodmckaaLkS
namespace Go.Proofs.Ytllijeciodmckaa
open Go.RowKit Go.Maps
set_option linter.unusedSimpArgs false
/-- Among those that have come: the greatest that has both marks. -/
def GrL (cur : Int → Nat) (left : Int → Bool) (v : Int) (ok : Bool) : Prop := Gr (fun x => (Lit.int .i64 x).wf = true ∧ cur x = 3 ∧ left x = false) v ok
theorem GrL.next {cur : Int → Nat} {left : Int → Bool} {v : Int} {ok : Bool} (h : GrL cur left v ok) {x : Int} (hl : left x = true) (wx : (Lit.int .i64 x).wf = true) :
    (cur x ≠ 3 → GrL cur (fun z => left z && !decide (z = x)) v ok) ∧ (cur x = 3 → (ok = false ∨ v < x) → GrL cur (fun z => left z && !decide (z = x)) x true) ∧ (cur x = 3 → (ok = true ∧ x ≤ v) → GrL cur (fun z => left z && !decide (z = x)) v ok) := by
  have key : cur x = 3 → ∀ z, (((Lit.int .i64 z).wf = true ∧ cur z = 3 ∧ left z = false) ∨ z = x) ↔ ((Lit.int .i64 z).wf = true ∧ cur z = 3 ∧ (left z && !decide (z = x)) = false) := fun hc z => by
    by_cases e : z = x
    · subst e
      simp [hc, wx]
    · simp [e]
  refine ⟨fun hc => ?_, fun hc hy => Gr.congr (h.step x hy) (key hc), fun hc hy => Gr.congr (h.skip x hy) (key hc)⟩
  refine Gr.congr h fun z => ?_
  by_cases e : z = x
  · subst e
    simp [hc]
  · simp [e]
theorem zeroP' (w : World) : (zeroValue 269).run Try.prog w = .ok (Pt.V Option.none) w := by kernel_rfl
set_option maxRecDepth 100000 in
set_option maxHeartbeats 2000000 in
theorem greatest_any (w : World) (mb n : Nat) (S : Nat → Prop) (cur : Int → Nat) (hM : Mk w mb n S cur) :
    Calls Try.prog 109 #[.map (some mb), .int .u32 3] w fun e w' => ∃ v ok, e = .returned (.tuple #[.int .i64 v, .bool ok]) ∧ Gr (fun x => (Lit.int .i64 x).wf = true ∧ cur x = 3) v ok ∧ Below w.heap.size w w' := by
  obtain ⟨f, h⟩ := hM
  obtain ⟨r, hr⟩ : ∃ r, w.heap.size = r := ⟨_, rfl⟩
  have HRr := Lib.hid hr
  have hmb := h.map.lt
  go_enter Try.func109, Try.ntmps109
  go_wp2_with (first
    | (at_range; refine wpList_range_g rfl _ 204 rfl 3 269 keyI Try.underlying204 mb n f rfl h.map ?_; intro w0 cnt0 hrg0 hg0 hs0)
    | go_in)
  go_frame
  have B0 : Below w.heap.size w w0 := ⟨hg0.os, hg0.tape, hg0.output, hg0.size, fun k hk => hg0.block k hk (by simp)⟩
  rw [hr] at hrg0 B0 hs0
  simp only [hr]
  go_loopw [4, 5] (fun zg zf wr => ∃ (g : Int) (fd : Bool) (left : Int → Bool) (cnt : Nat), zg = .int .i64 g ∧ zf = .bool fd ∧ RngG Pt wr Try.prog 3 mb r n f left cnt ∧ Hid (GrL cur left g fd) ∧ Below r w wr) (fun _ _ wr => wr.rangeLeft mb r)
  case atStart => exact ⟨0, false, _, _, rfl, rfl, hrg0, Lib.hid (Gr.congr Gr.start fun x => ⟨fun e => e.elim, fun e => by
    have h1 : (f x).isSome = false := e.2.2
    have h2 := (h.none x).2 (by simpa using h1)
    omega⟩), B0⟩
  case round =>
    obtain ⟨g, fd, left, cnt, rfl, rfl, hrg, hG, hB⟩ := hrel
    go_wp2_with (first
      | (at_next; refine wpList_next_g rfl _ rfl 3 keyI Try.underlying3 mb r n f left cnt rfl hrg ?_ ?_)
      | go_in)
    · intro hl
      have HR := Lib.hid (Gr.congr hG.out (Q := fun x => (Lit.int .i64 x).wf = true ∧ cur x = 3) fun x => ⟨fun e => ⟨e.1, e.2.1⟩, fun e => ⟨e.1, e.2, hl x e.1⟩⟩)
      clear hl hG hrg
      go_wp2_with fail
      refine bodyPost_ret (v := .tuple #[.int .i64 g, .bool fd]) (by simp [results, Try.results109, go_sem]) rfl ?_
      exact ⟨g, fd, rfl, HR.out, by rw [HRr.out]; exact hB⟩
    · intro x c w1 cnt1 wx hlx hfx hrg1 hlt hg1 hs1 hen
      have hv : Pt.V (some c) = .pointer (some ⟨c, 0, none⟩) := rfl
      rw [hv] at hen
      rw [hv]
      have hB1 : Below r w w1 := hB.grown hg1 (Nat.le_trans (by rw [HRr.out]; exact Nat.le_refl _) hB.size) (fun z hz => by cases hz; exact Nat.le_refl _)
      obtain ⟨d1, d2, d3⟩ := h.cell x c hfx
      have hc1 := (hB1.block c (by rw [← HRr.out]; exact h.lt c d1)).trans d3
      have HL := uload_any w1 c (cur x) hc1
      obtain ⟨k1, k2, k3⟩ := hG.out.next hlx wx
      have hx0 : cur x ≠ 0 := fun e => by rw [(h.none x).1 e] at hfx; cases hfx
      have hx3 := h.val x
      have K1 := Lib.hid k1
      have K2 := Lib.hid k2
      have K3 := Lib.hid k3
      have hm1 := hrg1.left_eq
      have hm2 := hrg.left_eq
      have HM := Lib.hid (show w1.rangeLeft mb r < wr.rangeLeft mb r by rw [hm1, hm2]; exact hlt)
      clear k1 k2 k3 hc1 hv hm1 hm2 hlt
      obtain ⟨z, hz⟩ : ∃ z, cur x = z := ⟨_, rfl⟩
      rw [hz] at HL K1 K2 K3 hx0 hx3
      clear hz
      have hzz : z = 1 ∨ z = 2 ∨ z = 3 := by omega
      rcases hzz with rfl | rfl | rfl
      · have R := Lib.hid (K1.out (by omega))
        clear K1 K2 K3 hG
        go_wp2_with (go_at_call 160; refine HL.mono ?_; rintro e w2 ⟨rfl, rfl⟩)
        go_roundw
        case rel => exact ⟨g, fd, _, cnt1, rfl, rfl, hrg1, R, hB1⟩
        case measure => exact HM.out
      · have R := Lib.hid (K1.out (by omega))
        clear K1 K2 K3 hG
        go_wp2_with (go_at_call 160; refine HL.mono ?_; rintro e w2 ⟨rfl, rfl⟩)
        go_roundw
        case rel => exact ⟨g, fd, _, cnt1, rfl, rfl, hrg1, R, hB1⟩
        case measure => exact HM.out
      · cases fd
        · have R := Lib.hid (K2.out rfl (.inl rfl))
          clear K1 K2 K3 hG
          go_wp2_with (go_at_call 160; refine HL.mono ?_; rintro e w2 ⟨rfl, rfl⟩)
          go_roundw
          case rel => exact ⟨x, true, _, cnt1, rfl, rfl, hrg1, R, hB1⟩
          case measure => exact HM.out
        · by_cases hgx : g < x
          · have R := Lib.hid (K2.out rfl (.inr hgx))
            clear K1 K2 K3 hG
            go_wp2_with (go_at_call 160; refine HL.mono ?_; rintro e w2 ⟨rfl, rfl⟩)
            go_roundw
            case rel => exact ⟨x, true, _, cnt1, rfl, rfl, hrg1, R, hB1⟩
            case measure => exact HM.out
          · have R := Lib.hid (K3.out rfl ⟨rfl, by omega⟩)
            clear K1 K2 K3 hG
            go_wp2_with (go_at_call 160; refine HL.mono ?_; rintro e w2 ⟨rfl, rfl⟩)
            go_roundw
            case rel => exact ⟨g, true, _, cnt1, rfl, rfl, hrg1, R, hB1⟩
            case measure => exact HM.out
theorem rch_wf {M T : List Hd} (wT : ∀ y ∈ T, (Lit.int .i64 y.s).wf = true) {s x : Int} (h : Rch M T s x) : (Lit.int .i64 x).wf = true := by
  refine h.closed (fun x => (Lit.int .i64 x).wf = true) (fun y hy => ?_) fun _ y _ hy => ?_
  all_goals
    obtain ⟨_, _, _, t, ht, rfl, _⟩ := hy
    exact wT t ht
set_option maxRecDepth 100000 in
set_option maxHeartbeats 2000000 in
theorem victim_any (w : World) (v : Value) (H W : List Hd) (h : LkIs w v H W) (hH : H.length ≤ 10000) (hW : W.length ≤ 10000) (wH : ∀ y ∈ H, (Lit.int .i64 y.s).wf = true) (wW : ∀ y ∈ W, (Lit.int .i64 y.s).wf = true) (s : Int) (hs : (Lit.int .i64 s).wf = true) :
    Calls Try.prog 58 #[v, .int .i64 s] w fun e w' => ∃ x ok, e = .returned (.tuple #[.int .i64 x, .bool ok]) ∧ Vic H W s x ok ∧ Below w.heap.size w w' := by
  obtain ⟨ho, hn, hc, wo1, wn, wc, rfl, h1, h2⟩ := h
  have l1 := h1.len
  have l2 := h2.len
  have hmm := @run_makeMap Try.prog
  have X0 := LkB.new w ho hn hc wo1 wn wc 96
  have B0 : Below w.heap.size w (w.alloc (.cells #[.slice ho hn hc, .slice wo1 wn wc] 96)) := (Below.refl _ _).alloc (Nat.le_refl _) _
  generalize hWa : w.alloc (.cells #[.slice ho hn hc, .slice wo1 wn wc] 96) = Wa at X0 B0
  have hWas : Wa.heap.size = w.heap.size + 1 := by rw [← hWa, World.size_alloc]
  have X1 := X0.past ((Below.refl _ _).alloc (Nat.le_refl _) (.map #[] 0))
  have B1 := B0.alloc B0.size (.map #[] 0)
  have M0 := Mk.made Wa
  have hsz : (Wa.alloc (.map #[] 0)).heap.size = w.heap.size + 2 := by rw [World.size_alloc, hWas]
  rw [hWas] at M0
  unfold lkV
  clear X0 B0
  go_enter Try.func58, Try.ntmps58
  go_upto_region 2 with fail
  generalize Wa.alloc (.map #[] 0) = W0 at X1 B1 M0 hsz ⊢
  obtain ⟨p, hp⟩ : ∃ p, w.heap.size = p := ⟨_, rfl⟩
  have HP := Lib.hid hp
  have far : ∀ (ao : Option Addr) (n c : Nat) (l : List Hd), IsR EHd w ao n c l → ∀ S : Nat → Prop, (∀ k, S k → p + 1 ≤ k) → 0 < n → Far S ao := fun ao n c l hI S hS hn0 a ha e => by
    obtain ⟨b, off, hb, hlt, _⟩ := hI.open hn0 (by decide)
    rw [hb] at ha
    cases ha
    have hk : p + 1 ≤ b := hS _ e
    omega
  have i1 : IsR EHd W0 ho hn hc H := h1.past B1
  have i2 : IsR EHd W0 wo1 wn wc W := h2.past B1
  rw [hp] at X1 B1 M0 hsz
  simp only [hp]
  have HF1 := far ho hn hc H h1
  have HF2 := far wo1 wn wc W h2
  clear hp far hWa hWas
  have hS0 : ∀ k, (fun k => k = p + 1) k → p + 1 ≤ k := fun k hk => by
    have : k = p + 1 := hk
    omega
  have HS1 := spread_any W0 (p + 1) 0 _ _ M0 (by omega) 1 (.inl rfl) s hs wo1 wn wc W i2 ho hn hc H i1 (by omega) (by omega) wW wH (HF1 _ hS0) (fun x => Nat.zero_and 1)
  obtain ⟨c0, c1⟩ := X1.c
  go_upto_region 3 with (go_at_call 108; refine HS1.mono ?_; rintro e w1 ⟨rfl, n1, S1, L1, hmk1, hL1, hn1, k1, x1⟩)
  have b1 : Below (p + 1) W0 w1 := k1.below (by omega) hS0
  have hw1 : p + 2 ≤ w1.heap.size := by have := b1.size; omega
  have hS1 : ∀ k, S1 k → p + 1 ≤ k := x1.ge (by omega) hS0
  have X2 : LkB w1 p ho hn hc wo1 wn wc 96 := (b1.block p (by omega)).trans X1
  have B2 : Below p w w1 := B1.trans (b1.mono (Nat.le_succ p))
  have j1 : IsR EHd w1 ho hn hc H := h1.past (by rw [HP.out]; exact B2)
  have j2 : IsR EHd w1 wo1 wn wc W := h2.past (by rw [HP.out]; exact B2)
  have hz2 : ∀ x, curL (fun _ => 0) 1 L1 x &&& 2 = 0 := fun x => by
    unfold curL
    split
    · show ((0 ||| 1) &&& 2 : Nat) = 0
      decide
    · show (0 &&& 2 : Nat) = 0
      decide
  have HS2 := spread_any w1 (p + 1) n1 S1 _ hmk1 (by omega) 2 (.inr rfl) s hs ho hn hc H j1 wo1 wn wc W j2 (by omega) (by omega) wH wW (HF2 _ hS1) hz2
  clear HS1 c0 c1
  obtain ⟨c0, c1⟩ := X2.c
  go_upto_region 4 with (go_at_call 108; refine HS2.mono ?_; rintro e w2 ⟨rfl, n2, S2, L2, hmk2, hL2, hn2, k2, x2⟩)
  have b2 : Below (p + 1) w1 w2 := k2.below (by omega) hS1
  have B3 : Below p w w2 := B2.trans (b2.mono (Nat.le_succ p))
  have hw2 : p ≤ w2.heap.size := by have := b2.size; omega
  have HG := greatest_any w2 (p + 1) n2 S2 _ hmk2
  have hGr : ∀ x, ((Lit.int .i64 x).wf = true ∧ curL (curL (fun _ => 0) 1 L1) 2 L2 x = 3) ↔ (Rch W H s x ∧ Rch H W s x) := fun x => by
    rw [← hL1 x, ← hL2 x]
    unfold curL
    constructor
    · rintro ⟨_, e⟩
      by_cases q1 : x ∈ L1 <;> by_cases q2 : x ∈ L2
      · exact ⟨q1, q2⟩
      · rw [if_neg q2, if_pos q1] at e
        have e' : (0 ||| 1 : Nat) = 3 := e
        exact absurd e' (by decide)
      · rw [if_pos q2, if_neg q1] at e
        have e' : (0 ||| 2 : Nat) = 3 := e
        exact absurd e' (by decide)
      · rw [if_neg q2, if_neg q1] at e
        have e' : (0 : Nat) = 3 := e
        exact absurd e' (by decide)
    · rintro ⟨q1, q2⟩
      refine ⟨rch_wf wH ((hL1 x).1 q1), ?_⟩
      rw [if_pos q2, if_pos q1]
      show ((0 ||| 1) ||| 2 : Nat) = 3
      decide
  have HGh := Lib.hid hGr
  clear HS2 c0 c1 hGr hL1 hL2
  go_wp2_with (go_at_call 109; refine HG.mono ?_; rintro e w3 ⟨x, ok, rfl, hg, b3⟩)
  refine bodyPost_ret (v := .tuple #[.int .i64 x, .bool ok]) (by simp [results, Try.results58, go_sem]) rfl ?_
  refine ⟨x, ok, rfl, Vic.of_gr (hg.congr HGh.out), ?_⟩
  rw [HP.out]
  exact B3.trans (b3.mono hw2)
end Go.Proofs.Ytllijeciodmckaa
