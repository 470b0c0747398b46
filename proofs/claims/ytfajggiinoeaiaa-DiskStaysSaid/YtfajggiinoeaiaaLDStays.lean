/-
  DiskStays, walked.
-/
import Derived.Test.YtfajggiinoeaiaaStaysP
namespace Go.Proofs.Ytfajggiinoeaiaa
open Go.RowKit
set_option linter.unusedSimpArgs false

theorem slice_h32 (g : Nat) (w : World) : (Instr.slice 22 (.slice (some ⟨g, 0, none⟩) 64 64) none (some (.int .i64 32)) none).run Try.prog w = .ok (.slice (some ⟨g, 0, none⟩) 32 64) w := by kernel_rfl
theorem slice_l32 (g : Nat) (w : World) : (Instr.slice 22 (.slice (some ⟨g, 0, none⟩) 64 64) (some (.int .i64 32)) none none).run Try.prog w = .ok (.slice (some ⟨g, 32, none⟩) 32 32) w := by kernel_rfl
theorem copy_pad (l : List UInt8) (n : Nat) (hl : l.length = n) (hn : n ≤ 64) : l.take (min n 64) ++ (List.replicate 64 (0 : UInt8)).drop (min n 64) = pad l := pad_copy l n hl hn
set_option maxRecDepth 100000 in
set_option maxHeartbeats 16000000 in
theorem diskStays_walk (a0 : Option Addr) (n0 c0 : Nat) (l0 : List UInt8) (a1 : Option Addr) (n1 c1 : Nat) (ps : List (List UInt8)) (a2 : Option Addr) (n2 c2 : Nat) (ks : List Int) (w : World) (h0 : IsB w a0 n0 c0 l0) (h1 : IsP w a1 n1 ps) (h2 : IsR EI w a2 n2 c2 ks) :
    Calls Try.prog 3 #[.slice a0 n0 c0, .slice a1 n1 c1, .slice a2 n2 c2] w fun e w' => e = .returned (.bool true) ∧ Below w.heap.size w w' := by
  by_cases hlen : 64 < n0 ∨ 8 < n1
  · by_cases hn0 : 64 < n0
    · have h3 : (64 : Int) < (n0 : Int) := by omega
      go_enter Try.func3, Try.ntmps3
      go_wp2_with fail
      refine (known7_any w).mono ?_
      rintro e w1 ⟨rfl, b1⟩
      go_wp2
      go_ret
      exact ⟨rfl, b1⟩
    · have h3 : decide ((64 : Int) < (n0 : Int)) = false := by simp; omega
      have h4 : (8 : Int) < (n1 : Int) := by omega
      go_enter Try.func3, Try.ntmps3
      go_wp2_with fail
      refine (known7_any w).mono ?_
      rintro e w1 ⟨rfl, b1⟩
      go_wp2
      go_ret
      exact ⟨rfl, b1⟩
  · have hn0 : n0 ≤ 64 := by omega
    have hn1 : n1 ≤ 8 := by omega
    have q0 : decide ((64 : Int) < (n0 : Int)) = false := by simp; omega
    have q1 : decide ((8 : Int) < (n1 : Int)) = false := by simp; omega
    have q2 : (n1 : Int) ≤ 8 := by omega
    clear hlen
    have hF2 : 0 < n2 → ∀ a, a2 = some a → a.block < w.heap.size := fun hn a ha => by
      have hl := h2.len
      obtain ⟨u, hu⟩ : ∃ u, ks[0]? = some u := ⟨_, List.getElem?_eq_getElem (by omega)⟩
      have hc := h2.cell a ha 0 (.int .i64 u) (by rw [EI_all, List.getElem?_map, hu]; rfl)
      have := World.block_lt_of_cell? w _ hc
      have e : (a.add 0).block = a.block := by unfold Addr.add; split <;> rfl
      rwa [e] at this
    obtain ⟨X, hXe⟩ : ∃ X, X = pad l0 := ⟨_, rfl⟩
    have hXl : X.length = 64 := by rw [hXe]; exact pad_length _
    have HXE := Lib.hid hXe
    have HXL := Lib.hid hXl
    obtain ⟨Ys, hYe⟩ : ∃ Ys, Ys = ps.map pad := ⟨_, rfl⟩
    have hYs : ∀ y ∈ Ys, y.length = 64 := fun y hy => by rw [hYe] at hy; obtain ⟨z, _, rfl⟩ := List.mem_map.1 hy; exact pad_length _
    have hYn : n1 = Ys.length := by rw [hYe, List.length_map, h1.len]
    have HYE := Lib.hid hYe
    have HYS := Lib.hid hYs
    have HYN := Lib.hid hYn
    clear hXe hXl hYe hYs hYn
    go_enter Try.func3, Try.ntmps3
    go_wp2_with fail
    refine (known7_any w).mono ?_
    rintro e w1 ⟨rfl, b1⟩
    go_wp2_with fail
    refine (new_is 4 w1 (by omega) (by omega)).mono ?_
    rintro e w2 ⟨d, S, rfl, hD, b2, hS⟩
    have hw1 := b1.size
    have B2 := b1.trans (b2.mono b1.size)
    have hS0 : ∀ k, S k → w.heap.size ≤ k := fun k hk => Nat.le_trans hw1 (hS k hk)
    go_wp2_with (first
      | (at_make; refine wpList_full_ob rfl _ _ 22 rfl 5 byteTy .i64 .i64 _ _ 64 rfl rfl rfl rfl (by omega) ?_; intro w3 hA b3; have B3 := B2.trans (b3.mono B2.size); have h03 := h0.past B3)
      | (with_reducible refine wpList_copy_ob rfl (.tmp 35) (.tmp 36) 22 22 rfl 5 byteTy.ht sizeU8 _ 64 64 _ 5 rfl hA a0 n0 c0 l0 rfl h03 ?_; intro w4 hX g4; have B4 := B3.grown g4 B3.size (fun z e => by cases e; exact B2.size)))
    rw [copy_pad l0 n0 h0.len hn0, ← HXE.out] at hX
    have hD4 := (hD.past b3).kp (Kp.ofGrown g4 (S := fun z => z = w2.heap.size) (fun z e => by cases e; rfl)) (fun z hz e => by subst e; exact absurd (hD.lt _ hz) (Nat.lt_irrefl _))
    have hSx : ¬ S w2.heap.size := fun q => absurd (hD.lt _ q) (Nat.lt_irrefl _)
    have hgx : w.heap.size ≤ w2.heap.size := B2.size
    obtain ⟨gx, egx⟩ : ∃ g, g = w2.heap.size := ⟨_, rfl⟩
    rw [← egx] at hX hSx hgx
    simp only [← egx]
    clear hA h03 g4 B3 b3 hD egx b1 b2
    refine (write_is hD4 rfl (room_of (by decide) (by decide)) (by simp [newD]) 1 (by omega) _ 64 64 X hX.isB (by omega)).mono ?_
    rintro e w5 ⟨S5, rfl, hD5, k5, x5⟩
    have B5 := B4.trans (k5.below B4.size hS0)
    have hS5 := x5.ge B4.size hS0
    have hX5 := hX.kp k5 hSx
    have hSx5 : ¬ S5 gx := fun q => by rcases x5 gx q with h | h; exact hSx h; have := hX.lt; omega
    clear hD4 k5 x5 hX
    rw [show (newD 4).code = 0 from rfl]
    go_wp2_with fail
    refine (write_is hD5 rfl (room_of (show (-1000000 : Int) ≤ -1 by decide) (show (-1 : Int) ≤ 1000000 by decide)) (by simp [newD, Dk.put, Dk.spent]) 2 (by omega) _ 64 64 X hX5.isB (by omega)).mono ?_
    rintro e w6 ⟨S6, rfl, hD6, k6, x6⟩
    have B6 := B5.trans (k6.below B5.size hS5)
    have hS6 := x6.ge B5.size hS5
    have hX6 := hX5.kp k6 hSx5
    have hSx6 : ¬ S6 gx := fun q => by rcases x6 gx q with h | h; exact hSx5 h; have := hX5.lt; omega
    clear hD5 k6 x6 hX5
    rw [show (((newD 4).put 1 X).spent).code = 0 from rfl]
    go_wp2_with fail
    refine (sync_is hD6 rfl (room_of (show (-1000000 : Int) ≤ -2 by decide) (show (-2 : Int) ≤ 1000000 by decide)) (show (-2 : Int) ≠ 1 by decide) (by simp [newD, Dk.put, Dk.spent])).mono ?_
    rintro e w7 ⟨S7, rfl, hD7, k7, x7⟩
    have B7 := B6.trans (k7.below B6.size hS6)
    have hS7 := x7.ge B6.size hS6
    have hX7 := hX6.kp k7 hSx6
    have hSx7 : ¬ S7 gx := fun q => by rcases x7 gx q with h | h; exact hSx6 h; have := hX6.lt; omega
    have hst := st_first X Ys HXL.out
    generalize ((((newD 4).put 1 X).spent.put 2 X).spent).sync = s7 at hD7 hst
    clear hD6 k7 x7 hX6
    go_wp2_with fail
    have bR : Below w7.heap.size w7 (w7.alloc (.cells #[.slice (some ⟨gx, 0, none⟩) 64 64] 22)) := (Below.refl _ _).alloc (Nat.le_refl _) _
    have hgx7 := hX7.lt
    have hR8 : Rws (w7.alloc (.cells #[.slice (some ⟨gx, 0, none⟩) 64 64] 22)) S7 w7.heap.size 1 1 [some gx] (X :: Ys) :=
      ⟨OwnR.ofBlk (heap_alloc_new w7 _) rfl rfl (by omega), fun q => absurd (hD7.lt _ q) (Nat.lt_irrefl _), fun j hj => by
        obtain rfl : j = 0 := by omega
        exact ⟨gx, rfl, hX7.below bR hX7.lt, hSx7, by omega⟩⟩
    have hD8 := hD7.past bR
    have hX8 := hX7.below bR hX7.lt
    have B8 := B7.trans (bR.mono B7.size)
    have hgr : gx ≠ w7.heap.size := by omega
    have hwr : w.heap.size ≤ w7.heap.size := B7.size
    generalize w7.alloc (.cells #[.slice (some ⟨gx, 0, none⟩) 64 64] 22) = w8 at hR8 hD8 hX8 B8 ⊢
    clear bR hX7 hD7 hgx7
    go_loopw [10, 11] (fun u v wr => ∃ (k : Nat) (S : Nat → Prop) (s : Dk) (rg c : Nat) (gs : List (Option Nat)), k ≤ n1 ∧ u = .slice (some ⟨rg, 0, none⟩) (k + 1) c ∧ v = .int .i64 k ∧ IsD wr d 4 S s ∧ St X Ys k s ∧ Rws wr S rg c (k + 1) gs (X :: Ys) ∧ OwnB wr 5 gx 64 64 X ∧ (¬ S gx ∧ gx ≠ rg ∧ w.heap.size ≤ rg) ∧ Below w.heap.size w wr ∧ ∀ z, S z → w.heap.size ≤ z) (fun _ v _ => (n1 - (intOf v).toNat))
    case atStart => exact ⟨0, S7, s7, _, 1, _, by omega, rfl, rfl, hD8, hst, hR8, hX8, ⟨hSx7, hgr, hwr⟩, B8, hS7⟩
    case round =>
      clear hD8 hst hR8 hX8 hSx7 hgr hwr B8 hS7
      obtain ⟨k, S, s, rg, c, gs, hk, rfl, rfl, hD, hst, hR, hX, ⟨hSx, hgr, hwr⟩, hB, hS⟩ := hrel
      by_cases hkn : k < n1
      · have hk2 : (k : Int) < (n1 : Int) := by omega
        obtain ⟨pa, rfl⟩ := h1.has (by omega)
        obtain ⟨bo, bn, bc', hc, hb⟩ := h1.cell _ rfl k hkn
        have hcr : wr.cell? (pa.add k) = some (.slice bo bn bc') := by rw [hB.cell (World.block_lt_of_cell? w _ hc)]; exact hc
        by_cases hbn : 64 < bn
        · have hbn2 : (64 : Int) < (bn : Int) := by omega
          go_wp2_with fail
          go_ret
          exact ⟨rfl, hB⟩
        · have hbn2 : decide ((64 : Int) < (bn : Int)) = false := by simp; omega
          have hbn3 : bn ≤ 64 := by omega
          have hbW := h1
          have hgsl : gs.length = k + 1 := hR.own.len
          have hyk : Ys[k]? = some (pad (ps.getD k [])) := by
            rw [HYE.out, List.getElem?_map, List.getElem?_eq_getElem (by rw [h1.len]; exact hkn)]
            simp [List.getD, show k < ps.length by rw [h1.len]; exact hkn]
          have hrlt := hR.own.lt
          have hne : s.left ≠ 1 := by rw [hst.left]; omega
          have hroom : Room s := room_of (by rw [hst.left]; omega) (by rw [hst.left]; omega)
          have hpl : s.pend.length ≤ 100000 := by rw [hst.pend]; simp; omega
          have HNE := Lib.hid hne
          have HGONE := Lib.hid hst.gone
          have hst2 := hst.next _ hyk (pad_length _)
          have HST := Lib.hid hst2
          have HYK := Lib.hid hyk
          have HGS := Lib.hid hgsl
          clear hne hst2 hyk hgsl hbW hc
          go_wp2_with (first
            | (at_make; refine wpList_full_ob rfl _ _ 22 rfl 5 byteTy .i64 .i64 _ _ 64 rfl rfl rfl rfl (by omega) ?_; intro wa hA ba; have Ba := hB.trans (ba.mono hB.size); have hba := hb.past Ba; have hcra : wa.cell? (pa.add k) = some (.slice bo bn bc') := (by rw [ba.cell (World.block_lt_of_cell? _ _ hcr)]; exact hcr))
            | (with_reducible refine wpList_copy_ob rfl (.tmp 68) (.tmp 72) 22 22 rfl 5 byteTy.ht sizeU8 _ 64 64 _ 5 rfl hA bo bn bc' _ rfl hba ?_; intro wb hY gb; have Bb := Ba.grown gb Ba.size (fun z e => by cases e; exact hB.size)))
          rw [copy_pad _ bn hb.len hbn3] at hY
          have hDb := (hD.past ba).kp (Kp.ofGrown gb (S := fun z => z = wr.heap.size) (fun z e => by cases e; rfl)) (fun z hz e => by subst e; exact absurd (hD.lt _ hz) (Nat.lt_irrefl _))
          have hSy : ¬ S wr.heap.size := fun q => absurd (hD.lt _ q) (Nat.lt_irrefl _)
          have hRb : Rws wb S rg c (k + 1) gs (X :: Ys) := (hR.past ba).grown gb (by omega) (fun j g hj => by
            have hjk : j < k + 1 := by have := (List.getElem?_eq_some_iff.1 hj).1; rw [HGS.out] at this; exact this
            obtain ⟨g', h1', h2', _, _⟩ := hR.each j hjk
            rw [hj] at h1'
            obtain rfl : g = g' := by simpa using h1'
            have := h2'.lt
            omega)
          have hXb : OwnB wb 5 gx 64 64 X := (hX.below ba hX.lt).grown gb (fun e => by have := hX.lt; cases e; omega)
          have hgyx : gx ≠ wr.heap.size := by have := hX.lt; omega
          have hgyr : rg ≠ wr.heap.size := by omega
          have hwy : w.heap.size ≤ wr.heap.size := hB.size
          obtain ⟨gy, egy⟩ : ∃ g, g = wr.heap.size := ⟨_, rfl⟩
          rw [← egy] at hY hSy hgyx hgyr
          simp only [← egy]
          clear hA hba hcra hcr Ba gb ba hD hR hX egy
          refine (write_is hDb HGONE.out hroom hpl 2 (by omega) _ 64 64 _ hY.isB (by omega)).mono ?_
          rintro e wc ⟨S2, rfl, hDc, k2, x2⟩
          have Bc := Bb.trans (k2.below Bb.size hS)
          have hS2 := x2.ge Bb.size hS
          have hRc := hRb.kp k2 x2
          have hYc := hY.kp k2 hSy
          have hXc := hXb.kp k2 hSx
          have hSy2 : ¬ S2 gy := fun q => by rcases x2 gy q with h | h; exact hSy h; have := hY.lt; omega
          have hSx2 : ¬ S2 gx := fun q => by rcases x2 gx q with h | h; exact hSx h; have := hXb.lt; omega
          have hDc' : IsD wc d 4 S2 (s.put 2 (pad (ps.getD k []))).spent := hDc
          have hYl := hYc.lt
          have hXl := hXc.lt
          have hRl := hRc.own.lt
          clear hDb hRb hY hXb k2 x2 Bb hDc
          have bA : Below wc.heap.size wc (wc.alloc (.cells #[.slice (some ⟨gy, 0, none⟩) 64 64] 22)) := (Below.refl _ _).alloc (Nat.le_refl _) _
          have srcA : Src Try.prog encSl.sz 23 (.slice (some ⟨wc.heap.size, 0, none⟩) 1 1) 1 (encSl.all [some gy]) (wc.alloc (.cells #[.slice (some ⟨gy, 0, none⟩) 64 64] 22)) := (OwnR.ofBlk (E := encSl) (l := [some gy]) (n := 1) (heap_alloc_new wc _) rfl rfl (by omega)).isR.src Try.underlying23
          have hOA := hRc.own.alloc (.cells #[.slice (some ⟨gy, 0, none⟩) 64 64] 22)
          have hcl1 : ([some gy] : List (Option Nat)).length = 1 := rfl
          go_wp2_with (at_builtin; refine wpList_append_or rfl (.tmp 77) (.tmp 79) 23 23 rfl 22 sl_ty rg (k + 1) c gs rfl hOA _ rfl 1 [some gy] srcA rfl (k + 1 + 1) rfl _ rfl (by omega) ?_; intro rg' c' wd hO' pd od)
          have hod : rg' = rg ∨ wc.heap.size < rg' := by rcases od with h | h; exact .inl h; simp at h; exact .inr (by omega)
          have gd := puts_grown' pd
          have hDd : IsD wd d 4 S2 (s.put 2 (pad (ps.getD k []))).spent := (hDc'.past bA).kp (Kp.ofGrown gd (S := fun z => z = rg) (fun z e => by cases e; rfl)) (fun z hz e => hRc.far (by rw [← e]; exact hz))
          have Bd : Below w.heap.size w wd := (Bc.trans (bA.mono Bc.size)).grown gd (by have := Bc.size; simp; omega) (fun z e => by cases e; exact hwr)
          have hYd : OwnB wd 5 gy 64 64 (pad (ps.getD k [])) := (hYc.below bA hYl).grown gd (fun e => by cases e; exact hgyr rfl)
          have hXd : OwnB wd 5 gx 64 64 X := (hXc.below bA hXl).grown gd (fun e => by cases e; exact hgr rfl)
          have hrow : (X :: Ys).getD (k + 1) [] = pad (ps.getD k []) := by simp [List.getD, HYK.out]
          have hgl := HGS.out
          have hRd : Rws wd S2 rg' c' (k + 1 + 1) (gs ++ [some gy]) (X :: Ys) := ⟨hO', (fun q => by rcases hod with rfl | h; exact hRc.far q; have := hDc'.lt _ q; omega), fun j hj => by
            by_cases hjk : j < k + 1
            · obtain ⟨g, e1, e2, e3, e4⟩ := hRc.each j hjk
              have := e2.lt
              exact ⟨g, by rw [List.getElem?_append_left (by omega)]; exact e1, (e2.below bA e2.lt).grown gd (fun e => e4 (by cases e; rfl)), e3, by rcases hod with rfl | h; exact e4; omega⟩
            · obtain rfl : j = k + 1 := by omega
              exact ⟨gy, by rw [List.getElem?_append_right (by omega), hgl]; simp, by rw [hrow]; exact hYd, hSy2, by rcases hod with rfl | h; exact (fun e => hgyr e.symm); omega⟩⟩
          have hgr' : gx ≠ rg' := by rcases hod with rfl | h; exact hgr; omega
          have hwr' : w.heap.size ≤ rg' := by have := Bc.size; rcases hod with rfl | h; exact hwr; omega
          have HR := Lib.hid (And.intro hDd (And.intro hRd (And.intro hXd (And.intro hgr' hwr'))))
          clear hDd hRd hXd hYd hrow hgl gd pd od hO' hOA srcA bA hDc' hRc hYc hXc hcl1
          go_wp2_with fail
          go_roundw
          case rel => exact ⟨k + 1, S2, _, rg', c', _, by omega, rfl, by go_num, HR.out.1, HST.out, HR.out.2.1, HR.out.2.2.1, ⟨hSx2, HR.out.2.2.2.1, HR.out.2.2.2.2⟩, Bd, hS2⟩
          case measure => simp [intOf]; omega
      · obtain rfl : k = n1 := by omega
        obtain ⟨hp1, hh⟩ := hst.crash HXL.out HYS.out HYN.out ks
        have HP1 := Lib.hid hp1
        have hpd : s.pend.length ≤ 1000000 := by rw [hst.pend]; simp; omega
        clear hp1
        go_wp2_with fail
        refine (crash_in hD hpd a2 n2 c2 ks (h2.past hB) (fun hn a ha q => by have := hF2 hn a ha; have := hS _ q; omega)).mono ?_
        rintro e w10 ⟨S10, rfl, hD10, k10, x10⟩
        have B10 := hB.trans (k10.below hB.size hS)
        have hR10 := hR.kp k10 x10
        have hX10 := hX.kp k10 hSx
        clear hD hR hX k10 x10 hB
        go_wp2_with fail
        refine (read_is hD10 rfl 1 (by omega)).mono ?_
        rintro e w11 ⟨gp, rfl, hP, hgp, b11⟩
        rw [HP1.out] at hP
        have hD11 := hD10.past b11
        have B11 := B10.trans (b11.mono B10.size)
        have hR11 := hR10.past b11
        have hX11 := hX10.below b11 hX10.lt
        clear hD10 b11 B10 hR10 hX10 hgp
        go_wp2_with fail
        refine (read_is hD11 rfl 2 (by omega)).mono ?_
        rintro e wq ⟨gq, rfl, hQ, hgq, b12⟩
        obtain ⟨Q, hQe⟩ : ∃ Q, (s.crash ks).pg 2 = Q := ⟨_, rfl⟩
        rw [hQe] at hQ hh
        have B12 := B11.trans (b12.mono B11.size)
        have hR12 := hR11.past b12
        have hX12 := hX11.below b12 hX11.lt
        have hP12 := hP.below b12 hP.lt
        have hrow : (X :: Ys).length = k + 1 := by rw [List.length_cons, ← HYN.out]
        have HROW := Lib.hid hrow
        have HH := Lib.hid hh
        clear hD11 b12 B11 hR11 hX11 hP hQe hgq hrow hh hst
        go_wp2_with fail
        go_loopw [17, 18, 19] (fun u v z wr => ∃ i : Nat, i ≤ k + 1 ∧ u = .bool (hit (X :: Ys) Q 0 i) ∧ v = .bool (hit (X :: Ys) Q 32 i) ∧ z = .int .i64 i ∧ Below wq.heap.size wq wr) (fun _ _ z _ => (k + 1 - (intOf z).toNat))
        case atStart => exact ⟨0, by omega, rfl, rfl, rfl, Below.refl _ _⟩
        case round =>
          obtain ⟨i, hi, rfl, rfl, rfl, hBw⟩ := hrel
          by_cases hik : i < k + 1
          · have hik2 : (i : Int) < (k : Int) + 1 := by omega
            have hik3 : i < k + 1 := hik
            obtain ⟨g, hcg, hrw⟩ := hR12.cellAt i hik
            have hri : (X :: Ys)[i]? = some ((X :: Ys).getD i []) := by simp only [List.getD]; rw [List.getElem?_eq_getElem (by rw [HROW.out]; exact hik)]; rfl
            obtain ⟨r, hre⟩ : ∃ r, (X :: Ys).getD i [] = r := ⟨_, rfl⟩
            rw [hre] at hrw hri
            have HRI := Lib.hid hri
            have ccell := (hBw.cell (p := ⟨rg, i, none⟩) (show rg < wq.heap.size from hR12.own.lt)).trans hcg
            have hrgl : rg < wr.heap.size := Nat.lt_of_lt_of_le hR12.own.lt hBw.size
            have hrw2 := hrw.below hBw hrw.lt
            have hQ2 := hQ.below hBw hQ.lt
            have hr0 : IsB wr (some ⟨g, 0, none⟩) 32 64 (seg 0 r) := isB_sub hrw2 0 32 (by omega) (by omega)
            have hr32 : IsB wr (some ⟨g, 32, none⟩) 32 32 (seg 32 r) := isB_sub hrw2 32 32 (by omega) (by omega)
            have hq0 : IsB wr (some ⟨gq, 0, none⟩) 32 64 (seg 0 Q) := isB_sub hQ2 0 32 (by omega) (by omega)
            have hq32 : IsB wr (some ⟨gq, 32, none⟩) 32 32 (seg 32 Q) := isB_sub hQ2 32 32 (by omega) (by omega)
            have cst := Try.underlying9
            have Cst := Lib.hid cst
            clear hcg hrw hri hre hrw2 hQ2 hik
            cases hf : hit (X :: Ys) Q 0 i <;> cases hs : hit (X :: Ys) Q 32 i
            · have EF := Lib.hid hf
              have ES := Lib.hid hs
              clear hf hs
              go_wp2_with fail
              obtain ⟨wc, rfl⟩ : ∃ wc : World, wc = wr := ⟨_, rfl⟩
              refine wp_region_held_drew (S := fun w' => Below wc.heap.size wc w') (by kernel_rfl) ((Below.refl _ _).drew) (fun hHeld => ?_)
              refine wpAnyH_take (i := 0) (v := ?_) rfl (by kernel_rfl) (by kernel_rfl) (by kernel_rfl) (fun _ _ _ h => h) (Or.inl ⟨by rfl, ?_⟩) hHeld ?_
              rotate_left 1
              focus (intro wq hSw; go_simp; try with_reducible rfl)
              try (simp only [Act.put, List.getElem_toArray, List.getElem_cons_succ, List.getElem_cons_zero, List.setIfInBounds_toArray, List.set_cons_zero, List.set_cons_succ])
              refine wpAnyH_take (i := 1) (v := ?_) rfl (by kernel_rfl) (by kernel_rfl) (by kernel_rfl) (fun _ _ _ h => h) (Or.inl ⟨by rfl, ?_⟩) hHeld ?_
              rotate_left 1
              focus (intro wq hSw; go_simp; try with_reducible rfl)
              try (simp only [Act.put, List.getElem_toArray, List.getElem_cons_succ, List.getElem_cons_zero, List.setIfInBounds_toArray, List.set_cons_zero, List.set_cons_succ])
              refine wpAnyH_take (i := 2) (v := ?_) rfl (by kernel_rfl) (by kernel_rfl) (by kernel_rfl) (fun _ _ _ h => h) (Or.inl ⟨by rfl, ?_⟩) hHeld ?_
              rotate_left 1
              focus (intro wq hSw; go_simp; try with_reducible rfl)
              try (simp only [Act.put, List.getElem_toArray, List.getElem_cons_succ, List.getElem_cons_zero, List.setIfInBounds_toArray, List.set_cons_zero, List.set_cons_succ])
              refine wpAnyH_take (i := 3) (v := ?_) rfl (by kernel_rfl) (by kernel_rfl) (by kernel_rfl) (fun _ _ _ h => h) (Or.inl ⟨by rfl, ?_⟩) hHeld ?_
              rotate_left 1
              focus (intro wq hSw; go_simp; try with_reducible rfl)
              try (simp only [Act.put, List.getElem_toArray, List.getElem_cons_succ, List.getElem_cons_zero, List.setIfInBounds_toArray, List.set_cons_zero, List.set_cons_succ])
              refine wpAnyH_take (i := 4) (v := ?_) rfl (by kernel_rfl) (by kernel_rfl) (by kernel_rfl) (fun _ _ _ h => h) (Or.inl ⟨by rfl, ?_⟩) hHeld ?_
              rotate_left 1
              focus (intro wq hSw; go_simp; try with_reducible rfl)
              try (simp only [Act.put, List.getElem_toArray, List.getElem_cons_succ, List.getElem_cons_zero, List.setIfInBounds_toArray, List.set_cons_zero, List.set_cons_succ])
              refine wpAnyH_take (i := 5) (v := ?_) rfl (by kernel_rfl) (by kernel_rfl) (by kernel_rfl) (fun _ _ _ h => h) (Or.inl ⟨by rfl, ?_⟩) hHeld ?_
              rotate_left 1
              focus (intro wq hSw; have hcv := (hSw.cell (p := ⟨rg, i, none⟩) hrgl).trans ccell; go_simp; try with_reducible rfl)
              try (simp only [Act.put, List.getElem_toArray, List.getElem_cons_succ, List.getElem_cons_zero, List.setIfInBounds_toArray, List.set_cons_zero, List.set_cons_succ])
              refine wpAnyH_take (i := 6) (v := ?_) rfl (by kernel_rfl) (by kernel_rfl) (by kernel_rfl) (fun _ _ _ h => h) (Or.inl ⟨by rfl, ?_⟩) hHeld ?_
              rotate_left 1
              focus (intro wq hSw; have hcv := slice_h32 g wq; go_simp; try with_reducible rfl)
              try (simp only [Act.put, List.getElem_toArray, List.getElem_cons_succ, List.getElem_cons_zero, List.setIfInBounds_toArray, List.set_cons_zero, List.set_cons_succ])
              refine wpAnyH_take (i := 7) (v := ?_) rfl (by kernel_rfl) (by kernel_rfl) (by kernel_rfl) (fun _ _ _ h => h) (Or.inl ⟨by rfl, ?_⟩) hHeld ?_
              rotate_left 1
              focus (intro wq hSw; have hcv := (hr0.past hSw).conv byteTy cst; go_simp; try with_reducible rfl)
              try (simp only [Act.put, List.getElem_toArray, List.getElem_cons_succ, List.getElem_cons_zero, List.setIfInBounds_toArray, List.set_cons_zero, List.set_cons_succ])
              refine wpAnyH_take (i := 8) (v := ?_) rfl (by kernel_rfl) (by kernel_rfl) (by kernel_rfl) (fun _ _ _ h => h) (Or.inl ⟨by rfl, ?_⟩) hHeld ?_
              rotate_left 1
              focus (intro wq hSw; go_simp; try with_reducible rfl)
              try (simp only [Act.put, List.getElem_toArray, List.getElem_cons_succ, List.getElem_cons_zero, List.setIfInBounds_toArray, List.set_cons_zero, List.set_cons_succ])
              refine wpAnyH_take (i := 9) (v := ?_) rfl (by kernel_rfl) (by kernel_rfl) (by kernel_rfl) (fun _ _ _ h => h) (Or.inl ⟨by rfl, ?_⟩) hHeld ?_
              rotate_left 1
              focus (intro wq hSw; have hcv := slice_h32 gq wq; go_simp; try with_reducible rfl)
              try (simp only [Act.put, List.getElem_toArray, List.getElem_cons_succ, List.getElem_cons_zero, List.setIfInBounds_toArray, List.set_cons_zero, List.set_cons_succ])
              refine wpAnyH_take (i := 10) (v := ?_) rfl (by kernel_rfl) (by kernel_rfl) (by kernel_rfl) (fun _ _ _ h => h) (Or.inl ⟨by rfl, ?_⟩) hHeld ?_
              rotate_left 1
              focus (intro wq hSw; have hcv := (hq0.past hSw).conv byteTy cst; go_simp; try with_reducible rfl)
              try (simp only [Act.put, List.getElem_toArray, List.getElem_cons_succ, List.getElem_cons_zero, List.setIfInBounds_toArray, List.set_cons_zero, List.set_cons_succ])
              refine wpAnyH_take (i := 11) (v := ?_) rfl (by kernel_rfl) (by kernel_rfl) (by kernel_rfl) (fun _ _ _ h => h) (Or.inl ⟨by rfl, ?_⟩) hHeld ?_
              rotate_left 1
              focus (intro wq hSw; go_simp; try with_reducible rfl)
              try (simp only [Act.put, List.getElem_toArray, List.getElem_cons_succ, List.getElem_cons_zero, List.setIfInBounds_toArray, List.set_cons_zero, List.set_cons_succ])
              refine wpAnyH_take (i := 12) (v := ?_) rfl (by kernel_rfl) (by kernel_rfl) (by kernel_rfl) (fun _ _ _ h => h) (Or.inl ⟨by rfl, ?_⟩) hHeld ?_
              rotate_left 1
              focus (intro wq hSw; go_simp; try with_reducible rfl)
              try (simp only [Act.put, List.getElem_toArray, List.getElem_cons_succ, List.getElem_cons_zero, List.setIfInBounds_toArray, List.set_cons_zero, List.set_cons_succ])
              refine wpAnyH_take (i := 13) (v := ?_) rfl (by kernel_rfl) (by kernel_rfl) (by kernel_rfl) (fun _ _ _ h => h) (Or.inl ⟨by rfl, ?_⟩) hHeld ?_
              rotate_left 1
              focus (intro wq hSw; go_simp; try with_reducible rfl)
              try (simp only [Act.put, List.getElem_toArray, List.getElem_cons_succ, List.getElem_cons_zero, List.setIfInBounds_toArray, List.set_cons_zero, List.set_cons_succ])
              refine wpAnyH_done (by kernel_rfl) ?_ _
              go_wp2_with fail
              refine wp_region_held_drew (S := fun w' => Below wc.heap.size wc w') (by kernel_rfl) ((Below.refl _ _).drew.drew) (fun hHeld => ?_)
              refine wpAnyH_take (i := 0) (v := ?_) rfl (by kernel_rfl) (by kernel_rfl) (by kernel_rfl) (fun _ _ _ h => h) (Or.inl ⟨by rfl, ?_⟩) hHeld ?_
              rotate_left 1
              focus (intro wq hSw; go_simp; try with_reducible rfl)
              try (simp only [Act.put, List.getElem_toArray, List.getElem_cons_succ, List.getElem_cons_zero, List.setIfInBounds_toArray, List.set_cons_zero, List.set_cons_succ])
              refine wpAnyH_take (i := 1) (v := ?_) rfl (by kernel_rfl) (by kernel_rfl) (by kernel_rfl) (fun _ _ _ h => h) (Or.inl ⟨by rfl, ?_⟩) hHeld ?_
              rotate_left 1
              focus (intro wq hSw; go_simp; try with_reducible rfl)
              try (simp only [Act.put, List.getElem_toArray, List.getElem_cons_succ, List.getElem_cons_zero, List.setIfInBounds_toArray, List.set_cons_zero, List.set_cons_succ])
              refine wpAnyH_take (i := 2) (v := ?_) rfl (by kernel_rfl) (by kernel_rfl) (by kernel_rfl) (fun _ _ _ h => h) (Or.inl ⟨by rfl, ?_⟩) hHeld ?_
              rotate_left 1
              focus (intro wq hSw; go_simp; try with_reducible rfl)
              try (simp only [Act.put, List.getElem_toArray, List.getElem_cons_succ, List.getElem_cons_zero, List.setIfInBounds_toArray, List.set_cons_zero, List.set_cons_succ])
              refine wpAnyH_take (i := 3) (v := ?_) rfl (by kernel_rfl) (by kernel_rfl) (by kernel_rfl) (fun _ _ _ h => h) (Or.inl ⟨by rfl, ?_⟩) hHeld ?_
              rotate_left 1
              focus (intro wq hSw; go_simp; try with_reducible rfl)
              try (simp only [Act.put, List.getElem_toArray, List.getElem_cons_succ, List.getElem_cons_zero, List.setIfInBounds_toArray, List.set_cons_zero, List.set_cons_succ])
              refine wpAnyH_take (i := 4) (v := ?_) rfl (by kernel_rfl) (by kernel_rfl) (by kernel_rfl) (fun _ _ _ h => h) (Or.inl ⟨by rfl, ?_⟩) hHeld ?_
              rotate_left 1
              focus (intro wq hSw; go_simp; try with_reducible rfl)
              try (simp only [Act.put, List.getElem_toArray, List.getElem_cons_succ, List.getElem_cons_zero, List.setIfInBounds_toArray, List.set_cons_zero, List.set_cons_succ])
              refine wpAnyH_take (i := 5) (v := ?_) rfl (by kernel_rfl) (by kernel_rfl) (by kernel_rfl) (fun _ _ _ h => h) (Or.inl ⟨by rfl, ?_⟩) hHeld ?_
              rotate_left 1
              focus (intro wq hSw; have hcv := (hSw.cell (p := ⟨rg, i, none⟩) hrgl).trans ccell; go_simp; try with_reducible rfl)
              try (simp only [Act.put, List.getElem_toArray, List.getElem_cons_succ, List.getElem_cons_zero, List.setIfInBounds_toArray, List.set_cons_zero, List.set_cons_succ])
              refine wpAnyH_take (i := 6) (v := ?_) rfl (by kernel_rfl) (by kernel_rfl) (by kernel_rfl) (fun _ _ _ h => h) (Or.inl ⟨by rfl, ?_⟩) hHeld ?_
              rotate_left 1
              focus (intro wq hSw; have hcv := slice_l32 g wq; go_simp; try with_reducible rfl)
              try (simp only [Act.put, List.getElem_toArray, List.getElem_cons_succ, List.getElem_cons_zero, List.setIfInBounds_toArray, List.set_cons_zero, List.set_cons_succ])
              refine wpAnyH_take (i := 7) (v := ?_) rfl (by kernel_rfl) (by kernel_rfl) (by kernel_rfl) (fun _ _ _ h => h) (Or.inl ⟨by rfl, ?_⟩) hHeld ?_
              rotate_left 1
              focus (intro wq hSw; have hcv := (hr32.past hSw).conv byteTy cst; go_simp; try with_reducible rfl)
              try (simp only [Act.put, List.getElem_toArray, List.getElem_cons_succ, List.getElem_cons_zero, List.setIfInBounds_toArray, List.set_cons_zero, List.set_cons_succ])
              refine wpAnyH_take (i := 8) (v := ?_) rfl (by kernel_rfl) (by kernel_rfl) (by kernel_rfl) (fun _ _ _ h => h) (Or.inl ⟨by rfl, ?_⟩) hHeld ?_
              rotate_left 1
              focus (intro wq hSw; go_simp; try with_reducible rfl)
              try (simp only [Act.put, List.getElem_toArray, List.getElem_cons_succ, List.getElem_cons_zero, List.setIfInBounds_toArray, List.set_cons_zero, List.set_cons_succ])
              refine wpAnyH_take (i := 9) (v := ?_) rfl (by kernel_rfl) (by kernel_rfl) (by kernel_rfl) (fun _ _ _ h => h) (Or.inl ⟨by rfl, ?_⟩) hHeld ?_
              rotate_left 1
              focus (intro wq hSw; have hcv := slice_l32 gq wq; go_simp; try with_reducible rfl)
              try (simp only [Act.put, List.getElem_toArray, List.getElem_cons_succ, List.getElem_cons_zero, List.setIfInBounds_toArray, List.set_cons_zero, List.set_cons_succ])
              refine wpAnyH_take (i := 10) (v := ?_) rfl (by kernel_rfl) (by kernel_rfl) (by kernel_rfl) (fun _ _ _ h => h) (Or.inl ⟨by rfl, ?_⟩) hHeld ?_
              rotate_left 1
              focus (intro wq hSw; have hcv := (hq32.past hSw).conv byteTy cst; go_simp; try with_reducible rfl)
              try (simp only [Act.put, List.getElem_toArray, List.getElem_cons_succ, List.getElem_cons_zero, List.setIfInBounds_toArray, List.set_cons_zero, List.set_cons_succ])
              refine wpAnyH_take (i := 11) (v := ?_) rfl (by kernel_rfl) (by kernel_rfl) (by kernel_rfl) (fun _ _ _ h => h) (Or.inl ⟨by rfl, ?_⟩) hHeld ?_
              rotate_left 1
              focus (intro wq hSw; go_simp; try with_reducible rfl)
              try (simp only [Act.put, List.getElem_toArray, List.getElem_cons_succ, List.getElem_cons_zero, List.setIfInBounds_toArray, List.set_cons_zero, List.set_cons_succ])
              refine wpAnyH_take (i := 12) (v := ?_) rfl (by kernel_rfl) (by kernel_rfl) (by kernel_rfl) (fun _ _ _ h => h) (Or.inl ⟨by rfl, ?_⟩) hHeld ?_
              rotate_left 1
              focus (intro wq hSw; go_simp; try with_reducible rfl)
              try (simp only [Act.put, List.getElem_toArray, List.getElem_cons_succ, List.getElem_cons_zero, List.setIfInBounds_toArray, List.set_cons_zero, List.set_cons_succ])
              refine wpAnyH_take (i := 13) (v := ?_) rfl (by kernel_rfl) (by kernel_rfl) (by kernel_rfl) (fun _ _ _ h => h) (Or.inl ⟨by rfl, ?_⟩) hHeld ?_
              rotate_left 1
              focus (intro wq hSw; go_simp; try with_reducible rfl)
              try (simp only [Act.put, List.getElem_toArray, List.getElem_cons_succ, List.getElem_cons_zero, List.setIfInBounds_toArray, List.set_cons_zero, List.set_cons_succ])
              refine wpAnyH_done (by kernel_rfl) ?_ _
              have BW : Below wq.heap.size wq wc.drew.drew := hBw.drew.drew
              clear ccell hr0 hr32 hq0 hq32 hBw
              go_wp2_with fail
              go_roundw
              case rel =>
                refine ⟨i + 1, by omega, ?_, ?_, by go_num, BW⟩
                · rw [hit_succ _ _ _ _ r HRI.out, EF.out]
                  simp
                · rw [hit_succ _ _ _ _ r HRI.out, ES.out]
                  simp
              case measure => simp [intOf]; omega
            · have EF := Lib.hid hf
              have ES := Lib.hid hs
              clear hf hs
              go_wp2_with fail
              obtain ⟨wc, rfl⟩ : ∃ wc : World, wc = wr := ⟨_, rfl⟩
              refine wp_region_held_drew (S := fun w' => Below wc.heap.size wc w') (by kernel_rfl) ((Below.refl _ _).drew) (fun hHeld => ?_)
              refine wpAnyH_take (i := 0) (v := ?_) rfl (by kernel_rfl) (by kernel_rfl) (by kernel_rfl) (fun _ _ _ h => h) (Or.inl ⟨by rfl, ?_⟩) hHeld ?_
              rotate_left 1
              focus (intro wq hSw; go_simp; try with_reducible rfl)
              try (simp only [Act.put, List.getElem_toArray, List.getElem_cons_succ, List.getElem_cons_zero, List.setIfInBounds_toArray, List.set_cons_zero, List.set_cons_succ])
              refine wpAnyH_take (i := 1) (v := ?_) rfl (by kernel_rfl) (by kernel_rfl) (by kernel_rfl) (fun _ _ _ h => h) (Or.inl ⟨by rfl, ?_⟩) hHeld ?_
              rotate_left 1
              focus (intro wq hSw; go_simp; try with_reducible rfl)
              try (simp only [Act.put, List.getElem_toArray, List.getElem_cons_succ, List.getElem_cons_zero, List.setIfInBounds_toArray, List.set_cons_zero, List.set_cons_succ])
              refine wpAnyH_take (i := 2) (v := ?_) rfl (by kernel_rfl) (by kernel_rfl) (by kernel_rfl) (fun _ _ _ h => h) (Or.inl ⟨by rfl, ?_⟩) hHeld ?_
              rotate_left 1
              focus (intro wq hSw; go_simp; try with_reducible rfl)
              try (simp only [Act.put, List.getElem_toArray, List.getElem_cons_succ, List.getElem_cons_zero, List.setIfInBounds_toArray, List.set_cons_zero, List.set_cons_succ])
              refine wpAnyH_take (i := 3) (v := ?_) rfl (by kernel_rfl) (by kernel_rfl) (by kernel_rfl) (fun _ _ _ h => h) (Or.inl ⟨by rfl, ?_⟩) hHeld ?_
              rotate_left 1
              focus (intro wq hSw; go_simp; try with_reducible rfl)
              try (simp only [Act.put, List.getElem_toArray, List.getElem_cons_succ, List.getElem_cons_zero, List.setIfInBounds_toArray, List.set_cons_zero, List.set_cons_succ])
              refine wpAnyH_take (i := 4) (v := ?_) rfl (by kernel_rfl) (by kernel_rfl) (by kernel_rfl) (fun _ _ _ h => h) (Or.inl ⟨by rfl, ?_⟩) hHeld ?_
              rotate_left 1
              focus (intro wq hSw; go_simp; try with_reducible rfl)
              try (simp only [Act.put, List.getElem_toArray, List.getElem_cons_succ, List.getElem_cons_zero, List.setIfInBounds_toArray, List.set_cons_zero, List.set_cons_succ])
              refine wpAnyH_take (i := 5) (v := ?_) rfl (by kernel_rfl) (by kernel_rfl) (by kernel_rfl) (fun _ _ _ h => h) (Or.inl ⟨by rfl, ?_⟩) hHeld ?_
              rotate_left 1
              focus (intro wq hSw; have hcv := (hSw.cell (p := ⟨rg, i, none⟩) hrgl).trans ccell; go_simp; try with_reducible rfl)
              try (simp only [Act.put, List.getElem_toArray, List.getElem_cons_succ, List.getElem_cons_zero, List.setIfInBounds_toArray, List.set_cons_zero, List.set_cons_succ])
              refine wpAnyH_take (i := 6) (v := ?_) rfl (by kernel_rfl) (by kernel_rfl) (by kernel_rfl) (fun _ _ _ h => h) (Or.inl ⟨by rfl, ?_⟩) hHeld ?_
              rotate_left 1
              focus (intro wq hSw; have hcv := slice_h32 g wq; go_simp; try with_reducible rfl)
              try (simp only [Act.put, List.getElem_toArray, List.getElem_cons_succ, List.getElem_cons_zero, List.setIfInBounds_toArray, List.set_cons_zero, List.set_cons_succ])
              refine wpAnyH_take (i := 7) (v := ?_) rfl (by kernel_rfl) (by kernel_rfl) (by kernel_rfl) (fun _ _ _ h => h) (Or.inl ⟨by rfl, ?_⟩) hHeld ?_
              rotate_left 1
              focus (intro wq hSw; have hcv := (hr0.past hSw).conv byteTy cst; go_simp; try with_reducible rfl)
              try (simp only [Act.put, List.getElem_toArray, List.getElem_cons_succ, List.getElem_cons_zero, List.setIfInBounds_toArray, List.set_cons_zero, List.set_cons_succ])
              refine wpAnyH_take (i := 8) (v := ?_) rfl (by kernel_rfl) (by kernel_rfl) (by kernel_rfl) (fun _ _ _ h => h) (Or.inl ⟨by rfl, ?_⟩) hHeld ?_
              rotate_left 1
              focus (intro wq hSw; go_simp; try with_reducible rfl)
              try (simp only [Act.put, List.getElem_toArray, List.getElem_cons_succ, List.getElem_cons_zero, List.setIfInBounds_toArray, List.set_cons_zero, List.set_cons_succ])
              refine wpAnyH_take (i := 9) (v := ?_) rfl (by kernel_rfl) (by kernel_rfl) (by kernel_rfl) (fun _ _ _ h => h) (Or.inl ⟨by rfl, ?_⟩) hHeld ?_
              rotate_left 1
              focus (intro wq hSw; have hcv := slice_h32 gq wq; go_simp; try with_reducible rfl)
              try (simp only [Act.put, List.getElem_toArray, List.getElem_cons_succ, List.getElem_cons_zero, List.setIfInBounds_toArray, List.set_cons_zero, List.set_cons_succ])
              refine wpAnyH_take (i := 10) (v := ?_) rfl (by kernel_rfl) (by kernel_rfl) (by kernel_rfl) (fun _ _ _ h => h) (Or.inl ⟨by rfl, ?_⟩) hHeld ?_
              rotate_left 1
              focus (intro wq hSw; have hcv := (hq0.past hSw).conv byteTy cst; go_simp; try with_reducible rfl)
              try (simp only [Act.put, List.getElem_toArray, List.getElem_cons_succ, List.getElem_cons_zero, List.setIfInBounds_toArray, List.set_cons_zero, List.set_cons_succ])
              refine wpAnyH_take (i := 11) (v := ?_) rfl (by kernel_rfl) (by kernel_rfl) (by kernel_rfl) (fun _ _ _ h => h) (Or.inl ⟨by rfl, ?_⟩) hHeld ?_
              rotate_left 1
              focus (intro wq hSw; go_simp; try with_reducible rfl)
              try (simp only [Act.put, List.getElem_toArray, List.getElem_cons_succ, List.getElem_cons_zero, List.setIfInBounds_toArray, List.set_cons_zero, List.set_cons_succ])
              refine wpAnyH_take (i := 12) (v := ?_) rfl (by kernel_rfl) (by kernel_rfl) (by kernel_rfl) (fun _ _ _ h => h) (Or.inl ⟨by rfl, ?_⟩) hHeld ?_
              rotate_left 1
              focus (intro wq hSw; go_simp; try with_reducible rfl)
              try (simp only [Act.put, List.getElem_toArray, List.getElem_cons_succ, List.getElem_cons_zero, List.setIfInBounds_toArray, List.set_cons_zero, List.set_cons_succ])
              refine wpAnyH_take (i := 13) (v := ?_) rfl (by kernel_rfl) (by kernel_rfl) (by kernel_rfl) (fun _ _ _ h => h) (Or.inl ⟨by rfl, ?_⟩) hHeld ?_
              rotate_left 1
              focus (intro wq hSw; go_simp; try with_reducible rfl)
              try (simp only [Act.put, List.getElem_toArray, List.getElem_cons_succ, List.getElem_cons_zero, List.setIfInBounds_toArray, List.set_cons_zero, List.set_cons_succ])
              refine wpAnyH_done (by kernel_rfl) ?_ _
              go_wp2_with fail
              refine wp_region_held_drew (S := fun w' => Below wc.heap.size wc w') (by kernel_rfl) ((Below.refl _ _).drew.drew) (fun hHeld => ?_)
              refine wpAnyH_take (i := 0) (v := ?_) rfl (by kernel_rfl) (by kernel_rfl) (by kernel_rfl) (fun _ _ _ h => h) (Or.inl ⟨by rfl, ?_⟩) hHeld ?_
              rotate_left 1
              focus (intro wq hSw; go_simp; try with_reducible rfl)
              try (simp only [Act.put, List.getElem_toArray, List.getElem_cons_succ, List.getElem_cons_zero, List.setIfInBounds_toArray, List.set_cons_zero, List.set_cons_succ])
              refine wpAnyH_take (i := 1) (v := ?_) rfl (by kernel_rfl) (by kernel_rfl) (by kernel_rfl) (fun _ _ _ h => h) (Or.inl ⟨by rfl, ?_⟩) hHeld ?_
              rotate_left 1
              focus (intro wq hSw; go_simp; try with_reducible rfl)
              try (simp only [Act.put, List.getElem_toArray, List.getElem_cons_succ, List.getElem_cons_zero, List.setIfInBounds_toArray, List.set_cons_zero, List.set_cons_succ])
              refine wpAnyH_take (i := 2) (v := undef) rfl (by kernel_rfl) (by kernel_rfl) (by kernel_rfl) (fun _ _ _ h => h) (Or.inr ⟨by rfl, rfl⟩) hHeld ?_
              try (simp only [Act.put, List.getElem_toArray, List.getElem_cons_succ, List.getElem_cons_zero, List.setIfInBounds_toArray, List.set_cons_zero, List.set_cons_succ])
              refine wpAnyH_take (i := 3) (v := undef) rfl (by kernel_rfl) (by kernel_rfl) (by kernel_rfl) (fun _ _ _ h => h) (Or.inr ⟨by rfl, rfl⟩) hHeld ?_
              try (simp only [Act.put, List.getElem_toArray, List.getElem_cons_succ, List.getElem_cons_zero, List.setIfInBounds_toArray, List.set_cons_zero, List.set_cons_succ])
              refine wpAnyH_take (i := 4) (v := undef) rfl (by kernel_rfl) (by kernel_rfl) (by kernel_rfl) (fun _ _ _ h => h) (Or.inr ⟨by rfl, rfl⟩) hHeld ?_
              try (simp only [Act.put, List.getElem_toArray, List.getElem_cons_succ, List.getElem_cons_zero, List.setIfInBounds_toArray, List.set_cons_zero, List.set_cons_succ])
              refine wpAnyH_take (i := 5) (v := undef) rfl (by kernel_rfl) (by kernel_rfl) (by kernel_rfl) (fun _ _ _ h => h) (Or.inr ⟨by rfl, rfl⟩) hHeld ?_
              try (simp only [Act.put, List.getElem_toArray, List.getElem_cons_succ, List.getElem_cons_zero, List.setIfInBounds_toArray, List.set_cons_zero, List.set_cons_succ])
              refine wpAnyH_take (i := 6) (v := undef) rfl (by kernel_rfl) (by kernel_rfl) (by kernel_rfl) (fun _ _ _ h => h) (Or.inr ⟨by rfl, rfl⟩) hHeld ?_
              try (simp only [Act.put, List.getElem_toArray, List.getElem_cons_succ, List.getElem_cons_zero, List.setIfInBounds_toArray, List.set_cons_zero, List.set_cons_succ])
              refine wpAnyH_take (i := 7) (v := undef) rfl (by kernel_rfl) (by kernel_rfl) (by kernel_rfl) (fun _ _ _ h => h) (Or.inr ⟨by rfl, rfl⟩) hHeld ?_
              try (simp only [Act.put, List.getElem_toArray, List.getElem_cons_succ, List.getElem_cons_zero, List.setIfInBounds_toArray, List.set_cons_zero, List.set_cons_succ])
              refine wpAnyH_take (i := 8) (v := undef) rfl (by kernel_rfl) (by kernel_rfl) (by kernel_rfl) (fun _ _ _ h => h) (Or.inr ⟨by rfl, rfl⟩) hHeld ?_
              try (simp only [Act.put, List.getElem_toArray, List.getElem_cons_succ, List.getElem_cons_zero, List.setIfInBounds_toArray, List.set_cons_zero, List.set_cons_succ])
              refine wpAnyH_take (i := 9) (v := undef) rfl (by kernel_rfl) (by kernel_rfl) (by kernel_rfl) (fun _ _ _ h => h) (Or.inr ⟨by rfl, rfl⟩) hHeld ?_
              try (simp only [Act.put, List.getElem_toArray, List.getElem_cons_succ, List.getElem_cons_zero, List.setIfInBounds_toArray, List.set_cons_zero, List.set_cons_succ])
              refine wpAnyH_take (i := 10) (v := undef) rfl (by kernel_rfl) (by kernel_rfl) (by kernel_rfl) (fun _ _ _ h => h) (Or.inr ⟨by rfl, rfl⟩) hHeld ?_
              try (simp only [Act.put, List.getElem_toArray, List.getElem_cons_succ, List.getElem_cons_zero, List.setIfInBounds_toArray, List.set_cons_zero, List.set_cons_succ])
              refine wpAnyH_take (i := 11) (v := undef) rfl (by kernel_rfl) (by kernel_rfl) (by kernel_rfl) (fun _ _ _ h => h) (Or.inr ⟨by rfl, rfl⟩) hHeld ?_
              try (simp only [Act.put, List.getElem_toArray, List.getElem_cons_succ, List.getElem_cons_zero, List.setIfInBounds_toArray, List.set_cons_zero, List.set_cons_succ])
              refine wpAnyH_take (i := 12) (v := ?_) rfl (by kernel_rfl) (by kernel_rfl) (by kernel_rfl) (fun _ _ _ h => h) (Or.inl ⟨by rfl, ?_⟩) hHeld ?_
              rotate_left 1
              focus (intro wq hSw; go_simp; try with_reducible rfl)
              try (simp only [Act.put, List.getElem_toArray, List.getElem_cons_succ, List.getElem_cons_zero, List.setIfInBounds_toArray, List.set_cons_zero, List.set_cons_succ])
              refine wpAnyH_take (i := 13) (v := ?_) rfl (by kernel_rfl) (by kernel_rfl) (by kernel_rfl) (fun _ _ _ h => h) (Or.inl ⟨by rfl, ?_⟩) hHeld ?_
              rotate_left 1
              focus (intro wq hSw; go_simp; try with_reducible rfl)
              try (simp only [Act.put, List.getElem_toArray, List.getElem_cons_succ, List.getElem_cons_zero, List.setIfInBounds_toArray, List.set_cons_zero, List.set_cons_succ])
              refine wpAnyH_done (by kernel_rfl) ?_ _
              have BW : Below wq.heap.size wq wc.drew.drew := hBw.drew.drew
              clear ccell hr0 hr32 hq0 hq32 hBw
              go_wp2_with fail
              go_roundw
              case rel =>
                refine ⟨i + 1, by omega, ?_, ?_, by go_num, BW⟩
                · rw [hit_succ _ _ _ _ r HRI.out, EF.out]
                  simp
                · rw [hit_succ _ _ _ _ r HRI.out, ES.out]
                  simp
              case measure => simp [intOf]; omega
            · have EF := Lib.hid hf
              have ES := Lib.hid hs
              clear hf hs
              go_wp2_with fail
              obtain ⟨wc, rfl⟩ : ∃ wc : World, wc = wr := ⟨_, rfl⟩
              refine wp_region_held_drew (S := fun w' => Below wc.heap.size wc w') (by kernel_rfl) ((Below.refl _ _).drew) (fun hHeld => ?_)
              refine wpAnyH_take (i := 0) (v := ?_) rfl (by kernel_rfl) (by kernel_rfl) (by kernel_rfl) (fun _ _ _ h => h) (Or.inl ⟨by rfl, ?_⟩) hHeld ?_
              rotate_left 1
              focus (intro wq hSw; go_simp; try with_reducible rfl)
              try (simp only [Act.put, List.getElem_toArray, List.getElem_cons_succ, List.getElem_cons_zero, List.setIfInBounds_toArray, List.set_cons_zero, List.set_cons_succ])
              refine wpAnyH_take (i := 1) (v := ?_) rfl (by kernel_rfl) (by kernel_rfl) (by kernel_rfl) (fun _ _ _ h => h) (Or.inl ⟨by rfl, ?_⟩) hHeld ?_
              rotate_left 1
              focus (intro wq hSw; go_simp; try with_reducible rfl)
              try (simp only [Act.put, List.getElem_toArray, List.getElem_cons_succ, List.getElem_cons_zero, List.setIfInBounds_toArray, List.set_cons_zero, List.set_cons_succ])
              refine wpAnyH_take (i := 2) (v := undef) rfl (by kernel_rfl) (by kernel_rfl) (by kernel_rfl) (fun _ _ _ h => h) (Or.inr ⟨by rfl, rfl⟩) hHeld ?_
              try (simp only [Act.put, List.getElem_toArray, List.getElem_cons_succ, List.getElem_cons_zero, List.setIfInBounds_toArray, List.set_cons_zero, List.set_cons_succ])
              refine wpAnyH_take (i := 3) (v := undef) rfl (by kernel_rfl) (by kernel_rfl) (by kernel_rfl) (fun _ _ _ h => h) (Or.inr ⟨by rfl, rfl⟩) hHeld ?_
              try (simp only [Act.put, List.getElem_toArray, List.getElem_cons_succ, List.getElem_cons_zero, List.setIfInBounds_toArray, List.set_cons_zero, List.set_cons_succ])
              refine wpAnyH_take (i := 4) (v := undef) rfl (by kernel_rfl) (by kernel_rfl) (by kernel_rfl) (fun _ _ _ h => h) (Or.inr ⟨by rfl, rfl⟩) hHeld ?_
              try (simp only [Act.put, List.getElem_toArray, List.getElem_cons_succ, List.getElem_cons_zero, List.setIfInBounds_toArray, List.set_cons_zero, List.set_cons_succ])
              refine wpAnyH_take (i := 5) (v := undef) rfl (by kernel_rfl) (by kernel_rfl) (by kernel_rfl) (fun _ _ _ h => h) (Or.inr ⟨by rfl, rfl⟩) hHeld ?_
              try (simp only [Act.put, List.getElem_toArray, List.getElem_cons_succ, List.getElem_cons_zero, List.setIfInBounds_toArray, List.set_cons_zero, List.set_cons_succ])
              refine wpAnyH_take (i := 6) (v := undef) rfl (by kernel_rfl) (by kernel_rfl) (by kernel_rfl) (fun _ _ _ h => h) (Or.inr ⟨by rfl, rfl⟩) hHeld ?_
              try (simp only [Act.put, List.getElem_toArray, List.getElem_cons_succ, List.getElem_cons_zero, List.setIfInBounds_toArray, List.set_cons_zero, List.set_cons_succ])
              refine wpAnyH_take (i := 7) (v := undef) rfl (by kernel_rfl) (by kernel_rfl) (by kernel_rfl) (fun _ _ _ h => h) (Or.inr ⟨by rfl, rfl⟩) hHeld ?_
              try (simp only [Act.put, List.getElem_toArray, List.getElem_cons_succ, List.getElem_cons_zero, List.setIfInBounds_toArray, List.set_cons_zero, List.set_cons_succ])
              refine wpAnyH_take (i := 8) (v := undef) rfl (by kernel_rfl) (by kernel_rfl) (by kernel_rfl) (fun _ _ _ h => h) (Or.inr ⟨by rfl, rfl⟩) hHeld ?_
              try (simp only [Act.put, List.getElem_toArray, List.getElem_cons_succ, List.getElem_cons_zero, List.setIfInBounds_toArray, List.set_cons_zero, List.set_cons_succ])
              refine wpAnyH_take (i := 9) (v := undef) rfl (by kernel_rfl) (by kernel_rfl) (by kernel_rfl) (fun _ _ _ h => h) (Or.inr ⟨by rfl, rfl⟩) hHeld ?_
              try (simp only [Act.put, List.getElem_toArray, List.getElem_cons_succ, List.getElem_cons_zero, List.setIfInBounds_toArray, List.set_cons_zero, List.set_cons_succ])
              refine wpAnyH_take (i := 10) (v := undef) rfl (by kernel_rfl) (by kernel_rfl) (by kernel_rfl) (fun _ _ _ h => h) (Or.inr ⟨by rfl, rfl⟩) hHeld ?_
              try (simp only [Act.put, List.getElem_toArray, List.getElem_cons_succ, List.getElem_cons_zero, List.setIfInBounds_toArray, List.set_cons_zero, List.set_cons_succ])
              refine wpAnyH_take (i := 11) (v := undef) rfl (by kernel_rfl) (by kernel_rfl) (by kernel_rfl) (fun _ _ _ h => h) (Or.inr ⟨by rfl, rfl⟩) hHeld ?_
              try (simp only [Act.put, List.getElem_toArray, List.getElem_cons_succ, List.getElem_cons_zero, List.setIfInBounds_toArray, List.set_cons_zero, List.set_cons_succ])
              refine wpAnyH_take (i := 12) (v := ?_) rfl (by kernel_rfl) (by kernel_rfl) (by kernel_rfl) (fun _ _ _ h => h) (Or.inl ⟨by rfl, ?_⟩) hHeld ?_
              rotate_left 1
              focus (intro wq hSw; go_simp; try with_reducible rfl)
              try (simp only [Act.put, List.getElem_toArray, List.getElem_cons_succ, List.getElem_cons_zero, List.setIfInBounds_toArray, List.set_cons_zero, List.set_cons_succ])
              refine wpAnyH_take (i := 13) (v := ?_) rfl (by kernel_rfl) (by kernel_rfl) (by kernel_rfl) (fun _ _ _ h => h) (Or.inl ⟨by rfl, ?_⟩) hHeld ?_
              rotate_left 1
              focus (intro wq hSw; go_simp; try with_reducible rfl)
              try (simp only [Act.put, List.getElem_toArray, List.getElem_cons_succ, List.getElem_cons_zero, List.setIfInBounds_toArray, List.set_cons_zero, List.set_cons_succ])
              refine wpAnyH_done (by kernel_rfl) ?_ _
              go_wp2_with fail
              refine wp_region_held_drew (S := fun w' => Below wc.heap.size wc w') (by kernel_rfl) ((Below.refl _ _).drew.drew) (fun hHeld => ?_)
              refine wpAnyH_take (i := 0) (v := ?_) rfl (by kernel_rfl) (by kernel_rfl) (by kernel_rfl) (fun _ _ _ h => h) (Or.inl ⟨by rfl, ?_⟩) hHeld ?_
              rotate_left 1
              focus (intro wq hSw; go_simp; try with_reducible rfl)
              try (simp only [Act.put, List.getElem_toArray, List.getElem_cons_succ, List.getElem_cons_zero, List.setIfInBounds_toArray, List.set_cons_zero, List.set_cons_succ])
              refine wpAnyH_take (i := 1) (v := ?_) rfl (by kernel_rfl) (by kernel_rfl) (by kernel_rfl) (fun _ _ _ h => h) (Or.inl ⟨by rfl, ?_⟩) hHeld ?_
              rotate_left 1
              focus (intro wq hSw; go_simp; try with_reducible rfl)
              try (simp only [Act.put, List.getElem_toArray, List.getElem_cons_succ, List.getElem_cons_zero, List.setIfInBounds_toArray, List.set_cons_zero, List.set_cons_succ])
              refine wpAnyH_take (i := 2) (v := ?_) rfl (by kernel_rfl) (by kernel_rfl) (by kernel_rfl) (fun _ _ _ h => h) (Or.inl ⟨by rfl, ?_⟩) hHeld ?_
              rotate_left 1
              focus (intro wq hSw; go_simp; try with_reducible rfl)
              try (simp only [Act.put, List.getElem_toArray, List.getElem_cons_succ, List.getElem_cons_zero, List.setIfInBounds_toArray, List.set_cons_zero, List.set_cons_succ])
              refine wpAnyH_take (i := 3) (v := ?_) rfl (by kernel_rfl) (by kernel_rfl) (by kernel_rfl) (fun _ _ _ h => h) (Or.inl ⟨by rfl, ?_⟩) hHeld ?_
              rotate_left 1
              focus (intro wq hSw; go_simp; try with_reducible rfl)
              try (simp only [Act.put, List.getElem_toArray, List.getElem_cons_succ, List.getElem_cons_zero, List.setIfInBounds_toArray, List.set_cons_zero, List.set_cons_succ])
              refine wpAnyH_take (i := 4) (v := ?_) rfl (by kernel_rfl) (by kernel_rfl) (by kernel_rfl) (fun _ _ _ h => h) (Or.inl ⟨by rfl, ?_⟩) hHeld ?_
              rotate_left 1
              focus (intro wq hSw; go_simp; try with_reducible rfl)
              try (simp only [Act.put, List.getElem_toArray, List.getElem_cons_succ, List.getElem_cons_zero, List.setIfInBounds_toArray, List.set_cons_zero, List.set_cons_succ])
              refine wpAnyH_take (i := 5) (v := ?_) rfl (by kernel_rfl) (by kernel_rfl) (by kernel_rfl) (fun _ _ _ h => h) (Or.inl ⟨by rfl, ?_⟩) hHeld ?_
              rotate_left 1
              focus (intro wq hSw; have hcv := (hSw.cell (p := ⟨rg, i, none⟩) hrgl).trans ccell; go_simp; try with_reducible rfl)
              try (simp only [Act.put, List.getElem_toArray, List.getElem_cons_succ, List.getElem_cons_zero, List.setIfInBounds_toArray, List.set_cons_zero, List.set_cons_succ])
              refine wpAnyH_take (i := 6) (v := ?_) rfl (by kernel_rfl) (by kernel_rfl) (by kernel_rfl) (fun _ _ _ h => h) (Or.inl ⟨by rfl, ?_⟩) hHeld ?_
              rotate_left 1
              focus (intro wq hSw; have hcv := slice_l32 g wq; go_simp; try with_reducible rfl)
              try (simp only [Act.put, List.getElem_toArray, List.getElem_cons_succ, List.getElem_cons_zero, List.setIfInBounds_toArray, List.set_cons_zero, List.set_cons_succ])
              refine wpAnyH_take (i := 7) (v := ?_) rfl (by kernel_rfl) (by kernel_rfl) (by kernel_rfl) (fun _ _ _ h => h) (Or.inl ⟨by rfl, ?_⟩) hHeld ?_
              rotate_left 1
              focus (intro wq hSw; have hcv := (hr32.past hSw).conv byteTy cst; go_simp; try with_reducible rfl)
              try (simp only [Act.put, List.getElem_toArray, List.getElem_cons_succ, List.getElem_cons_zero, List.setIfInBounds_toArray, List.set_cons_zero, List.set_cons_succ])
              refine wpAnyH_take (i := 8) (v := ?_) rfl (by kernel_rfl) (by kernel_rfl) (by kernel_rfl) (fun _ _ _ h => h) (Or.inl ⟨by rfl, ?_⟩) hHeld ?_
              rotate_left 1
              focus (intro wq hSw; go_simp; try with_reducible rfl)
              try (simp only [Act.put, List.getElem_toArray, List.getElem_cons_succ, List.getElem_cons_zero, List.setIfInBounds_toArray, List.set_cons_zero, List.set_cons_succ])
              refine wpAnyH_take (i := 9) (v := ?_) rfl (by kernel_rfl) (by kernel_rfl) (by kernel_rfl) (fun _ _ _ h => h) (Or.inl ⟨by rfl, ?_⟩) hHeld ?_
              rotate_left 1
              focus (intro wq hSw; have hcv := slice_l32 gq wq; go_simp; try with_reducible rfl)
              try (simp only [Act.put, List.getElem_toArray, List.getElem_cons_succ, List.getElem_cons_zero, List.setIfInBounds_toArray, List.set_cons_zero, List.set_cons_succ])
              refine wpAnyH_take (i := 10) (v := ?_) rfl (by kernel_rfl) (by kernel_rfl) (by kernel_rfl) (fun _ _ _ h => h) (Or.inl ⟨by rfl, ?_⟩) hHeld ?_
              rotate_left 1
              focus (intro wq hSw; have hcv := (hq32.past hSw).conv byteTy cst; go_simp; try with_reducible rfl)
              try (simp only [Act.put, List.getElem_toArray, List.getElem_cons_succ, List.getElem_cons_zero, List.setIfInBounds_toArray, List.set_cons_zero, List.set_cons_succ])
              refine wpAnyH_take (i := 11) (v := ?_) rfl (by kernel_rfl) (by kernel_rfl) (by kernel_rfl) (fun _ _ _ h => h) (Or.inl ⟨by rfl, ?_⟩) hHeld ?_
              rotate_left 1
              focus (intro wq hSw; go_simp; try with_reducible rfl)
              try (simp only [Act.put, List.getElem_toArray, List.getElem_cons_succ, List.getElem_cons_zero, List.setIfInBounds_toArray, List.set_cons_zero, List.set_cons_succ])
              refine wpAnyH_take (i := 12) (v := ?_) rfl (by kernel_rfl) (by kernel_rfl) (by kernel_rfl) (fun _ _ _ h => h) (Or.inl ⟨by rfl, ?_⟩) hHeld ?_
              rotate_left 1
              focus (intro wq hSw; go_simp; try with_reducible rfl)
              try (simp only [Act.put, List.getElem_toArray, List.getElem_cons_succ, List.getElem_cons_zero, List.setIfInBounds_toArray, List.set_cons_zero, List.set_cons_succ])
              refine wpAnyH_take (i := 13) (v := ?_) rfl (by kernel_rfl) (by kernel_rfl) (by kernel_rfl) (fun _ _ _ h => h) (Or.inl ⟨by rfl, ?_⟩) hHeld ?_
              rotate_left 1
              focus (intro wq hSw; go_simp; try with_reducible rfl)
              try (simp only [Act.put, List.getElem_toArray, List.getElem_cons_succ, List.getElem_cons_zero, List.setIfInBounds_toArray, List.set_cons_zero, List.set_cons_succ])
              refine wpAnyH_done (by kernel_rfl) ?_ _
              have BW : Below wq.heap.size wq wc.drew.drew := hBw.drew.drew
              clear ccell hr0 hr32 hq0 hq32 hBw
              go_wp2_with fail
              go_roundw
              case rel =>
                refine ⟨i + 1, by omega, ?_, ?_, by go_num, BW⟩
                · rw [hit_succ _ _ _ _ r HRI.out, EF.out]
                  simp
                · rw [hit_succ _ _ _ _ r HRI.out, ES.out]
                  simp
              case measure => simp [intOf]; omega
            · have EF := Lib.hid hf
              have ES := Lib.hid hs
              clear hf hs
              go_wp2_with fail
              obtain ⟨wc, rfl⟩ : ∃ wc : World, wc = wr := ⟨_, rfl⟩
              refine wp_region_held_drew (S := fun w' => Below wc.heap.size wc w') (by kernel_rfl) ((Below.refl _ _).drew) (fun hHeld => ?_)
              refine wpAnyH_take (i := 0) (v := ?_) rfl (by kernel_rfl) (by kernel_rfl) (by kernel_rfl) (fun _ _ _ h => h) (Or.inl ⟨by rfl, ?_⟩) hHeld ?_
              rotate_left 1
              focus (intro wq hSw; go_simp; try with_reducible rfl)
              try (simp only [Act.put, List.getElem_toArray, List.getElem_cons_succ, List.getElem_cons_zero, List.setIfInBounds_toArray, List.set_cons_zero, List.set_cons_succ])
              refine wpAnyH_take (i := 1) (v := ?_) rfl (by kernel_rfl) (by kernel_rfl) (by kernel_rfl) (fun _ _ _ h => h) (Or.inl ⟨by rfl, ?_⟩) hHeld ?_
              rotate_left 1
              focus (intro wq hSw; go_simp; try with_reducible rfl)
              try (simp only [Act.put, List.getElem_toArray, List.getElem_cons_succ, List.getElem_cons_zero, List.setIfInBounds_toArray, List.set_cons_zero, List.set_cons_succ])
              refine wpAnyH_take (i := 2) (v := undef) rfl (by kernel_rfl) (by kernel_rfl) (by kernel_rfl) (fun _ _ _ h => h) (Or.inr ⟨by rfl, rfl⟩) hHeld ?_
              try (simp only [Act.put, List.getElem_toArray, List.getElem_cons_succ, List.getElem_cons_zero, List.setIfInBounds_toArray, List.set_cons_zero, List.set_cons_succ])
              refine wpAnyH_take (i := 3) (v := undef) rfl (by kernel_rfl) (by kernel_rfl) (by kernel_rfl) (fun _ _ _ h => h) (Or.inr ⟨by rfl, rfl⟩) hHeld ?_
              try (simp only [Act.put, List.getElem_toArray, List.getElem_cons_succ, List.getElem_cons_zero, List.setIfInBounds_toArray, List.set_cons_zero, List.set_cons_succ])
              refine wpAnyH_take (i := 4) (v := undef) rfl (by kernel_rfl) (by kernel_rfl) (by kernel_rfl) (fun _ _ _ h => h) (Or.inr ⟨by rfl, rfl⟩) hHeld ?_
              try (simp only [Act.put, List.getElem_toArray, List.getElem_cons_succ, List.getElem_cons_zero, List.setIfInBounds_toArray, List.set_cons_zero, List.set_cons_succ])
              refine wpAnyH_take (i := 5) (v := undef) rfl (by kernel_rfl) (by kernel_rfl) (by kernel_rfl) (fun _ _ _ h => h) (Or.inr ⟨by rfl, rfl⟩) hHeld ?_
              try (simp only [Act.put, List.getElem_toArray, List.getElem_cons_succ, List.getElem_cons_zero, List.setIfInBounds_toArray, List.set_cons_zero, List.set_cons_succ])
              refine wpAnyH_take (i := 6) (v := undef) rfl (by kernel_rfl) (by kernel_rfl) (by kernel_rfl) (fun _ _ _ h => h) (Or.inr ⟨by rfl, rfl⟩) hHeld ?_
              try (simp only [Act.put, List.getElem_toArray, List.getElem_cons_succ, List.getElem_cons_zero, List.setIfInBounds_toArray, List.set_cons_zero, List.set_cons_succ])
              refine wpAnyH_take (i := 7) (v := undef) rfl (by kernel_rfl) (by kernel_rfl) (by kernel_rfl) (fun _ _ _ h => h) (Or.inr ⟨by rfl, rfl⟩) hHeld ?_
              try (simp only [Act.put, List.getElem_toArray, List.getElem_cons_succ, List.getElem_cons_zero, List.setIfInBounds_toArray, List.set_cons_zero, List.set_cons_succ])
              refine wpAnyH_take (i := 8) (v := undef) rfl (by kernel_rfl) (by kernel_rfl) (by kernel_rfl) (fun _ _ _ h => h) (Or.inr ⟨by rfl, rfl⟩) hHeld ?_
              try (simp only [Act.put, List.getElem_toArray, List.getElem_cons_succ, List.getElem_cons_zero, List.setIfInBounds_toArray, List.set_cons_zero, List.set_cons_succ])
              refine wpAnyH_take (i := 9) (v := undef) rfl (by kernel_rfl) (by kernel_rfl) (by kernel_rfl) (fun _ _ _ h => h) (Or.inr ⟨by rfl, rfl⟩) hHeld ?_
              try (simp only [Act.put, List.getElem_toArray, List.getElem_cons_succ, List.getElem_cons_zero, List.setIfInBounds_toArray, List.set_cons_zero, List.set_cons_succ])
              refine wpAnyH_take (i := 10) (v := undef) rfl (by kernel_rfl) (by kernel_rfl) (by kernel_rfl) (fun _ _ _ h => h) (Or.inr ⟨by rfl, rfl⟩) hHeld ?_
              try (simp only [Act.put, List.getElem_toArray, List.getElem_cons_succ, List.getElem_cons_zero, List.setIfInBounds_toArray, List.set_cons_zero, List.set_cons_succ])
              refine wpAnyH_take (i := 11) (v := undef) rfl (by kernel_rfl) (by kernel_rfl) (by kernel_rfl) (fun _ _ _ h => h) (Or.inr ⟨by rfl, rfl⟩) hHeld ?_
              try (simp only [Act.put, List.getElem_toArray, List.getElem_cons_succ, List.getElem_cons_zero, List.setIfInBounds_toArray, List.set_cons_zero, List.set_cons_succ])
              refine wpAnyH_take (i := 12) (v := ?_) rfl (by kernel_rfl) (by kernel_rfl) (by kernel_rfl) (fun _ _ _ h => h) (Or.inl ⟨by rfl, ?_⟩) hHeld ?_
              rotate_left 1
              focus (intro wq hSw; go_simp; try with_reducible rfl)
              try (simp only [Act.put, List.getElem_toArray, List.getElem_cons_succ, List.getElem_cons_zero, List.setIfInBounds_toArray, List.set_cons_zero, List.set_cons_succ])
              refine wpAnyH_take (i := 13) (v := ?_) rfl (by kernel_rfl) (by kernel_rfl) (by kernel_rfl) (fun _ _ _ h => h) (Or.inl ⟨by rfl, ?_⟩) hHeld ?_
              rotate_left 1
              focus (intro wq hSw; go_simp; try with_reducible rfl)
              try (simp only [Act.put, List.getElem_toArray, List.getElem_cons_succ, List.getElem_cons_zero, List.setIfInBounds_toArray, List.set_cons_zero, List.set_cons_succ])
              refine wpAnyH_done (by kernel_rfl) ?_ _
              go_wp2_with fail
              refine wp_region_held_drew (S := fun w' => Below wc.heap.size wc w') (by kernel_rfl) ((Below.refl _ _).drew.drew) (fun hHeld => ?_)
              refine wpAnyH_take (i := 0) (v := ?_) rfl (by kernel_rfl) (by kernel_rfl) (by kernel_rfl) (fun _ _ _ h => h) (Or.inl ⟨by rfl, ?_⟩) hHeld ?_
              rotate_left 1
              focus (intro wq hSw; go_simp; try with_reducible rfl)
              try (simp only [Act.put, List.getElem_toArray, List.getElem_cons_succ, List.getElem_cons_zero, List.setIfInBounds_toArray, List.set_cons_zero, List.set_cons_succ])
              refine wpAnyH_take (i := 1) (v := ?_) rfl (by kernel_rfl) (by kernel_rfl) (by kernel_rfl) (fun _ _ _ h => h) (Or.inl ⟨by rfl, ?_⟩) hHeld ?_
              rotate_left 1
              focus (intro wq hSw; go_simp; try with_reducible rfl)
              try (simp only [Act.put, List.getElem_toArray, List.getElem_cons_succ, List.getElem_cons_zero, List.setIfInBounds_toArray, List.set_cons_zero, List.set_cons_succ])
              refine wpAnyH_take (i := 2) (v := undef) rfl (by kernel_rfl) (by kernel_rfl) (by kernel_rfl) (fun _ _ _ h => h) (Or.inr ⟨by rfl, rfl⟩) hHeld ?_
              try (simp only [Act.put, List.getElem_toArray, List.getElem_cons_succ, List.getElem_cons_zero, List.setIfInBounds_toArray, List.set_cons_zero, List.set_cons_succ])
              refine wpAnyH_take (i := 3) (v := undef) rfl (by kernel_rfl) (by kernel_rfl) (by kernel_rfl) (fun _ _ _ h => h) (Or.inr ⟨by rfl, rfl⟩) hHeld ?_
              try (simp only [Act.put, List.getElem_toArray, List.getElem_cons_succ, List.getElem_cons_zero, List.setIfInBounds_toArray, List.set_cons_zero, List.set_cons_succ])
              refine wpAnyH_take (i := 4) (v := undef) rfl (by kernel_rfl) (by kernel_rfl) (by kernel_rfl) (fun _ _ _ h => h) (Or.inr ⟨by rfl, rfl⟩) hHeld ?_
              try (simp only [Act.put, List.getElem_toArray, List.getElem_cons_succ, List.getElem_cons_zero, List.setIfInBounds_toArray, List.set_cons_zero, List.set_cons_succ])
              refine wpAnyH_take (i := 5) (v := undef) rfl (by kernel_rfl) (by kernel_rfl) (by kernel_rfl) (fun _ _ _ h => h) (Or.inr ⟨by rfl, rfl⟩) hHeld ?_
              try (simp only [Act.put, List.getElem_toArray, List.getElem_cons_succ, List.getElem_cons_zero, List.setIfInBounds_toArray, List.set_cons_zero, List.set_cons_succ])
              refine wpAnyH_take (i := 6) (v := undef) rfl (by kernel_rfl) (by kernel_rfl) (by kernel_rfl) (fun _ _ _ h => h) (Or.inr ⟨by rfl, rfl⟩) hHeld ?_
              try (simp only [Act.put, List.getElem_toArray, List.getElem_cons_succ, List.getElem_cons_zero, List.setIfInBounds_toArray, List.set_cons_zero, List.set_cons_succ])
              refine wpAnyH_take (i := 7) (v := undef) rfl (by kernel_rfl) (by kernel_rfl) (by kernel_rfl) (fun _ _ _ h => h) (Or.inr ⟨by rfl, rfl⟩) hHeld ?_
              try (simp only [Act.put, List.getElem_toArray, List.getElem_cons_succ, List.getElem_cons_zero, List.setIfInBounds_toArray, List.set_cons_zero, List.set_cons_succ])
              refine wpAnyH_take (i := 8) (v := undef) rfl (by kernel_rfl) (by kernel_rfl) (by kernel_rfl) (fun _ _ _ h => h) (Or.inr ⟨by rfl, rfl⟩) hHeld ?_
              try (simp only [Act.put, List.getElem_toArray, List.getElem_cons_succ, List.getElem_cons_zero, List.setIfInBounds_toArray, List.set_cons_zero, List.set_cons_succ])
              refine wpAnyH_take (i := 9) (v := undef) rfl (by kernel_rfl) (by kernel_rfl) (by kernel_rfl) (fun _ _ _ h => h) (Or.inr ⟨by rfl, rfl⟩) hHeld ?_
              try (simp only [Act.put, List.getElem_toArray, List.getElem_cons_succ, List.getElem_cons_zero, List.setIfInBounds_toArray, List.set_cons_zero, List.set_cons_succ])
              refine wpAnyH_take (i := 10) (v := undef) rfl (by kernel_rfl) (by kernel_rfl) (by kernel_rfl) (fun _ _ _ h => h) (Or.inr ⟨by rfl, rfl⟩) hHeld ?_
              try (simp only [Act.put, List.getElem_toArray, List.getElem_cons_succ, List.getElem_cons_zero, List.setIfInBounds_toArray, List.set_cons_zero, List.set_cons_succ])
              refine wpAnyH_take (i := 11) (v := undef) rfl (by kernel_rfl) (by kernel_rfl) (by kernel_rfl) (fun _ _ _ h => h) (Or.inr ⟨by rfl, rfl⟩) hHeld ?_
              try (simp only [Act.put, List.getElem_toArray, List.getElem_cons_succ, List.getElem_cons_zero, List.setIfInBounds_toArray, List.set_cons_zero, List.set_cons_succ])
              refine wpAnyH_take (i := 12) (v := ?_) rfl (by kernel_rfl) (by kernel_rfl) (by kernel_rfl) (fun _ _ _ h => h) (Or.inl ⟨by rfl, ?_⟩) hHeld ?_
              rotate_left 1
              focus (intro wq hSw; go_simp; try with_reducible rfl)
              try (simp only [Act.put, List.getElem_toArray, List.getElem_cons_succ, List.getElem_cons_zero, List.setIfInBounds_toArray, List.set_cons_zero, List.set_cons_succ])
              refine wpAnyH_take (i := 13) (v := ?_) rfl (by kernel_rfl) (by kernel_rfl) (by kernel_rfl) (fun _ _ _ h => h) (Or.inl ⟨by rfl, ?_⟩) hHeld ?_
              rotate_left 1
              focus (intro wq hSw; go_simp; try with_reducible rfl)
              try (simp only [Act.put, List.getElem_toArray, List.getElem_cons_succ, List.getElem_cons_zero, List.setIfInBounds_toArray, List.set_cons_zero, List.set_cons_succ])
              refine wpAnyH_done (by kernel_rfl) ?_ _
              have BW : Below wq.heap.size wq wc.drew.drew := hBw.drew.drew
              clear ccell hr0 hr32 hq0 hq32 hBw
              go_wp2_with fail
              go_roundw
              case rel =>
                refine ⟨i + 1, by omega, ?_, ?_, by go_num, BW⟩
                · rw [hit_succ _ _ _ _ r HRI.out, EF.out]
                  simp
                · rw [hit_succ _ _ _ _ r HRI.out, ES.out]
                  simp
              case measure => simp [intOf]; omega
          · obtain rfl : i = k + 1 := by omega
            have hf : hit (X :: Ys) Q 0 (k + 1) = true := by rw [← HROW.out]; exact hit_all HH.out.2.1
            have hs : hit (X :: Ys) Q 32 (k + 1) = true := by rw [← HROW.out]; exact hit_all HH.out.2.2
            rw [hf, hs]
            have hX3 := hX12.below hBw hX12.lt
            have hP3 := hP12.below hBw hP12.lt
            have cst := Try.underlying9
            have cvx := hX3.isB.conv byteTy cst
            have cvp := hP3.isB.conv byteTy cst
            have BE := B12.trans (hBw.mono B12.size)
            have hik2 : ¬ ((k + 1 : Nat) : Int) < (k : Int) + 1 := by omega
            have HBE := Lib.hid BE
            clear hf hs hX3 hP3 hX12 hP12 hQ hR12 hBw B12 BE
            go_wp2_with fail
            go_ret
            exact ⟨by simp, HBE.out⟩
end Go.Proofs.Ytfajggiinoeaiaa
