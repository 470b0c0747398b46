/-
  table.Put (by gen_tabput.py).
-/
import Derived.Test.YtllijeciodmckaaTabG
namespace Go.Proofs.Ytllijeciodmckaa
open Go.RowKit
set_option linter.unusedSimpArgs false
theorem IsT.grown {w w' : World} {B : Nat} {co : Option Addr} {cn cc : Nat} {cs : List Co} {ro : Option Addr} {rn rc : Nat} {rs : List (List V)} (h : IsT w B co cn cc cs ro rn rc rs) {r : Nat} (g : w.grownBy w' (some r)) (hr : r < B) : IsT w' B co cn cc cs ro rn rc rs :=
  ⟨h.cols.grown g (fun a ha e => by have := h.frm a ha; have := Option.some.inj e; omega), h.rows.grown g hr, h.frm⟩
theorem flat_bound {α : Type} (b : Nat) : ∀ ls : List (List α), (∀ l ∈ ls, l.length ≤ b) → ls.flatten.length ≤ ls.length * b
  | [], _ => by simp
  | l :: ls, h => by
    have h1 := flat_bound b ls (fun x hx => h x (List.mem_cons_of_mem _ hx))
    have h2 := h l List.mem_cons_self
    rw [List.flatten_cons, List.length_append, List.length_cons, Nat.succ_mul]
    omega
theorem put_end {w w4 w5 w6 : World} {l : List UInt8} {cs : List Co} {cn ky : Nat} {only : Bool} {E : Int} {rs' : List (List V)} {co1 : Option Addr} {cc1 : Nat} {ro1 : Option Addr} {rn rc1 r p : Nat} (hp : w.heap.size = p) (hpr : p ≤ r) (B4 : Below p w w4) (hr : r < w4.heap.size)
    (h1 : IsT w5 w4.heap.size co1 cn cc1 cs ro1 rn rc1 rs') (b5 : Below w4.heap.size w4 w5) (g6 : w5.grownBy w6 (some r)) : PutIs w l cs cn ky only E rs' (.returned (.tuple #[tbV l co1 cn cc1 (ky : Nat) only ro1 rn rc1, .int .i64 E])) w6 := by
  subst hp
  exact ⟨co1, cc1, ro1, rn, rc1, rfl, (h1.grown g6 hr).mono B4.size, (B4.trans (b5.mono B4.size)).grown g6 (Nat.le_trans B4.size b5.size) (fun z hz => by cases hz; exact hpr)⟩
/-- What stands while the region's operations come up. -/
inductive Put4 (B : Nat) (p : Nat) (l : List UInt8) (co : Option Addr) (cn : Nat) (cc : Nat) (ky : Nat) (only : Bool) (ro : Option Addr) (rn : Nat) (rc : Nat) (ra : Option Addr) (n : Nat) (c : Nat) (k : Int) (m : Int) (s : ByteArray) (N : Nat) (tk : Bool) (a0 : Act) (w0 : World) (L : Array Bool) (a : Act) (w : World) : Prop
  | mk (b0 b1 b2 b3 b4 b5 b6 : Bool) (x17 x18 x19 x20 x21 x7 : Value) (gp : Nat) (hL : L = #[b0, b1, b2, b3, b4, b5, b6]) (ha : a = ⟨((((((a0.tmps.setIfInBounds 17 x17).setIfInBounds 18 x18).setIfInBounds 19 x19).setIfInBounds 20 x20).setIfInBounds 21 x21).setIfInBounds 7 x7), a0.defers⟩) (hb : Below B w0 w) (cd0 : Hid (b0 = true → x17 = .agg #[.string (bsOf l), .slice co cn cc, .int .i64 (ky : Nat), .bool only, .slice ro rn rc])) (cd1 : Hid (b1 = true → x18 = .agg #[.string (bsOf l), .slice co cn cc, .int .i64 (ky : Nat), .bool only, .slice ro rn rc])) (cd2 : Hid (b2 = true → x19 = .slice ra n c)) (cd3 : Hid (b3 = true → x20 = .agg #[.int .i64 k, .int .i64 m, .string s])) (cd4 : Hid (b4 = true → x21 = .agg #[.string (bsOf l), .slice co cn cc, .int .i64 (ky : Nat), .bool only, .slice ro rn rc, .int .i64 (N : Nat), .bool tk])) (cd5 : Hid (b5 = true → x7 = .pointer (some ⟨gp, 0, none⟩))) (f_z : Hid (b5 = true → b6 = false → Bk w gp (spC [] none 0 0 0 false none 0 0 0 false) 161)) (f_lg : Hid (b5 = true → w0.heap.size ≤ gp)) (f_s : Hid (b6 = true → Bk w gp (spC l co cn cc (ky : Nat) only ro rn rc (N : Nat) tk) 161)) (f_o6 : Hid (b6 = true → b5 = true)) : Put4 B p l co cn cc ky only ro rn rc ra n c k m s N tk a0 w0 L a w
/-- What stands while the region's operations come up. -/
inductive Put9 (B : Nat) (gp : Nat) (r : Nat) (l : List UInt8) (co : Option Addr) (cn : Nat) (cc : Nat) (ky : Nat) (only : Bool) (ro : Option Addr) (rn : Nat) (rc : Nat) (N : Nat) (M : Nat) (R2 : Nat) (ra : Option Addr) (n : Nat) (c : Nat) (hsA : List HdR) (hsB : List HdR) (cs : List Co) (rs2 : List (List V)) (a0 : Act) (w0 : World) (L : Array Bool) (a : Act) (w : World) : Prop
  | mk (b0 b1 b2 b3 b4 b5 b6 b7 b8 b9 b10 b11 : Bool) (x34 x35 x36 x37 x38 x39 x40 x41 x42 x43 x5 : Value) (A1 : Option Addr) (c1 : Nat) (gr : Nat) (A2 : Option Addr) (c2 : Nat) (gq : Nat) (co2 : Option Addr) (cc2 : Nat) (ro2 : Option Addr) (rc2 : Nat) (hL : L = #[b0, b1, b2, b3, b4, b5, b6, b7, b8, b9, b10, b11]) (ha : a = ⟨(((((((((((a0.tmps.setIfInBounds 34 x34).setIfInBounds 35 x35).setIfInBounds 36 x36).setIfInBounds 37 x37).setIfInBounds 38 x38).setIfInBounds 39 x39).setIfInBounds 40 x40).setIfInBounds 41 x41).setIfInBounds 42 x42).setIfInBounds 43 x43).setIfInBounds 5 x5), a0.defers⟩) (hb : Below B w0 w) (cd0 : Hid (b0 = true → x34 = .pointer (some ⟨gp, 0, none⟩))) (cd1 : Hid (b1 = true → x35 = .agg #[.string (bsOf l), .slice co cn cc, .int .i64 (ky : Nat), .bool only, .slice ro rn rc])) (cd2 : Hid (b2 = true → x36 = .agg #[.string (bsOf l), .slice co cn cc, .int .i64 (ky : Nat), .bool only, .slice ro rn rc, .int .i64 (N : Nat), .bool false])) (cd3 : Hid (b3 = true → x37 = .slice A1 N c1)) (cd4 : Hid (b4 = true → x38 = .slice ra n c)) (cd5 : Hid (b5 = true → x39 = .slice (some ⟨gr, 0, none⟩) 1 1)) (cd6 : Hid (b6 = true → x40 = .agg #[.string (bsOf l), .slice co cn cc, .int .i64 (ky : Nat), .bool only, .slice ro rn rc, .int .i64 (N : Nat), .bool false])) (cd7 : Hid (b7 = true → x41 = .slice A2 M c2)) (cd8 : Hid (b8 = true → x42 = .slice (some ⟨gq, 0, none⟩) 3 3)) (cd9 : Hid (b9 = true → x43 = .agg #[.string (bsOf l), .slice co2 cn cc2, .int .i64 (ky : Nat), .bool only, .slice ro2 R2 rc2])) (cd11 : Hid (b11 = true → x5 = .int .i64 0)) (f_g : Hid (Bk w gp (spC l co cn cc (ky : Nat) only ro rn rc (N : Nat) false) 161)) (f_a : Hid (b3 = true → b8 = false → IsR EH w A1 N c1 hsA)) (f_m : Hid (b5 = true → b8 = false → IsR EH w (some ⟨gr, 0, none⟩) 1 1 [⟨ra, n, c⟩])) (f_b : Hid (b7 = true → b8 = false → IsR EH w A2 M c2 hsB)) (f_q : Hid (b8 = true → b9 = false → IsRR EH w 0 (some ⟨gq, 0, none⟩) 3 3 [hsA, [⟨ra, n, c⟩], hsB])) (f_t : Hid (b9 = true → IsT w w0.heap.size co2 cn cc2 cs ro2 R2 rc2 rs2)) (f_r : Hid (b10 = false → Bk w r (tbC [] none 0 0 0 false none 0 0) 47)) (f_rs : Hid (b10 = true → Bk w r (tbC l co2 cn cc2 (ky : Nat) only ro2 R2 rc2) 47)) (f_o10 : Hid (b10 = true → b9 = true)) : Put9 B gp r l co cn cc ky only ro rn rc N M R2 ra n c hsA hsB cs rs2 a0 w0 L a w
set_option maxRecDepth 100000 in
set_option maxHeartbeats 4000000 in
theorem put_any (w : World) (l : List UInt8) (co : Option Addr) (cn cc : Nat) (ky : Nat) (only : Bool) (ro : Option Addr) (rn rc : Nat) (cs : List Co) (h0 : 0 < cn) (hcn : cn ≤ 100) (B : Nat) (rs : List (List V)) (h : IsT w B co cn cc cs ro rn rc rs) (ra : Option Addr) (n c : Nat) (rv : List V) (hv : IsR EV w ra n c rv) (hS : Srt ky rs) (hn : rn ≤ 300) (hfl : ∀ x ∈ rs, x.length ≤ 100) (hvl : n ≤ 100) :
    Calls Try.prog 20 #[tbV l co cn cc (ky : Nat) only ro rn rc, .slice ra n c] w (PutIs w l cs cn ky only (putE cs ky rv rs) (putR cs ky rv rs)) := by
  have hB : Below w.heap.size w ((w.alloc (.cells #[.string (bsOf l), .slice co cn cc, .int .i64 (ky : Nat), .bool only, .slice ro rn rc] 47)).alloc (.cells #[.string ⟨#[]⟩, .slice none 0 0, .int .i64 0, .bool false, .slice none 0 0] 47)) := ((Below.refl _ _).alloc (Nat.le_refl _) _).alloc (by simp) _
  have hT : Bk ((w.alloc (.cells #[.string (bsOf l), .slice co cn cc, .int .i64 (ky : Nat), .bool only, .slice ro rn rc] 47)).alloc (.cells #[.string ⟨#[]⟩, .slice none 0 0, .int .i64 0, .bool false, .slice none 0 0] 47)) w.heap.size (tbC l co cn cc (ky : Nat) only ro rn rc) 47 := (Bk.new w _ _).alloc _
  have hRr : Bk ((w.alloc (.cells #[.string (bsOf l), .slice co cn cc, .int .i64 (ky : Nat), .bool only, .slice ro rn rc] 47)).alloc (.cells #[.string ⟨#[]⟩, .slice none 0 0, .int .i64 0, .bool false, .slice none 0 0] 47)) (w.heap.size + 1) (tbC [] none 0 0 0 false none 0 0) 47 := by
    have := Bk.new (w.alloc (.cells #[.string (bsOf l), .slice co cn cc, .int .i64 (ky : Nat), .bool only, .slice ro rn rc] 47)) #[.string ⟨#[]⟩, .slice none 0 0, .int .i64 0, .bool false, .slice none 0 0] 47
    rwa [World.size_alloc] at this
  have hrl := h.rows.len
  have hvn := hv.len
  have hflb := flat_bound 100 rs hfl
  obtain ⟨E0, hE0⟩ : ∃ E0, fitsE cs rv = E0 := ⟨_, rfl⟩
  have HFi := fun (w' : World) (hb : Below w.heap.size w w') => fits_any w' l co cn cc cs (ky : Nat) only (h.cols.past hb) ra n c rv (hv.past hb)
  have HFr := fun (w' : World) (hb : Below w.heap.size w w') => fresh_any w' l co cn cc (ky : Nat) only ro rn rc cs B rs (h.past hb) h0 (by omega) (by omega) (by omega)
  simp only [hE0] at HFi
  unfold tbV at HFr
  unfold tbV
  unfold scV at HFi
  have HFIT := Lib.hid HFi
  have HFRE := Lib.hid HFr
  have HPE : ∀ E, E0 ≠ 0 → E0 = E → putE cs ky rv rs = E ∧ putR cs ky rv rs = rs := fun E h1 h2 => by
    subst h2
    have e1 : putE cs ky rv rs = E0 := by unfold putE; rw [hE0, if_neg h1]
    exact ⟨e1, by unfold putR; rw [e1, if_neg h1]⟩
  have HPEh := Lib.hid HPE
  have HE0 := Lib.hid hE0
  clear HFi HFr hE0 HPE
  go_enter Try.func20, Try.ntmps20
  go_upto_region 1 with fail
  generalize (w.alloc (.cells #[.string (bsOf l), .slice co cn cc, .int .i64 (ky : Nat), .bool only, .slice ro rn rc] 47)).alloc (.cells #[.string ⟨#[]⟩, .slice none 0 0, .int .i64 0, .bool false, .slice none 0 0] 47) = W at hB hT hRr ⊢
  obtain ⟨p, hp⟩ : ∃ p, w.heap.size = p := ⟨_, rfl⟩
  obtain ⟨r, hr⟩ : ∃ r, p + 1 = r := ⟨_, rfl⟩
  have HP := Lib.hid hp
  simp only [hp, hr] at hT hRr ⊢
  have hB' : Below p w W := by rw [← hp]; exact hB
  have hpW : p ≤ W.heap.size := Nat.le_of_lt hT.lt
  have hpr : p ≤ r := by omega
  obtain ⟨t0, t1, t2, t3, t4⟩ := tb_cells hT
  have HFi := HFIT.out W hB
  clear hp hr hB
  go_upto_region 2 with (go_at_call 74; refine HFi.mono ?_; rintro e w1 ⟨rfl, b1⟩)
  have hT1 := hT.past b1
  have hR1 := hRr.past b1
  have B1 : Below p w w1 := hB'.trans (b1.mono hpW)
  have hp1 : p ≤ w1.heap.size := Nat.le_trans hpW b1.size
  clear t0 t1 t2 t3 t4 HFi hT hRr hB' b1
  obtain ⟨t0, t1, t2, t3, t4⟩ := tb_cells hT1
  by_cases hE : E0 = 0
  · subst hE
    have HK := fun (w' : World) (hb : Below w1.heap.size w1.drew w') => key_any w' l co cn cc ky only ro rn rc ra n c rv (hv.past (by rw [HP.out]; exact B1.trans (((Below.refl _ _).drew.trans hb).mono hp1)))
    obtain ⟨kv, hkv⟩ : ∃ kv, kOf ky rv = kv := ⟨_, rfl⟩
    have HS := fun (w' : World) (hb : Below w1.heap.size w1.drew w') => seek_any w' l co cn cc ky only ro rn rc B rs (h.rows.past (by rw [HP.out]; exact B1.trans (((Below.refl _ _).drew.trans hb).mono hp1))) kv hS (by omega)
    simp only [hkv] at HK
    have hatl := at_le ky kv rs
    obtain ⟨N, hN⟩ : ∃ N, atN ky kv rs = N := ⟨_, rfl⟩
    obtain ⟨tk, htk⟩ : ∃ tk, hasN ky kv rs = tk := ⟨_, rfl⟩
    simp only [hN, htk] at HS hatl
    have HPut : Hid (putE cs ky rv rs = (if tk = true then 7 else if 200 ≤ rn then 4 else 0) ∧ putN ky rv rs = rs.take N ++ rv :: rs.drop N) := by
      show _ ∧ _
      refine ⟨?_, ?_⟩
      · unfold putE; rw [if_pos HE0.out, hkv, htk, hrl]
      · unfold putN; rw [hkv, hN]
    have hNr : N ≤ rn := by omega
    obtain ⟨k, m, s⟩ := kv
    unfold tbV at HK HS
    unfold spV at HS
    simp only at HK HS
    clear hkv hN htk HE0 HPEh hatl
    go_upto_region 4 with fail
    have hpB := hT1.lt
    have hB0 : w1.heap.size ≤ w1.heap.size := Nat.le_refl _
    refine region_inv (Put4 w1.heap.size p l co cn cc ky only ro rn rc ra n c k m s N tk) (by kernel_rfl) (by kernel_rfl) ?_ ?_ ?_
    · exact ⟨false, false, false, false, false, false, false, undef, undef, undef, undef, undef, undef, 0, rfl, (by simp only [Act.put, List.setIfInBounds_toArray, List.set_cons_zero, List.set_cons_succ]), Below.refl _ _, (fun h => by cases h), (fun h => by cases h), (fun h => by cases h), (fun h => by cases h), (fun h => by cases h), (fun h => by cases h), (fun h => by cases h), (fun h => by cases h), (fun h => by cases h), (fun h => by cases h)⟩
    · refine ⟨?_, ?_, ?_, ?_, ?_, ?_, ?_, trivial⟩
      · rintro L a w ⟨b0, b1, b2, b3, b4, b5, b6, x17, x18, x19, x20, x21, x7, gp, rfl, rfl, hb, cd0, cd1, cd2, cd3, cd4, cd5, f_z, f_lg, f_s, f_o6⟩ hf hd
        have hf' : b0 = false := hf
        subst hf'
        clear hf hd
        try simp only [List.setIfInBounds_toArray, List.set_cons_zero, List.set_cons_succ]
        have z0 := (hb.cell hpB).trans t0
        have z1 := (hb.cell hpB).trans t1
        have z2 := (hb.cell hpB).trans t2
        have z3 := (hb.cell hpB).trans t3
        have z4 := (hb.cell hpB).trans t4
        intro K hK
        rw [if_pos (by rfl)]
        go_simp
        exact hK.out _ _ ⟨true, b1, b2, b3, b4, b5, b6, (.agg #[.string (bsOf l), .slice co cn cc, .int .i64 (ky : Nat), .bool only, .slice ro rn rc]), x18, x19, x20, x21, x7, gp, (by simp only [Act.put, List.setIfInBounds_toArray, List.set_cons_zero, List.set_cons_succ]), (by simp only [Act.put, List.setIfInBounds_toArray, List.set_cons_zero, List.set_cons_succ]), hb, (fun _ => rfl), cd1, cd2, cd3, cd4, cd5, f_z, f_lg, f_s, f_o6⟩
      · rintro L a w ⟨b0, b1, b2, b3, b4, b5, b6, x17, x18, x19, x20, x21, x7, gp, rfl, rfl, hb, cd0, cd1, cd2, cd3, cd4, cd5, f_z, f_lg, f_s, f_o6⟩ hf hd
        have hf' : b1 = false := hf
        subst hf'
        clear hf hd
        try simp only [List.setIfInBounds_toArray, List.set_cons_zero, List.set_cons_succ]
        have z0 := (hb.cell hpB).trans t0
        have z1 := (hb.cell hpB).trans t1
        have z2 := (hb.cell hpB).trans t2
        have z3 := (hb.cell hpB).trans t3
        have z4 := (hb.cell hpB).trans t4
        intro K hK
        rw [if_pos (by rfl)]
        go_simp
        exact hK.out _ _ ⟨b0, true, b2, b3, b4, b5, b6, x17, (.agg #[.string (bsOf l), .slice co cn cc, .int .i64 (ky : Nat), .bool only, .slice ro rn rc]), x19, x20, x21, x7, gp, (by simp only [Act.put, List.setIfInBounds_toArray, List.set_cons_zero, List.set_cons_succ]), (by simp only [Act.put, List.setIfInBounds_toArray, List.set_cons_zero, List.set_cons_succ]), hb, cd0, (fun _ => rfl), cd2, cd3, cd4, cd5, f_z, f_lg, f_s, f_o6⟩
      · rintro L a w ⟨b0, b1, b2, b3, b4, b5, b6, x17, x18, x19, x20, x21, x7, gp, rfl, rfl, hb, cd0, cd1, cd2, cd3, cd4, cd5, f_z, f_lg, f_s, f_o6⟩ hf hd
        have hf' : b2 = false := hf
        subst hf'
        clear hf hd
        try simp only [List.setIfInBounds_toArray, List.set_cons_zero, List.set_cons_succ]
        intro K hK
        rw [if_pos (by rfl)]
        go_simp
        exact hK.out _ _ ⟨b0, b1, true, b3, b4, b5, b6, x17, x18, (.slice ra n c), x20, x21, x7, gp, (by simp only [Act.put, List.setIfInBounds_toArray, List.set_cons_zero, List.set_cons_succ]), (by simp only [Act.put, List.setIfInBounds_toArray, List.set_cons_zero, List.set_cons_succ]), hb, cd0, cd1, (fun _ => rfl), cd3, cd4, cd5, f_z, f_lg, f_s, f_o6⟩
      · rintro L a w ⟨b0, b1, b2, b3, b4, b5, b6, x17, x18, x19, x20, x21, x7, gp, rfl, rfl, hb, cd0, cd1, cd2, cd3, cd4, cd5, f_z, f_lg, f_s, f_o6⟩ hf hd
        have hf' : b3 = false := hf
        subst hf'
        have d1 : b1 = true := hd ⟨1, .data⟩ (by simp) rfl
        subst d1
        have d2 : b2 = true := hd ⟨2, .data⟩ (by simp) rfl
        subst d2
        obtain rfl := cd1.out rfl
        obtain rfl := cd2.out rfl
        clear hf hd
        try simp only [List.setIfInBounds_toArray, List.set_cons_zero, List.set_cons_succ]
        intro K hK
        rw [if_pos (by rfl)]
        go_simp
        go_at_call 77
        refine (HK _ hb).mono ?_
        rintro e w' ⟨rfl, bx⟩
        exact hK.out _ _ ⟨b0, true, true, true, b4, b5, b6, x17, .agg #[.string (bsOf l), .slice co cn cc, .int .i64 (ky : Nat), .bool only, .slice ro rn rc], .slice ra n c, (.agg #[.int .i64 k, .int .i64 m, .string s]), x21, x7, gp, (by simp only [Act.put, List.setIfInBounds_toArray, List.set_cons_zero, List.set_cons_succ]), (by simp only [Act.put, List.setIfInBounds_toArray, List.set_cons_zero, List.set_cons_succ]), hb.trans (bx.mono (Nat.le_trans hB0 hb.size)), cd0, (fun _ => rfl), (fun _ => rfl), (fun _ => rfl), cd4, cd5, (fun h0 h1 => (f_z.out h0 h1).past bx), f_lg, (fun h0 => (f_s.out h0).past bx), f_o6⟩
      · rintro L a w ⟨b0, b1, b2, b3, b4, b5, b6, x17, x18, x19, x20, x21, x7, gp, rfl, rfl, hb, cd0, cd1, cd2, cd3, cd4, cd5, f_z, f_lg, f_s, f_o6⟩ hf hd
        have hf' : b4 = false := hf
        subst hf'
        have d0 : b0 = true := hd ⟨0, .data⟩ (by simp) rfl
        subst d0
        have d3 : b3 = true := hd ⟨3, .data⟩ (by simp) rfl
        subst d3
        obtain rfl := cd0.out rfl
        obtain rfl := cd3.out rfl
        clear hf hd
        try simp only [List.setIfInBounds_toArray, List.set_cons_zero, List.set_cons_succ]
        intro K hK
        rw [if_pos (by rfl)]
        go_simp
        go_at_call 76
        refine (HS _ hb).mono ?_
        rintro e w' ⟨rfl, bx⟩
        exact hK.out _ _ ⟨true, b1, b2, true, true, b5, b6, .agg #[.string (bsOf l), .slice co cn cc, .int .i64 (ky : Nat), .bool only, .slice ro rn rc], x18, x19, .agg #[.int .i64 k, .int .i64 m, .string s], (.agg #[.string (bsOf l), .slice co cn cc, .int .i64 (ky : Nat), .bool only, .slice ro rn rc, .int .i64 (N : Nat), .bool tk]), x7, gp, (by simp only [Act.put, List.setIfInBounds_toArray, List.set_cons_zero, List.set_cons_succ]), (by simp only [Act.put, List.setIfInBounds_toArray, List.set_cons_zero, List.set_cons_succ]), hb.trans (bx.mono (Nat.le_trans hB0 hb.size)), (fun _ => rfl), cd1, cd2, (fun _ => rfl), (fun _ => rfl), cd5, (fun h0 h1 => (f_z.out h0 h1).past bx), f_lg, (fun h0 => (f_s.out h0).past bx), f_o6⟩
      · rintro L a w ⟨b0, b1, b2, b3, b4, b5, b6, x17, x18, x19, x20, x21, x7, gp, rfl, rfl, hb, cd0, cd1, cd2, cd3, cd4, cd5, f_z, f_lg, f_s, f_o6⟩ hf hd
        have hf' : b5 = false := hf
        subst hf'
        clear hf hd
        try simp only [List.setIfInBounds_toArray, List.set_cons_zero, List.set_cons_succ]
        intro K hK
        rw [if_pos (by rfl)]
        go_simp
        have bx : Below w.heap.size w (w.alloc (.cells #[.string ⟨#[]⟩, .slice none 0 0, .int .i64 0, .bool false, .slice none 0 0, .int .i64 0, .bool false] 161)) := (Below.refl _ _).alloc (Nat.le_refl _) _
        have i2 : Bk (w.alloc (.cells #[.string ⟨#[]⟩, .slice none 0 0, .int .i64 0, .bool false, .slice none 0 0, .int .i64 0, .bool false] 161)) w.heap.size (spC [] none 0 0 0 false none 0 0 0 false) 161 := Bk.new w _ _
        exact hK.out _ _ ⟨b0, b1, b2, b3, b4, true, b6, x17, x18, x19, x20, x21, (.pointer (some ⟨(w.heap.size), 0, none⟩)), w.heap.size, (by simp only [Act.put, List.setIfInBounds_toArray, List.set_cons_zero, List.set_cons_succ]), (by simp only [Act.put, List.setIfInBounds_toArray, List.set_cons_zero, List.set_cons_succ]), hb.trans (bx.mono (Nat.le_trans hB0 hb.size)), cd0, cd1, cd2, cd3, cd4, (fun _ => rfl), (fun _ _ => i2), (fun _ => hb.size), (fun h0 => absurd (f_o6.out h0) (by simp)), (fun _ => rfl)⟩
      · rintro L a w ⟨b0, b1, b2, b3, b4, b5, b6, x17, x18, x19, x20, x21, x7, gp, rfl, rfl, hb, cd0, cd1, cd2, cd3, cd4, cd5, f_z, f_lg, f_s, f_o6⟩ hf hd
        have hf' : b6 = false := hf
        subst hf'
        have d5 : b5 = true := hd ⟨5, .data⟩ (by simp) rfl
        subst d5
        have d4 : b4 = true := hd ⟨4, .data⟩ (by simp) rfl
        subst d4
        have d0 : b0 = true := hd ⟨0, .phase⟩ (by simp) rfl
        subst d0
        have d1 : b1 = true := hd ⟨1, .phase⟩ (by simp) rfl
        subst d1
        have d2 : b2 = true := hd ⟨2, .phase⟩ (by simp) rfl
        subst d2
        have d3 : b3 = true := hd ⟨3, .phase⟩ (by simp) rfl
        subst d3
        obtain rfl := cd5.out rfl
        obtain rfl := cd4.out rfl
        obtain rfl := cd0.out rfl
        obtain rfl := cd1.out rfl
        obtain rfl := cd2.out rfl
        obtain rfl := cd3.out rfl
        clear hf hd
        have W_z := f_z.out rfl rfl
        have W_lg := f_lg.out rfl
        try simp only [List.setIfInBounds_toArray, List.set_cons_zero, List.set_cons_succ]
        intro K hK
        rw [if_pos (by rfl)]
        refine wp_store_blkT 161 _ _ rfl gp _ (spC l co cn cc (ky : Nat) only ro rn rc (N : Nat) tk) rfl rfl _ (Lib.hid W_z) 7 szSp (spC_size ..) (spC_size ..) (spC_all ..) fun w2 h8 b8 => ?_
        have hb2 := hb.grown b8 (Nat.le_trans hB0 hb.size) (fun z hz => by cases hz; exact Nat.le_trans hB0 W_lg)
        exact hK.out _ _ ⟨true, true, true, true, true, true, true, .agg #[.string (bsOf l), .slice co cn cc, .int .i64 (ky : Nat), .bool only, .slice ro rn rc], .agg #[.string (bsOf l), .slice co cn cc, .int .i64 (ky : Nat), .bool only, .slice ro rn rc], .slice ra n c, .agg #[.int .i64 k, .int .i64 m, .string s], .agg #[.string (bsOf l), .slice co cn cc, .int .i64 (ky : Nat), .bool only, .slice ro rn rc, .int .i64 (N : Nat), .bool tk], .pointer (some ⟨gp, 0, none⟩), gp, (by simp only [Act.put, List.setIfInBounds_toArray, List.set_cons_zero, List.set_cons_succ]), (by simp only [Act.put, List.setIfInBounds_toArray, List.set_cons_zero, List.set_cons_succ]), hb2, (fun _ => rfl), (fun _ => rfl), (fun _ => rfl), (fun _ => rfl), (fun _ => rfl), (fun _ => rfl), (fun _ h => by cases h), f_lg, (fun _ => h8.out), (fun _ => rfl)⟩
    · rintro act V ⟨b0, b1, b2, b3, b4, b5, b6, x17, x18, x19, x20, x21, x7, gp, hL, rfl, hb, cd0, cd1, cd2, cd3, cd4, cd5, f_z, f_lg, f_s, f_o6⟩
      have hL' : [true, true, true, true, true, true, true] = [b0, b1, b2, b3, b4, b5, b6] := congrArg Array.toList hL
      simp only [List.cons.injEq, and_true] at hL'
      obtain ⟨rfl, rfl, rfl, rfl, rfl, rfl, rfl⟩ := hL'
      obtain rfl := cd0.out rfl
      obtain rfl := cd1.out rfl
      obtain rfl := cd2.out rfl
      obtain rfl := cd3.out rfl
      obtain rfl := cd4.out rfl
      obtain rfl := cd5.out rfl
      have W_lg := f_lg.out rfl
      have W_s := f_s.out rfl
      have W_o6 := f_o6.out rfl
      clear hL f_z f_lg f_s f_o6 cd0 cd1 cd2 cd3 cd4 cd5
      simp only [List.setIfInBounds_toArray, List.set_cons_zero, List.set_cons_succ]
      have hS2 := W_s
      have hbW : Below w1.heap.size w1 V := (Below.refl _ _).drew.trans hb
      have BV : Below p w V := B1.trans (hbW.mono hp1)
      have hT2 := hT1.past hbW
      have hR3 := hR1.past hbW
      have hpV : p ≤ V.heap.size := Nat.le_trans hp1 hbW.size
      have HFr := HFRE.out V (by rw [HP.out]; exact BV)
      have hR1lt := Lib.hid hR1.lt
      clear hb t0 t1 t2 t3 t4 HK HS hT1 hR1
      have W_lg1 : w1.heap.size ≤ gp := W_lg
      obtain ⟨t0, t1, t2, t3, t4⟩ := tb_cells hT2
      obtain ⟨y0, y1, y2, y3, y4, y5, y6⟩ := sp_cells hS2
      have hgB := hS2.lt
      cases tk with
      | true =>
        have HE : Hid (putE cs ky rv rs = 7) := HPut.out.1
        have HRs : Hid (putR cs ky rv rs = rs) := by
          show _ = _
          unfold putR
          rw [HE.out]
          rfl
        go_wp2_with (first
          | (go_at_call 75; refine HFr.mono ?_; rintro e w5 ⟨co1, cc1, ro1, rc1, rfl, h1, b5⟩; have hR5 : Hid (w5.heap[r]? = some (.cells (tbC [] none 0 0 0 false none 0 0) 47 (0, 0))) := hR3.past b5)
          | ((with_reducible refine wpList_store_blk (o := ⟨none, _, _, _, _, _⟩) rfl 47 (.tmp 4) (.tmp 26) rfl r _ (tbC l co1 cn cc1 (ky : Nat) only ro1 rn rc1) ?_ ?_ _ hR5 5 szTb (tbC_size ..) (tbC_size ..) (tbC_all ..) ?_); (rfl); (rfl); (intro w6 h6 g6)))
        have hR6 : Bk w6 r (tbC l co1 cn cc1 (ky : Nat) only ro1 rn rc1) 47 := h6.out
        obtain ⟨r0, r1, r2, r3, r4⟩ := tb_cells hR6
        refine bodyPost_ret (v := .tuple #[tbV l co1 cn cc1 (ky : Nat) only ro1 rn rc1, .int .i64 7]) (by simp [results, Try.results20, go_sem, tbV, r0, r1, r2, r3, r4]) rfl ?_
        rw [HE.out, HRs.out]
        exact put_end HP.out hpr BV hR3.lt h1 b5 g6
      | false =>
        by_cases h200 : 200 ≤ rn
        · have h2i : (200 : Int) ≤ (rn : Int) := by omega
          have HE : Hid (putE cs ky rv rs = 4) := by
            have := HPut.out.1
            rw [if_pos h200] at this
            exact this
          have HRs : Hid (putR cs ky rv rs = rs) := by
            show _ = _
            unfold putR
            rw [HE.out]
            rfl
          go_wp2_with (first
            | (go_at_call 75; refine HFr.mono ?_; rintro e w5 ⟨co1, cc1, ro1, rc1, rfl, h1, b5⟩; have hR5 : Hid (w5.heap[r]? = some (.cells (tbC [] none 0 0 0 false none 0 0) 47 (0, 0))) := hR3.past b5)
            | ((with_reducible refine wpList_store_blk (o := ⟨none, _, _, _, _, _⟩) rfl 47 (.tmp 4) (.tmp 33) rfl r _ (tbC l co1 cn cc1 (ky : Nat) only ro1 rn rc1) ?_ ?_ _ hR5 5 szTb (tbC_size ..) (tbC_size ..) (tbC_all ..) ?_); (rfl); (rfl); (intro w6 h6 g6)))
          have hR6 : Bk w6 r (tbC l co1 cn cc1 (ky : Nat) only ro1 rn rc1) 47 := h6.out
          obtain ⟨r0, r1, r2, r3, r4⟩ := tb_cells hR6
          refine bodyPost_ret (v := .tuple #[tbV l co1 cn cc1 (ky : Nat) only ro1 rn rc1, .int .i64 4]) (by simp [results, Try.results20, go_sem, tbV, r0, r1, r2, r3, r4]) rfl ?_
          rw [HE.out, HRs.out]
          exact put_end HP.out hpr BV hR3.lt h1 b5 g6
        · have h2i : ¬ ((200 : Int) ≤ (rn : Int)) := by omega
          have HE : Hid (putE cs ky rv rs = 0) := by
            have := HPut.out.1
            rw [if_neg h200] at this
            exact this
          obtain ⟨rs2, hrs2⟩ : ∃ rs2, rs.take N ++ rv :: rs.drop N = rs2 := ⟨_, rfl⟩
          have HRs : Hid (putR cs ky rv rs = rs2) := by
            show _ = _
            unfold putR
            rw [HE.out, ← hrs2]
            exact HPut.out.2
          obtain ⟨R2, hR2⟩ : ∃ R2, rn + 1 = R2 := ⟨_, rfl⟩
          obtain ⟨M, hM⟩ : ∃ M, rn - N = M := ⟨_, rfl⟩
          have hl2 : rs2.length = R2 := by rw [← hrs2, ← hR2]; simp; omega
          have hf2 : rs2.flatten.length ≤ 100000 := by
            have := flat_bound 100 rs2 (fun x hx => by
              rw [← hrs2] at hx
              rcases List.mem_append.1 hx with h1 | h1
              · exact hfl x (List.mem_of_mem_take h1)
              · rcases List.mem_cons.1 h1 with rfl | h1
                · omega
                · exact hfl x (List.mem_of_mem_drop h1))
            omega
          obtain ⟨hs, hhs, hRd, -⟩ := h.rows
          have hRd2 : Rd EV w (hs.take N ++ [⟨ra, n, c⟩] ++ hs.drop N) rs2 := by
            rw [← hrs2]
            have := ((hRd.take N).append (Rd.one (x := ⟨ra, n, c⟩) hv)).append (hRd.drop N)
            simpa using this
          have HAh := fun (w' : World) (hb : Below p V.drew w') => ahead_any w' l co cn cc (ky : Nat) only ro rn rc hs (hhs.past (by rw [HP.out]; exact BV.trans ((Below.refl _ _).drew.trans hb))) N hNr false
          have HBh := fun (w' : World) (hb : Below p V.drew w') => behind_any w' l co cn cc (ky : Nat) only ro rn rc hs (hhs.past (by rw [HP.out]; exact BV.trans ((Below.refl _ _).drew.trans hb))) N false hNr (by omega)
          have HHo := fun (w' : World) (hb : Below p V.drew w') (a : Option Addr) (hq : IsRR EH w' 0 a 3 3 [hs.take N, [⟨ra, n, c⟩], hs.drop N]) => holding_any w' l co cn cc (ky : Nat) only ro rn rc cs (h.cols.past (by rw [HP.out]; exact BV.trans ((Below.refl _ _).drew.trans hb))) h0 (by omega) 0 a 3 3 _ hq (by omega) rs2 (by simpa using hRd2.past (by rw [HP.out]; exact BV.trans ((Below.refl _ _).drew.trans hb))) R2 hl2 (by omega) hf2
          have e1 : nxN N false = N := rfl
          simp only [e1, hM] at HBh
          obtain ⟨hsA, hhA⟩ : ∃ x, hs.take N = x := ⟨_, rfl⟩
          obtain ⟨hsB, hhB⟩ : ∃ x, hs.drop N = x := ⟨_, rfl⟩
          simp only [hhA, hhB] at HAh HBh HHo
          unfold spV at HAh HBh
          unfold tbV at HHo
          have hrW : r < V.heap.size := hR3.lt
          have hgpr : some gp ≠ some r := by intro e; have := Option.some.inj e; have := hR1lt.out; omega
          have hB0 : p ≤ V.heap.size := hpV
          clear HFr HFRE HFIT hrs2 hR2 hM hl2 hf2 hhs hRd hRd2 hhA hhB e1 hT2 W_lg W_o6
          go_upto_region 9 with fail
          clear t0 t1 t2 t3 t4
          refine region_inv (Put9 p gp r l co cn cc ky only ro rn rc N M R2 ra n c hsA hsB cs rs2) (by kernel_rfl) (by kernel_rfl) ?_ ?_ ?_
          · exact ⟨false, false, false, false, false, false, false, false, false, false, false, false, undef, undef, undef, undef, undef, undef, undef, undef, undef, undef, .int .i64 0, none, 0, 0, none, 0, 0, none, 0, none, 0, rfl, (by simp only [Act.put, List.setIfInBounds_toArray, List.set_cons_zero, List.set_cons_succ]), Below.refl _ _, (fun h => by cases h), (fun h => by cases h), (fun h => by cases h), (fun h => by cases h), (fun h => by cases h), (fun h => by cases h), (fun h => by cases h), (fun h => by cases h), (fun h => by cases h), (fun h => by cases h), (fun h => by cases h), (hS2.past (Below.refl _ _).drew), (fun h => by cases h), (fun h => by cases h), (fun h => by cases h), (fun h => by cases h), (fun h => by cases h), (fun h1 => hR3.past (Below.refl _ _).drew), (fun h => by cases h), (fun h => by cases h)⟩
          · refine ⟨?_, ?_, ?_, ?_, ?_, ?_, ?_, ?_, ?_, ?_, ?_, ?_, trivial⟩
            · rintro L a w ⟨b0, b1, b2, b3, b4, b5, b6, b7, b8, b9, b10, b11, x34, x35, x36, x37, x38, x39, x40, x41, x42, x43, x5, A1, c1, gr, A2, c2, gq, co2, cc2, ro2, rc2, rfl, rfl, hb, cd0, cd1, cd2, cd3, cd4, cd5, cd6, cd7, cd8, cd9, cd11, f_g, f_a, f_m, f_b, f_q, f_t, f_r, f_rs, f_o10⟩ hf hd
              have hf' : b0 = false := hf
              subst hf'
              clear hf hd
              have W_g := f_g.out
              try simp only [List.setIfInBounds_toArray, List.set_cons_zero, List.set_cons_succ]
              intro K hK
              rw [if_pos (by rfl)]
              go_simp
              exact hK.out _ _ ⟨true, b1, b2, b3, b4, b5, b6, b7, b8, b9, b10, b11, (.pointer (some ⟨gp, 0, none⟩)), x35, x36, x37, x38, x39, x40, x41, x42, x43, x5, A1, c1, gr, A2, c2, gq, co2, cc2, ro2, rc2, (by simp only [Act.put, List.setIfInBounds_toArray, List.set_cons_zero, List.set_cons_succ]), (by simp only [Act.put, List.setIfInBounds_toArray, List.set_cons_zero, List.set_cons_succ]), hb, (fun _ => rfl), cd1, cd2, cd3, cd4, cd5, cd6, cd7, cd8, cd9, cd11, f_g, f_a, f_m, f_b, f_q, f_t, f_r, f_rs, f_o10⟩
            · rintro L a w ⟨b0, b1, b2, b3, b4, b5, b6, b7, b8, b9, b10, b11, x34, x35, x36, x37, x38, x39, x40, x41, x42, x43, x5, A1, c1, gr, A2, c2, gq, co2, cc2, ro2, rc2, rfl, rfl, hb, cd0, cd1, cd2, cd3, cd4, cd5, cd6, cd7, cd8, cd9, cd11, f_g, f_a, f_m, f_b, f_q, f_t, f_r, f_rs, f_o10⟩ hf hd
              have hf' : b1 = false := hf
              subst hf'
              have d0 : b0 = true := hd ⟨0, .data⟩ (by simp) rfl
              subst d0
              obtain rfl := cd0.out rfl
              clear hf hd
              have W_g := f_g.out
              try simp only [List.setIfInBounds_toArray, List.set_cons_zero, List.set_cons_succ]
              obtain ⟨z0, z1, z2, z3, z4, z5, z6⟩ := sp_cells W_g
              intro K hK
              rw [if_pos (by rfl)]
              go_simp
              exact hK.out _ _ ⟨true, true, b2, b3, b4, b5, b6, b7, b8, b9, b10, b11, .pointer (some ⟨gp, 0, none⟩), (.agg #[.string (bsOf l), .slice co cn cc, .int .i64 (ky : Nat), .bool only, .slice ro rn rc]), x36, x37, x38, x39, x40, x41, x42, x43, x5, A1, c1, gr, A2, c2, gq, co2, cc2, ro2, rc2, (by simp only [Act.put, List.setIfInBounds_toArray, List.set_cons_zero, List.set_cons_succ]), (by simp only [Act.put, List.setIfInBounds_toArray, List.set_cons_zero, List.set_cons_succ]), hb, (fun _ => rfl), (fun _ => rfl), cd2, cd3, cd4, cd5, cd6, cd7, cd8, cd9, cd11, f_g, f_a, f_m, f_b, f_q, f_t, f_r, f_rs, f_o10⟩
            · rintro L a w ⟨b0, b1, b2, b3, b4, b5, b6, b7, b8, b9, b10, b11, x34, x35, x36, x37, x38, x39, x40, x41, x42, x43, x5, A1, c1, gr, A2, c2, gq, co2, cc2, ro2, rc2, rfl, rfl, hb, cd0, cd1, cd2, cd3, cd4, cd5, cd6, cd7, cd8, cd9, cd11, f_g, f_a, f_m, f_b, f_q, f_t, f_r, f_rs, f_o10⟩ hf hd
              have hf' : b2 = false := hf
              subst hf'
              clear hf hd
              have W_g := f_g.out
              try simp only [List.setIfInBounds_toArray, List.set_cons_zero, List.set_cons_succ]
              obtain ⟨z0, z1, z2, z3, z4, z5, z6⟩ := sp_cells W_g
              intro K hK
              rw [if_pos (by rfl)]
              go_simp
              exact hK.out _ _ ⟨b0, b1, true, b3, b4, b5, b6, b7, b8, b9, b10, b11, x34, x35, (.agg #[.string (bsOf l), .slice co cn cc, .int .i64 (ky : Nat), .bool only, .slice ro rn rc, .int .i64 (N : Nat), .bool false]), x37, x38, x39, x40, x41, x42, x43, x5, A1, c1, gr, A2, c2, gq, co2, cc2, ro2, rc2, (by simp only [Act.put, List.setIfInBounds_toArray, List.set_cons_zero, List.set_cons_succ]), (by simp only [Act.put, List.setIfInBounds_toArray, List.set_cons_zero, List.set_cons_succ]), hb, cd0, cd1, (fun _ => rfl), cd3, cd4, cd5, cd6, cd7, cd8, cd9, cd11, f_g, f_a, f_m, f_b, f_q, f_t, f_r, f_rs, f_o10⟩
            · rintro L a w ⟨b0, b1, b2, b3, b4, b5, b6, b7, b8, b9, b10, b11, x34, x35, x36, x37, x38, x39, x40, x41, x42, x43, x5, A1, c1, gr, A2, c2, gq, co2, cc2, ro2, rc2, rfl, rfl, hb, cd0, cd1, cd2, cd3, cd4, cd5, cd6, cd7, cd8, cd9, cd11, f_g, f_a, f_m, f_b, f_q, f_t, f_r, f_rs, f_o10⟩ hf hd
              have hf' : b3 = false := hf
              subst hf'
              have d2 : b2 = true := hd ⟨2, .data⟩ (by simp) rfl
              subst d2
              obtain rfl := cd2.out rfl
              clear hf hd
              have W_g := f_g.out
              try simp only [List.setIfInBounds_toArray, List.set_cons_zero, List.set_cons_succ]
              intro K hK
              rw [if_pos (by rfl)]
              go_simp
              go_at_call 79
              refine (HAh _ hb).mono ?_
              rintro e w' ⟨A3, c3, rfl, i1, bx⟩
              exact hK.out _ _ ⟨b0, b1, true, true, b4, b5, b6, b7, b8, b9, b10, b11, x34, x35, .agg #[.string (bsOf l), .slice co cn cc, .int .i64 (ky : Nat), .bool only, .slice ro rn rc, .int .i64 (N : Nat), .bool false], (.slice A3 N c3), x38, x39, x40, x41, x42, x43, x5, A3, c3, gr, A2, c2, gq, co2, cc2, ro2, rc2, (by simp only [Act.put, List.setIfInBounds_toArray, List.set_cons_zero, List.set_cons_succ]), (by simp only [Act.put, List.setIfInBounds_toArray, List.set_cons_zero, List.set_cons_succ]), hb.trans (bx.mono (Nat.le_trans hB0 hb.size)), cd0, cd1, (fun _ => rfl), (fun _ => rfl), cd4, cd5, cd6, cd7, cd8, cd9, cd11, (f_g.out.past bx), (fun _ _ => i1), (fun h0 h1 => (f_m.out h0 h1).past bx), (fun h0 h1 => (f_b.out h0 h1).past bx), (fun h0 h1 => (f_q.out h0 h1).past bx), (fun h0 => (f_t.out h0).past bx), (fun h1 => (f_r.out h1).past bx), (fun h0 => (f_rs.out h0).past bx), f_o10⟩
            · rintro L a w ⟨b0, b1, b2, b3, b4, b5, b6, b7, b8, b9, b10, b11, x34, x35, x36, x37, x38, x39, x40, x41, x42, x43, x5, A1, c1, gr, A2, c2, gq, co2, cc2, ro2, rc2, rfl, rfl, hb, cd0, cd1, cd2, cd3, cd4, cd5, cd6, cd7, cd8, cd9, cd11, f_g, f_a, f_m, f_b, f_q, f_t, f_r, f_rs, f_o10⟩ hf hd
              have hf' : b4 = false := hf
              subst hf'
              clear hf hd
              have W_g := f_g.out
              try simp only [List.setIfInBounds_toArray, List.set_cons_zero, List.set_cons_succ]
              intro K hK
              rw [if_pos (by rfl)]
              go_simp
              exact hK.out _ _ ⟨b0, b1, b2, b3, true, b5, b6, b7, b8, b9, b10, b11, x34, x35, x36, x37, (.slice ra n c), x39, x40, x41, x42, x43, x5, A1, c1, gr, A2, c2, gq, co2, cc2, ro2, rc2, (by simp only [Act.put, List.setIfInBounds_toArray, List.set_cons_zero, List.set_cons_succ]), (by simp only [Act.put, List.setIfInBounds_toArray, List.set_cons_zero, List.set_cons_succ]), hb, cd0, cd1, cd2, cd3, (fun _ => rfl), cd5, cd6, cd7, cd8, cd9, cd11, f_g, f_a, f_m, f_b, f_q, f_t, f_r, f_rs, f_o10⟩
            · rintro L a w ⟨b0, b1, b2, b3, b4, b5, b6, b7, b8, b9, b10, b11, x34, x35, x36, x37, x38, x39, x40, x41, x42, x43, x5, A1, c1, gr, A2, c2, gq, co2, cc2, ro2, rc2, rfl, rfl, hb, cd0, cd1, cd2, cd3, cd4, cd5, cd6, cd7, cd8, cd9, cd11, f_g, f_a, f_m, f_b, f_q, f_t, f_r, f_rs, f_o10⟩ hf hd
              have hf' : b5 = false := hf
              subst hf'
              have d4 : b4 = true := hd ⟨4, .data⟩ (by simp) rfl
              subst d4
              obtain rfl := cd4.out rfl
              clear hf hd
              have W_g := f_g.out
              try simp only [List.setIfInBounds_toArray, List.set_cons_zero, List.set_cons_succ]
              intro K hK
              rw [if_pos (by rfl)]
              go_simp
              have bx : Below w.heap.size w (w.alloc (.cells #[.slice ra n c] 49)) := (Below.refl _ _).alloc (Nat.le_refl _) _
              have i1 := lit_one w 49 ⟨ra, n, c⟩
              exact hK.out _ _ ⟨b0, b1, b2, b3, true, true, b6, b7, b8, b9, b10, b11, x34, x35, x36, x37, .slice ra n c, (.slice (some ⟨(w.heap.size), 0, none⟩) 1 1), x40, x41, x42, x43, x5, A1, c1, w.heap.size, A2, c2, gq, co2, cc2, ro2, rc2, (by simp only [Act.put, List.setIfInBounds_toArray, List.set_cons_zero, List.set_cons_succ]), (by simp only [Act.put, List.setIfInBounds_toArray, List.set_cons_zero, List.set_cons_succ]), hb.trans (bx.mono (Nat.le_trans hB0 hb.size)), cd0, cd1, cd2, cd3, (fun _ => rfl), (fun _ => rfl), cd6, cd7, cd8, cd9, cd11, (f_g.out.past bx), (fun h0 h1 => (f_a.out h0 h1).past bx), (fun _ _ => i1), (fun h0 h1 => (f_b.out h0 h1).past bx), (fun h0 h1 => (f_q.out h0 h1).past bx), (fun h0 => (f_t.out h0).past bx), (fun h1 => (f_r.out h1).past bx), (fun h0 => (f_rs.out h0).past bx), f_o10⟩
            · rintro L a w ⟨b0, b1, b2, b3, b4, b5, b6, b7, b8, b9, b10, b11, x34, x35, x36, x37, x38, x39, x40, x41, x42, x43, x5, A1, c1, gr, A2, c2, gq, co2, cc2, ro2, rc2, rfl, rfl, hb, cd0, cd1, cd2, cd3, cd4, cd5, cd6, cd7, cd8, cd9, cd11, f_g, f_a, f_m, f_b, f_q, f_t, f_r, f_rs, f_o10⟩ hf hd
              have hf' : b6 = false := hf
              subst hf'
              clear hf hd
              have W_g := f_g.out
              try simp only [List.setIfInBounds_toArray, List.set_cons_zero, List.set_cons_succ]
              obtain ⟨z0, z1, z2, z3, z4, z5, z6⟩ := sp_cells W_g
              intro K hK
              rw [if_pos (by rfl)]
              go_simp
              exact hK.out _ _ ⟨b0, b1, b2, b3, b4, b5, true, b7, b8, b9, b10, b11, x34, x35, x36, x37, x38, x39, (.agg #[.string (bsOf l), .slice co cn cc, .int .i64 (ky : Nat), .bool only, .slice ro rn rc, .int .i64 (N : Nat), .bool false]), x41, x42, x43, x5, A1, c1, gr, A2, c2, gq, co2, cc2, ro2, rc2, (by simp only [Act.put, List.setIfInBounds_toArray, List.set_cons_zero, List.set_cons_succ]), (by simp only [Act.put, List.setIfInBounds_toArray, List.set_cons_zero, List.set_cons_succ]), hb, cd0, cd1, cd2, cd3, cd4, cd5, (fun _ => rfl), cd7, cd8, cd9, cd11, f_g, f_a, f_m, f_b, f_q, f_t, f_r, f_rs, f_o10⟩
            · rintro L a w ⟨b0, b1, b2, b3, b4, b5, b6, b7, b8, b9, b10, b11, x34, x35, x36, x37, x38, x39, x40, x41, x42, x43, x5, A1, c1, gr, A2, c2, gq, co2, cc2, ro2, rc2, rfl, rfl, hb, cd0, cd1, cd2, cd3, cd4, cd5, cd6, cd7, cd8, cd9, cd11, f_g, f_a, f_m, f_b, f_q, f_t, f_r, f_rs, f_o10⟩ hf hd
              have hf' : b7 = false := hf
              subst hf'
              have d6 : b6 = true := hd ⟨6, .data⟩ (by simp) rfl
              subst d6
              have d3 : b3 = true := hd ⟨3, .chain⟩ (by simp) rfl
              subst d3
              obtain rfl := cd6.out rfl
              obtain rfl := cd3.out rfl
              clear hf hd
              have W_g := f_g.out
              try simp only [List.setIfInBounds_toArray, List.set_cons_zero, List.set_cons_succ]
              intro K hK
              rw [if_pos (by rfl)]
              go_simp
              go_at_call 80
              refine (HBh _ hb).mono ?_
              rintro e w' ⟨A3, c3, rfl, i1, bx⟩
              exact hK.out _ _ ⟨b0, b1, b2, true, b4, b5, true, true, b8, b9, b10, b11, x34, x35, x36, .slice A1 N c1, x38, x39, .agg #[.string (bsOf l), .slice co cn cc, .int .i64 (ky : Nat), .bool only, .slice ro rn rc, .int .i64 (N : Nat), .bool false], (.slice A3 M c3), x42, x43, x5, A1, c1, gr, A3, c3, gq, co2, cc2, ro2, rc2, (by simp only [Act.put, List.setIfInBounds_toArray, List.set_cons_zero, List.set_cons_succ]), (by simp only [Act.put, List.setIfInBounds_toArray, List.set_cons_zero, List.set_cons_succ]), hb.trans (bx.mono (Nat.le_trans hB0 hb.size)), cd0, cd1, cd2, (fun _ => rfl), cd4, cd5, (fun _ => rfl), (fun _ => rfl), cd8, cd9, cd11, (f_g.out.past bx), (fun h0 h1 => (f_a.out h0 h1).past bx), (fun h0 h1 => (f_m.out h0 h1).past bx), (fun _ _ => i1), (fun h0 h1 => (f_q.out h0 h1).past bx), (fun h0 => (f_t.out h0).past bx), (fun h1 => (f_r.out h1).past bx), (fun h0 => (f_rs.out h0).past bx), f_o10⟩
            · rintro L a w ⟨b0, b1, b2, b3, b4, b5, b6, b7, b8, b9, b10, b11, x34, x35, x36, x37, x38, x39, x40, x41, x42, x43, x5, A1, c1, gr, A2, c2, gq, co2, cc2, ro2, rc2, rfl, rfl, hb, cd0, cd1, cd2, cd3, cd4, cd5, cd6, cd7, cd8, cd9, cd11, f_g, f_a, f_m, f_b, f_q, f_t, f_r, f_rs, f_o10⟩ hf hd
              have hf' : b8 = false := hf
              subst hf'
              have d3 : b3 = true := hd ⟨3, .data⟩ (by simp) rfl
              subst d3
              have d5 : b5 = true := hd ⟨5, .data⟩ (by simp) rfl
              subst d5
              have d7 : b7 = true := hd ⟨7, .data⟩ (by simp) rfl
              subst d7
              obtain rfl := cd3.out rfl
              obtain rfl := cd5.out rfl
              obtain rfl := cd7.out rfl
              clear hf hd
              have W_g := f_g.out
              have W_a := f_a.out rfl rfl
              have W_m := f_m.out rfl rfl
              have W_b := f_b.out rfl rfl
              try simp only [List.setIfInBounds_toArray, List.set_cons_zero, List.set_cons_succ]
              intro K hK
              rw [if_pos (by rfl)]
              go_simp
              have bx : Below w.heap.size w (w.alloc (.cells #[.slice A1 N c1, .slice (some ⟨gr, 0, none⟩) 1 1, .slice A2 M c2] 45)) := (Below.refl _ _).alloc (Nat.le_refl _) _
              have i1 : IsRR EH (w.alloc (.cells #[.slice A1 N c1, .slice (some ⟨gr, 0, none⟩) 1 1, .slice A2 M c2] 45)) 0 (some ⟨w.heap.size, 0, none⟩) 3 3 [hsA, [⟨ra, n, c⟩], hsB] := part_lit w _ [⟨A1, N, c1⟩, ⟨some ⟨gr, 0, none⟩, 1, 1⟩, ⟨A2, M, c2⟩] _ (((Rd.one (x := ⟨A1, N, c1⟩) W_a).append (Rd.one (x := ⟨some ⟨gr, 0, none⟩, 1, 1⟩) W_m)).append (Rd.one (x := ⟨A2, M, c2⟩) W_b)) 3 rfl (by omega) _ rfl
              exact hK.out _ _ ⟨b0, b1, b2, true, b4, true, b6, true, true, b9, b10, b11, x34, x35, x36, .slice A1 N c1, x38, .slice (some ⟨gr, 0, none⟩) 1 1, x40, .slice A2 M c2, (.slice (some ⟨(w.heap.size), 0, none⟩) 3 3), x43, x5, A1, c1, gr, A2, c2, w.heap.size, co2, cc2, ro2, rc2, (by simp only [Act.put, List.setIfInBounds_toArray, List.set_cons_zero, List.set_cons_succ]), (by simp only [Act.put, List.setIfInBounds_toArray, List.set_cons_zero, List.set_cons_succ]), hb.trans (bx.mono (Nat.le_trans hB0 hb.size)), cd0, cd1, cd2, (fun _ => rfl), cd4, (fun _ => rfl), cd6, (fun _ => rfl), (fun _ => rfl), cd9, cd11, (f_g.out.past bx), (fun _ h => by cases h), (fun _ h => by cases h), (fun _ h => by cases h), (fun _ _ => i1), (fun h0 => (f_t.out h0).past bx), (fun h1 => (f_r.out h1).past bx), (fun h0 => (f_rs.out h0).past bx), f_o10⟩
            · rintro L a w ⟨b0, b1, b2, b3, b4, b5, b6, b7, b8, b9, b10, b11, x34, x35, x36, x37, x38, x39, x40, x41, x42, x43, x5, A1, c1, gr, A2, c2, gq, co2, cc2, ro2, rc2, rfl, rfl, hb, cd0, cd1, cd2, cd3, cd4, cd5, cd6, cd7, cd8, cd9, cd11, f_g, f_a, f_m, f_b, f_q, f_t, f_r, f_rs, f_o10⟩ hf hd
              have hf' : b9 = false := hf
              subst hf'
              have d1 : b1 = true := hd ⟨1, .data⟩ (by simp) rfl
              subst d1
              have d8 : b8 = true := hd ⟨8, .data⟩ (by simp) rfl
              subst d8
              have d7 : b7 = true := hd ⟨7, .chain⟩ (by simp) rfl
              subst d7
              obtain rfl := cd1.out rfl
              obtain rfl := cd8.out rfl
              obtain rfl := cd7.out rfl
              clear hf hd
              have W_g := f_g.out
              have W_q := f_q.out rfl rfl
              try simp only [List.setIfInBounds_toArray, List.set_cons_zero, List.set_cons_succ]
              intro K hK
              rw [if_pos (by rfl)]
              go_simp
              go_at_call 78
              refine (HHo _ hb _ W_q).mono ?_
              rintro e w' ⟨co3, cc3, ro3, rc3, rfl, i1, bx⟩
              unfold tbV
              exact hK.out _ _ ⟨b0, true, b2, b3, b4, b5, b6, true, true, true, b10, b11, x34, .agg #[.string (bsOf l), .slice co cn cc, .int .i64 (ky : Nat), .bool only, .slice ro rn rc], x36, x37, x38, x39, x40, .slice A2 M c2, .slice (some ⟨gq, 0, none⟩) 3 3, (.agg #[.string (bsOf l), .slice co3 cn cc3, .int .i64 (ky : Nat), .bool only, .slice ro3 R2 rc3]), x5, A1, c1, gr, A2, c2, gq, co3, cc3, ro3, rc3, (by simp only [Act.put, List.setIfInBounds_toArray, List.set_cons_zero, List.set_cons_succ]), (by simp only [Act.put, List.setIfInBounds_toArray, List.set_cons_zero, List.set_cons_succ]), hb.trans (bx.mono (Nat.le_trans hB0 hb.size)), cd0, (fun _ => rfl), cd2, cd3, cd4, cd5, cd6, (fun _ => rfl), (fun _ => rfl), (fun _ => rfl), cd11, (f_g.out.past bx), (fun _ h => by cases h), (fun _ h => by cases h), (fun _ h => by cases h), (fun _ h => by cases h), (fun _ => i1.mono hb.size), (fun h1 => (f_r.out h1).past bx), (fun h0 => absurd (f_o10.out h0) (by simp)), (fun _ => rfl)⟩
            · rintro L a w ⟨b0, b1, b2, b3, b4, b5, b6, b7, b8, b9, b10, b11, x34, x35, x36, x37, x38, x39, x40, x41, x42, x43, x5, A1, c1, gr, A2, c2, gq, co2, cc2, ro2, rc2, rfl, rfl, hb, cd0, cd1, cd2, cd3, cd4, cd5, cd6, cd7, cd8, cd9, cd11, f_g, f_a, f_m, f_b, f_q, f_t, f_r, f_rs, f_o10⟩ hf hd
              have hf' : b10 = false := hf
              subst hf'
              have d9 : b9 = true := hd ⟨9, .data⟩ (by simp) rfl
              subst d9
              have d0 : b0 = true := hd ⟨0, .phase⟩ (by simp) rfl
              subst d0
              have d1 : b1 = true := hd ⟨1, .phase⟩ (by simp) rfl
              subst d1
              have d2 : b2 = true := hd ⟨2, .phase⟩ (by simp) rfl
              subst d2
              have d3 : b3 = true := hd ⟨3, .phase⟩ (by simp) rfl
              subst d3
              have d4 : b4 = true := hd ⟨4, .phase⟩ (by simp) rfl
              subst d4
              have d5 : b5 = true := hd ⟨5, .phase⟩ (by simp) rfl
              subst d5
              have d6 : b6 = true := hd ⟨6, .phase⟩ (by simp) rfl
              subst d6
              have d7 : b7 = true := hd ⟨7, .phase⟩ (by simp) rfl
              subst d7
              have d8 : b8 = true := hd ⟨8, .phase⟩ (by simp) rfl
              subst d8
              obtain rfl := cd9.out rfl
              obtain rfl := cd0.out rfl
              obtain rfl := cd1.out rfl
              obtain rfl := cd2.out rfl
              obtain rfl := cd3.out rfl
              obtain rfl := cd4.out rfl
              obtain rfl := cd5.out rfl
              obtain rfl := cd6.out rfl
              obtain rfl := cd7.out rfl
              obtain rfl := cd8.out rfl
              clear hf hd
              have W_g := f_g.out
              have W_t := f_t.out rfl
              have W_r := f_r.out rfl
              try simp only [List.setIfInBounds_toArray, List.set_cons_zero, List.set_cons_succ]
              intro K hK
              rw [if_pos (by rfl)]
              refine wp_store_blkT 47 _ _ rfl r _ (tbC l co2 cn cc2 (ky : Nat) only ro2 R2 rc2) rfl rfl _ (Lib.hid W_r) 5 szTb (tbC_size ..) (tbC_size ..) (tbC_all ..) fun w2 h8 b8 => ?_
              have hb2 := hb.grown b8 (Nat.le_trans hB0 hb.size) (fun z hz => by cases hz; exact hpr)
              exact hK.out _ _ ⟨true, true, true, true, true, true, true, true, true, true, true, b11, .pointer (some ⟨gp, 0, none⟩), .agg #[.string (bsOf l), .slice co cn cc, .int .i64 (ky : Nat), .bool only, .slice ro rn rc], .agg #[.string (bsOf l), .slice co cn cc, .int .i64 (ky : Nat), .bool only, .slice ro rn rc, .int .i64 (N : Nat), .bool false], .slice A1 N c1, .slice ra n c, .slice (some ⟨gr, 0, none⟩) 1 1, .agg #[.string (bsOf l), .slice co cn cc, .int .i64 (ky : Nat), .bool only, .slice ro rn rc, .int .i64 (N : Nat), .bool false], .slice A2 M c2, .slice (some ⟨gq, 0, none⟩) 3 3, .agg #[.string (bsOf l), .slice co2 cn cc2, .int .i64 (ky : Nat), .bool only, .slice ro2 R2 rc2], x5, A1, c1, gr, A2, c2, gq, co2, cc2, ro2, rc2, (by simp only [Act.put, List.setIfInBounds_toArray, List.set_cons_zero, List.set_cons_succ]), (by simp only [Act.put, List.setIfInBounds_toArray, List.set_cons_zero, List.set_cons_succ]), hb2, (fun _ => rfl), (fun _ => rfl), (fun _ => rfl), (fun _ => rfl), (fun _ => rfl), (fun _ => rfl), (fun _ => rfl), (fun _ => rfl), (fun _ => rfl), (fun _ => rfl), cd11, (Bk.grown f_g.out b8 hgpr), (fun _ h => by cases h), (fun _ h => by cases h), (fun _ h => by cases h), (fun _ h => by cases h), (fun h0 => IsT.grown (f_t.out h0) b8 hrW), (fun h => by cases h), (fun _ => h8.out), (fun _ => rfl)⟩
            · rintro L a w ⟨b0, b1, b2, b3, b4, b5, b6, b7, b8, b9, b10, b11, x34, x35, x36, x37, x38, x39, x40, x41, x42, x43, x5, A1, c1, gr, A2, c2, gq, co2, cc2, ro2, rc2, rfl, rfl, hb, cd0, cd1, cd2, cd3, cd4, cd5, cd6, cd7, cd8, cd9, cd11, f_g, f_a, f_m, f_b, f_q, f_t, f_r, f_rs, f_o10⟩ hf hd
              have hf' : b11 = false := hf
              subst hf'
              have d10 : b10 = true := hd ⟨10, .chain⟩ (by simp) rfl
              subst d10
              have d0 : b0 = true := hd ⟨0, .phase⟩ (by simp) rfl
              subst d0
              have d1 : b1 = true := hd ⟨1, .phase⟩ (by simp) rfl
              subst d1
              have d2 : b2 = true := hd ⟨2, .phase⟩ (by simp) rfl
              subst d2
              have d3 : b3 = true := hd ⟨3, .phase⟩ (by simp) rfl
              subst d3
              have d4 : b4 = true := hd ⟨4, .phase⟩ (by simp) rfl
              subst d4
              have d5 : b5 = true := hd ⟨5, .phase⟩ (by simp) rfl
              subst d5
              have d6 : b6 = true := hd ⟨6, .phase⟩ (by simp) rfl
              subst d6
              have d7 : b7 = true := hd ⟨7, .phase⟩ (by simp) rfl
              subst d7
              have d8 : b8 = true := hd ⟨8, .phase⟩ (by simp) rfl
              subst d8
              have d9 : b9 = true := hd ⟨9, .phase⟩ (by simp) rfl
              subst d9
              obtain rfl := cd0.out rfl
              obtain rfl := cd1.out rfl
              obtain rfl := cd2.out rfl
              obtain rfl := cd3.out rfl
              obtain rfl := cd4.out rfl
              obtain rfl := cd5.out rfl
              obtain rfl := cd6.out rfl
              obtain rfl := cd7.out rfl
              obtain rfl := cd8.out rfl
              obtain rfl := cd9.out rfl
              clear hf hd
              have W_g := f_g.out
              have W_t := f_t.out rfl
              have W_rs := f_rs.out rfl
              have W_o10 := f_o10.out rfl
              try simp only [List.setIfInBounds_toArray, List.set_cons_zero, List.set_cons_succ]
              intro K hK
              rw [if_pos (by rfl)]
              go_simp
              exact hK.out _ _ ⟨true, true, true, true, true, true, true, true, true, true, true, true, .pointer (some ⟨gp, 0, none⟩), .agg #[.string (bsOf l), .slice co cn cc, .int .i64 (ky : Nat), .bool only, .slice ro rn rc], .agg #[.string (bsOf l), .slice co cn cc, .int .i64 (ky : Nat), .bool only, .slice ro rn rc, .int .i64 (N : Nat), .bool false], .slice A1 N c1, .slice ra n c, .slice (some ⟨gr, 0, none⟩) 1 1, .agg #[.string (bsOf l), .slice co cn cc, .int .i64 (ky : Nat), .bool only, .slice ro rn rc, .int .i64 (N : Nat), .bool false], .slice A2 M c2, .slice (some ⟨gq, 0, none⟩) 3 3, .agg #[.string (bsOf l), .slice co2 cn cc2, .int .i64 (ky : Nat), .bool only, .slice ro2 R2 rc2], (.int .i64 0), A1, c1, gr, A2, c2, gq, co2, cc2, ro2, rc2, (by simp only [Act.put, List.setIfInBounds_toArray, List.set_cons_zero, List.set_cons_succ]), (by simp only [Act.put, List.setIfInBounds_toArray, List.set_cons_zero, List.set_cons_succ]), hb, (fun _ => rfl), (fun _ => rfl), (fun _ => rfl), (fun _ => rfl), (fun _ => rfl), (fun _ => rfl), (fun _ => rfl), (fun _ => rfl), (fun _ => rfl), (fun _ => rfl), (fun _ => rfl), f_g, (fun _ h => by cases h), (fun _ h => by cases h), (fun _ h => by cases h), (fun _ h => by cases h), f_t, (fun h => by cases h), f_rs, f_o10⟩
          · rintro act X ⟨b0, b1, b2, b3, b4, b5, b6, b7, b8, b9, b10, b11, x34, x35, x36, x37, x38, x39, x40, x41, x42, x43, x5, A1, c1, gr, A2, c2, gq, co2, cc2, ro2, rc2, hL, rfl, hb, cd0, cd1, cd2, cd3, cd4, cd5, cd6, cd7, cd8, cd9, cd11, f_g, f_a, f_m, f_b, f_q, f_t, f_r, f_rs, f_o10⟩
            have hL' : [true, true, true, true, true, true, true, true, true, true, true, true] = [b0, b1, b2, b3, b4, b5, b6, b7, b8, b9, b10, b11] := congrArg Array.toList hL
            simp only [List.cons.injEq, and_true] at hL'
            obtain ⟨rfl, rfl, rfl, rfl, rfl, rfl, rfl, rfl, rfl, rfl, rfl, rfl⟩ := hL'
            obtain rfl := cd0.out rfl
            obtain rfl := cd1.out rfl
            obtain rfl := cd2.out rfl
            obtain rfl := cd3.out rfl
            obtain rfl := cd4.out rfl
            obtain rfl := cd5.out rfl
            obtain rfl := cd6.out rfl
            obtain rfl := cd7.out rfl
            obtain rfl := cd8.out rfl
            obtain rfl := cd9.out rfl
            obtain rfl := cd11.out rfl
            have W_g := f_g.out
            have W_t := f_t.out rfl
            have W_rs := f_rs.out rfl
            have W_o10 := f_o10.out rfl
            clear hL f_g f_a f_m f_b f_q f_t f_r f_rs f_o10 cd0 cd1 cd2 cd3 cd4 cd5 cd6 cd7 cd8 cd9 cd11
            simp only [List.setIfInBounds_toArray, List.set_cons_zero, List.set_cons_succ]
            obtain ⟨r0, r1, r2, r3, r4⟩ := tb_cells W_rs
            have BX : Below p w X := BV.trans ((Below.refl _ _).drew.trans hb)
            clear hb
            go_wp2_with fail
            refine bodyPost_ret (v := .tuple #[tbV l co2 cn cc2 (ky : Nat) only ro2 R2 rc2, .int .i64 0]) (by simp [results, Try.results20, go_sem, tbV, r0, r1, r2, r3, r4]) rfl ?_
            rw [HE.out, HRs.out]
            exact ⟨co2, cc2, ro2, R2, rc2, rfl, W_t.mono (by rw [HP.out]; exact hpV), by rw [HP.out]; exact BX⟩
  · have en : (E0 != 0) = true := by simp [hE]
    obtain ⟨HE, HR⟩ := HPEh.out E0 hE rfl
    have HEh := Lib.hid HE
    have HRh := Lib.hid HR
    have HFr := HFRE.out w1 (by rw [HP.out]; exact B1)
    clear HE HR
    go_wp2_with (first
      | (go_at_call 75; refine HFr.mono ?_; rintro e w5 ⟨co1, cc1, ro1, rc1, rfl, h1, b5⟩; have hR5 : Hid (w5.heap[r]? = some (.cells (tbC [] none 0 0 0 false none 0 0) 47 (0, 0))) := hR1.past b5)
      | ((with_reducible refine wpList_store_blk (o := ⟨none, _, _, _, _, _⟩) rfl 47 (.tmp 4) (.tmp 15) rfl r _ (tbC l co1 cn cc1 (ky : Nat) only ro1 rn rc1) ?_ ?_ _ hR5 5 szTb (tbC_size ..) (tbC_size ..) (tbC_all ..) ?_); (rfl); (rfl); (intro w6 h6 g6)))
    have hR6 : Bk w6 r (tbC l co1 cn cc1 (ky : Nat) only ro1 rn rc1) 47 := h6.out
    obtain ⟨r0, r1, r2, r3, r4⟩ := tb_cells hR6
    refine bodyPost_ret (v := .tuple #[tbV l co1 cn cc1 (ky : Nat) only ro1 rn rc1, .int .i64 E0]) (by simp [results, Try.results20, go_sem, tbV, r0, r1, r2, r3, r4]) rfl ?_
    rw [HEh.out, HRh.out]
    exact put_end HP.out hpr B1 hR1.lt h1 b5 g6
end Go.Proofs.Ytllijeciodmckaa
