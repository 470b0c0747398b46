/-
  merkle's Root and Proof.
-/
import Derived.Test.YtpphlmbhonaglaaDoorAbove
namespace Go.Proofs.YtpphlmbhonaglaaDoor
open Go.RowKit

def rootS (hs : List (List UInt8)) : List UInt8 := Mk.root two (sha []) hs
def proofS (hs : List (List UInt8)) (i : Nat) : List (List UInt8) := Mk.proof two (sha []) hs i
theorem rootS_length (hs : List (List UInt8)) (h : ∀ x ∈ hs, x.length = 32) : (rootS hs).length = 32 := by
  unfold rootS
  by_cases h2 : hs.length < 2
  · rw [Mk.root_one _ _ _ h2]
    match hs, h with
    | [], _ => exact sha_length _
    | x :: _, h => exact h x (by simp)
  · rw [Mk.root_more _ _ _ (by omega)]
    exact two_length _ _
theorem rootS_above (hs : List (List UInt8)) : rootS (Mk.above two hs) = rootS hs := Mk.root_above two (sha []) hs
theorem xor_mod2 (i : Nat) : (i ^^^ 1) % 2 = (i + 1) % 2 := by
  have h := Nat.xor_mod_two_pow (a := i) (b := 1) (n := 1)
  simp only [Nat.pow_one] at h
  rw [h]
  rcases Nat.mod_two_eq_zero_or_one i with h0 | h0
  · rw [h0]; show 0 ^^^ 1 = _; simp; omega
  · rw [h0]; show 1 ^^^ 1 = _; simp; omega
theorem xor_one (i : Nat) : i ^^^ 1 = Mk.sib i := by
  have h1 : (i ^^^ 1) / 2 = i / 2 := by rw [Nat.xor_div_two]; simp
  have h2 := xor_mod2 i
  unfold Mk.sib
  split <;> omega
theorem i64_xor_one (i : Nat) (h : i < 4294967296) : bits .xor .i64 (i : Int) 1 = (Mk.sib i : Int) := by
  rw [← xor_one]
  have hx : i ^^^ 1 < 2 ^ 32 := Nat.xor_lt_two_pow (by omega) (by omega)
  show IntKind.i64.wrap ((BitVec.ofInt 64 (i : Int) ^^^ BitVec.ofInt 64 ((1 : Nat) : Int)).toNat : Int) = _
  rw [BitVec.toNat_xor, ofInt_u64 i (by omega), ofInt_u64 1 (by omega)]
  exact IntWalk.i64_in _ (by omega)
set_option maxHeartbeats 400000 in
theorem beside_any (i : Nat) (w : World) (h : i < 4294967295) : Calls Tryd.prog 15 #[.int .i64 (i : Int)] w fun e w' => e = .returned (.int .i64 (Mk.sib i : Int)) ∧ w = w' := by
  have hx := i64_xor_one i (by omega)
  go_enter Tryd.func15, Tryd.ntmps15
  go_wp2_with fail
  go_ret
  exact ⟨rfl, rfl⟩

set_option maxRecDepth 100000 in
set_option maxHeartbeats 2000000 in
theorem root_any (a0 : Option Addr) (n0 c0 : Nat) (hs : List (List UInt8)) (w : World) (hC : RC w) (h : IsH w a0 n0 c0 hs) (hn : n0 ≤ 1000) :
    Calls Tryd.prog 7 #[.slice a0 n0 c0] w fun e w' => e = .returned (.agg (bcs (rootS hs)).toArray) ∧ Below w.heap.size w w' := by
  have hl := h.len
  have H32 := Lib.hid (rootS_length hs h.all)
  have HL := Lib.hid hl
  clear hl
  rcases Nat.eq_zero_or_pos n0 with h0 | h0
  · subst h0
    have e0 : rootS hs = sha [] := by
      have : hs = [] := List.eq_nil_of_length_eq_zero HL.out
      subst this
      exact Mk.root_one _ _ _ (by simp)
    rw [e0]
    clear e0 H32 HL
    go_enter Tryd.func7, Tryd.ntmps7
    go_wp2_with (first | (with_reducible refine wpList_alloc_blk (o := ⟨some 2, _, _, _, _, _⟩) rfl 27 rfl _ zeroHash ?_; intro w1 gr h1 b1 q1))
    refine (sum_any none 0 0 [] _ (hC.past b1) (isP_nil _ none) (by omega) (by simp)).mono ?_
    rintro e w4 ⟨rfl, b4⟩
    rw [List.flatten_nil]
    have R4 : Hid (w4.heap[gr]? = some (.cells (bcs (List.replicate 32 0)).toArray 27 (0, 0))) := (b4.block gr (Array.getElem?_eq_some_iff.1 h1.out).1).trans h1.out
    have B4 := b1.trans (b4.mono b1.size)
    clear b4 h1 b1
    go_wp2_with ((with_reducible refine wpList_store_blk rfl 27 _ _ rfl gr _ (bcs (sha [])).toArray ?_ ?_ _ R4 32 sizeHash (by simp [bcs_length]) (by simp [bcs_length, sha_length]) (bcs_all _) ?_); (rfl); (rfl); (intro w8 h8 b8))
    refine bodyPost_ret (v := .agg (bcs (sha [])).toArray) (results_cell_row rfl _ _ gr _ _ (0, 0) _ rfl h8.out Tryd.underlying27 rfl (by rw [sizeHash]; simp [bcs_length, sha_length])) rfl ⟨rfl, ?_⟩
    exact B4.grown b8 B4.size (fun k hk => by cases hk; omega)
  · have hz : ((n0 : Int) == 0) = false := by simp; omega
    go_enter Tryd.func7, Tryd.ntmps7
    go_wp2_with (first | (with_reducible refine wpList_alloc_blk (o := ⟨some 2, _, _, _, _, _⟩) rfl 27 rfl _ zeroHash ?_; intro w1 gr h1 b1 q1))
    have hgr : gr < w1.heap.size := (Array.getElem?_eq_some_iff.1 h1.out).1
    go_loopw [0] (fun v wq => ∃ (ao : Option Addr) (n c : Nat) (hs' : List (List UInt8)), v = .slice ao n c ∧ IsH wq ao n c hs' ∧ 1 ≤ n ∧ n ≤ 1000 ∧ Hid (rootS hs' = rootS hs) ∧ Below w1.heap.size w1 wq) (fun v _ => match v with | .slice _ n _ => n | _ => 0)
    case atStart => exact ⟨a0, n0, c0, hs, rfl, h.past b1, h0, hn, rfl, Below.refl _ _⟩
    case round =>
      obtain ⟨ao, n, c, hs', rfl, hI, hn1, hn2, HR, hB⟩ := hrel
      have hBw : Below w.heap.size w wr := b1.trans (hB.mono b1.size)
      by_cases hn3 : 1 < n
      · obtain ⟨a, rfl⟩ := hI.has (by omega)
        go_wp2_with fail
        refine (above_any a n c hs' _ (hC.past hBw) hI hn2).mono ?_
        rintro e w3 ⟨v, rfl, hO, b3⟩
        obtain ⟨ao2, c2, rfl, hI2, -⟩ := hO.isH
        have HR2 : Hid (rootS (Mk.above two hs') = rootS hs) := (rootS_above hs').trans HR.out
        have B3 := hB.trans (b3.mono hB.size)
        clear hO b3
        go_wp2_with fail
        go_roundw
        case rel => exact ⟨ao2, (n + 1) / 2, c2, _, rfl, hI2, by omega, by omega, HR2, B3⟩
        case measure => simp; omega
      · obtain rfl : n = 1 := by omega
        obtain ⟨a, rfl⟩ := hI.has (by omega)
        have hat := hI.at_ a rfl 0 (by omega)
        have hd : hs'.getD 0 [] = rootS hs := by
          rw [← HR.out]
          have hl' := hI.len
          unfold rootS
          rw [Mk.root_one _ _ _ (by omega)]
          match hs', hl' with
          | [x], _ => rfl
        rw [hd] at hat
        have u24 := Tryd.underlying27
        have R4 : Hid (wr.heap[gr]? = some (.cells (bcs (List.replicate 32 0)).toArray 27 (0, 0))) := (hB.block gr hgr).trans h1.out
        have hat0 : AtA wr a (rootS hs) := by
          have := hat
          rw [Nat.zero_mul] at this
          exact this
        clear hat hd hI h1 hB HR
        go_wp2_with (first
          | ((with_reducible refine wpList_load_at rfl 27 _ rfl a ?_ (rootS hs) hat0 _ _ u24 (hash_size _ H32.out) ?_); (rfl))
          | ((with_reducible refine wpList_store_blk rfl 27 _ _ rfl gr _ (bcs (rootS hs)).toArray ?_ ?_ _ R4 32 sizeHash (by simp [bcs_length]) (by simp [bcs_length, H32.out]) (bcs_all _) ?_); (rfl); (rfl); (intro w8 h8 b8)))
        refine bodyPost_ret (v := .agg (bcs (rootS hs)).toArray) (results_cell_row rfl _ _ gr _ _ (0, 0) _ rfl h8.out Tryd.underlying27 rfl (by rw [sizeHash]; simp [bcs_length, H32.out])) rfl ⟨rfl, ?_⟩
        exact hBw.grown b8 hBw.size (fun k hk => by cases hk; omega)

theorem OwnH.lt {w : World} {base : Nat} {v : Value} {k : Nat} {hs : List (List UInt8)} (h : OwnH w base v k hs) (g : Nat) (hg : v.ownBlock = some g) : g < w.heap.size := by
  obtain ⟨⟨_, ho⟩, _, _⟩ := h
  rcases ho with ⟨rfl, rfl⟩ | ⟨g', cap, cur, rfl, hg', hc, _⟩
  · cases hg
  · cases hg
    exact (Array.getElem?_eq_some_iff.1 hc).1
theorem IsH.grown {w w' : World} {row : Option Nat} {ao : Option Addr} {n cap : Nat} {hs : List (List UInt8)} (h : IsH w ao n cap hs) (hg : w.grownBy w' row) (hne : ∀ a, ao = some a → some a.block ≠ row) : IsH w' ao n cap hs :=
  ⟨h.len, h.le, h.max, h.nil, h.all, fun a ha i hi j u hu => hg.cell (h.at_ a ha i hi j u hu) (by
    have e : ((a.add (i * 32)).add j).block = a.block := by rw [block_add, block_add]
    rw [e]
    exact hne a ha)⟩
/-- SUMS AND A CODE ARE ANSWERED. -/
def PrOut (w : World) (c : Int) (n : Nat) (hs : List (List UInt8)) (e : Ending) (w' : World) : Prop := ∃ v, e = .returned (.tuple #[v, .int .i64 c]) ∧ OwnH w' w.heap.size v n hs ∧ Below w.heap.size w w'
theorem proofS_step (hs : List (List UInt8)) (i : Nat) (h2 : 2 ≤ hs.length) (hi : i < hs.length) : proofS hs i = (if Mk.sib i < hs.length then [hs.getD (Mk.sib i) (sha [])] else []) ++ proofS (Mk.above two hs) (i / 2) := Mk.proof_above two (sha []) hs i h2 hi
theorem getD_any {α : Type} (l : List α) (i : Nat) (d d' : α) (h : i < l.length) : l.getD i d = l.getD i d' := by simp [List.getD, h]
theorem sib_le (i : Nat) : Mk.sib i ≤ i + 1 := by unfold Mk.sib; split <;> omega
set_option maxRecDepth 100000 in
set_option maxHeartbeats 4000000 in
theorem proof_any (a0 : Option Addr) (n0 c0 : Nat) (hs : List (List UInt8)) (i : Nat) (w : World) (hC : RC w) (h : IsH w a0 n0 c0 hs) (hn : n0 ≤ 1000) (hi : i < n0) :
    Calls Tryd.prog 8 #[.slice a0 n0 c0, .int .i64 (i : Int)] w (PrOut w 0 (proofS hs i).length (proofS hs i)) := by
  have z2 : decide ((i : Int) < 0) = false := by simp
  have z3 : decide (n0 ≤ i) = false := by simp; omega
  go_enter Tryd.func8, Tryd.ntmps8
  go_wp2_with fail
  clear z2 z3
  go_loopw [0, 1, 6] (fun v vi vp wq => ∃ (ao : Option Addr) (n c : Nat) (hs' : List (List UInt8)) (i' k : Nat) (q : List (List UInt8)), v = .slice ao n c ∧ IsH wq ao n c hs' ∧ 1 ≤ n ∧ n ≤ 1000 ∧ vi = .int .i64 i' ∧ i' < n ∧ OwnH wq w.heap.size vp k q ∧ k + n ≤ 2000 ∧ Hid (q ++ proofS hs' i' = proofS hs i) ∧ Hid (∀ a g, ao = some a → vp.ownBlock = some g → a.block ≠ g) ∧ Below w.heap.size w wq) (fun v _ _ _ => match v with | .slice _ n _ => n | _ => 0)
  case atStart => exact ⟨a0, n0, c0, hs, i, 0, [], rfl, h, by omega, hn, rfl, hi, OwnH.nil _ _, by omega, rfl, fun a g _ hg => (by cases hg), Below.refl _ _⟩
  case round =>
    obtain ⟨ao, n, c, hs', i', k, q, rfl, hI, hn1, hn2, rfl, hin, hO, hkn, HQ, HNE, hB⟩ := hrel
    have hlen := hI.len
    have HLEN := Lib.hid hlen
    clear hlen
    have hs1 := hB.size
    have hsb := sib_le i'
    by_cases hn3 : 1 < n
    · obtain ⟨a, rfl⟩ := hI.has (by omega)
      obtain ⟨j, hj⟩ : ∃ j, j = i' / 2 := ⟨_, rfl⟩
      have ej : (i' : Int) / 2 = (j : Int) := by omega
      have hjn : j < (n + 1) / 2 := by omega
      have HST := proofS_step hs' i' (by rw [HLEN.out]; omega) (by rw [HLEN.out]; exact hin)
      rw [HLEN.out, ← hj] at HST
      have HJ := Lib.hid hj
      clear hj
      by_cases hsn : Mk.sib i' < n
      · have hAt := hI.at_ a rfl (Mk.sib i') hsn
        have h32 := hI.one (Mk.sib i') hsn
        rw [if_pos hsn, getD_any _ _ _ [] (by rw [HLEN.out]; exact hsn)] at HST
        have HS := Lib.hid HST
        have H32 := Lib.hid h32
        clear HST h32
        go_wp2_with fail
        refine (beside_any i' _ (by omega)).mono ?_
        rintro e w' ⟨rfl, rfl⟩
        generalize Mk.sib i' = sb at hsn hAt H32 HS hsb ⊢
        generalize hs'.getD sb [] = x at hAt H32 HS
        have hsn' : (sb : Int) < (n : Int) := by omega
        have u24 := Tryd.underlying27
        go_wp2_with (first
          | ((with_reducible refine wpList_load_at rfl 27 _ rfl (a.add (sb * 32)) ?_ x hAt _ _ u24 (hash_size x H32.out) ?_); (rfl))
          | ((with_reducible refine wpList_buildSlice_hs rfl 1 _ rfl [x] rfl ?_ (by omega) (by omega) ?_ ?_); (simp [H32.out]); (simp only [List.map_toArray, List.map_cons, List.map_nil]; rfl); (intro w5 _ I5 b5; have O5 := hO.past b5; have hs5 := b5.size))
          | (at_builtin; refine wpList_append_hs rfl (.tmp 25) (.tmp 30) rfl w.heap.size (by omega) _ k q rfl O5 ⟨wr.heap.size, 0, none⟩ 1 1 [x] rfl I5 (by omega) ?_; intro v2 w4 hO4 g4))
        have hB5 := hB.trans (b5.mono hs1)
        have B4 := O5.step hB5 hB5.size (Nat.le_refl _) g4
        have I4 : IsH w4 (some a) n c hs' := (hI.past b5).grown g4 (fun a' ha' e => by
          obtain rfl := Option.some.inj ha'
          exact HNE.out a a.block rfl e.symm rfl)
        have HQ2 : Hid (q ++ [x] ++ proofS (Mk.above two hs') j = proofS hs i) := by
          unfold Hid
          rw [← HQ.out, HS.out, List.append_assoc]
        clear g4 O5 hB5 b5 I5 hO hI HQ HS hAt H32 HNE hB
        go_wp2_with fail
        have R4 : RC w4 := hC.past B4
        refine (above_any a n c hs' _ R4 I4 hn2).mono ?_
        rintro e w6 ⟨v6, rfl, hO6, b6⟩
        obtain ⟨ao6, c6, rfl, hI6, hge6⟩ := hO6.isH
        have O6 := hO4.past b6
        have B6 := B4.trans (b6.mono B4.size)
        have NE6 : Hid (∀ a' g, ao6 = some a' → Value.ownBlock v2 = some g → a'.block ≠ g) := fun a' g h1 h2 e => by
          have h3 := hge6 a' h1
          have h4 := hO4.lt g h2
          omega
        clear hO6 b6 hge6 R4 I4
        go_wp2_with fail
        go_roundw
        case rel => exact ⟨ao6, (n + 1) / 2, c6, _, j, k + 1, _, rfl, hI6, by omega, by omega, rfl, hjn, O6, by omega, HQ2, NE6, B6⟩
        case measure => simp; omega
      · rw [if_neg hsn, List.nil_append] at HST
        have HQ2 : Hid (q ++ proofS (Mk.above two hs') j = proofS hs i) := by
          unfold Hid
          rw [← HQ.out, HST]
        clear HST HQ
        go_wp2_with fail
        refine (beside_any i' _ (by omega)).mono ?_
        rintro e w' ⟨rfl, rfl⟩
        generalize Mk.sib i' = sb at hsn hsb ⊢
        have hsn' : (n : Int) ≤ (sb : Int) := by omega
        have Br : Below w.heap.size w wr := hB
        have Ir := hI
        clear hB hI HNE
        go_wp2_with fail
        have Rr : RC wr := hC.past Br
        refine (above_any a n c hs' _ Rr Ir hn2).mono ?_
        rintro e w6 ⟨v6, rfl, hO6, b6⟩
        obtain ⟨ao6, c6, rfl, hI6, hge6⟩ := hO6.isH
        have O6 := hO.past b6
        have B6 := Br.trans (b6.mono Br.size)
        have NE6 : Hid (∀ a' g, ao6 = some a' → Value.ownBlock u6 = some g → a'.block ≠ g) := fun a' g h1 h2 e => by
          have h3 := hge6 a' h1
          have h4 := hO.lt g h2
          omega
        clear hO6 b6 hge6 Rr Ir
        go_wp2_with fail
        go_roundw
        case rel => exact ⟨ao6, (n + 1) / 2, c6, _, j, k, _, rfl, hI6, by omega, by omega, rfl, hjn, O6, by omega, HQ2, NE6, B6⟩
        case measure => simp; omega
    · obtain rfl : n = 1 := by omega
      have hfin : q = proofS hs i := by
        rw [← HQ.out]
        unfold proofS
        rw [Mk.proof_one _ _ hs' i' (by rw [HLEN.out]; omega), List.append_nil]
      rw [hfin] at hO
      have hk : k = (proofS hs i).length := hO.2.1.symm
      rw [hk] at hO
      have FIN : Hid (PrOut w 0 (proofS hs i).length (proofS hs i) (.returned (.tuple #[u6, .int .i64 0])) wr) := ⟨u6, rfl, hO, hB⟩
      clear hfin hk HQ hkn hI hO HNE hB
      go_wp2_with fail
      go_ret2
      exact FIN.out
theorem proof_none (a0 : Option Addr) (n0 c0 : Nat) (i : Int) (w : World) (hi : i < 0 ∨ (n0 : Int) ≤ i) :
    Calls Tryd.prog 8 #[.slice a0 n0 c0, .int .i64 i] w fun e w' => e = .returned (.tuple #[.slice none 0 0, .int .i64 1]) ∧ w = w' := by
  by_cases h0 : i < 0
  · clear hi
    go_enter Tryd.func8, Tryd.ntmps8
    go_wp2_with fail
    go_ret2
    exact ⟨rfl, rfl⟩
  · have z2 : decide (i < 0) = false := by simp; omega
    have z3 : decide ((n0 : Int) ≤ i) = true := by simp; omega
    have z4 : (n0 : Int) ≤ i := by omega
    clear hi
    go_enter Tryd.func8, Tryd.ntmps8
    go_wp2_with fail
    go_ret2
    exact ⟨rfl, rfl⟩
end Go.Proofs.YtpphlmbhonaglaaDoor
