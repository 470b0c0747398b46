/-
  The contract of key.Parse, of what key.Bytes wrote.
-/
import Derived.Test.YtpphlmbhonaglaaKeyW
import Derived.Test.YtpphlmbhonaglaaTake
import Derived.Test.YtpphlmbhonaglaaRow
import Derived.OwnWalk
namespace Go.Proofs.Ytpphlmbhonaglaa
open Go.RowKit
set_option linter.unusedSimpArgs false

theorem headB_run (b off n cap c : Nat) (w' : World) (hc : c ≤ n) (hn : n ≤ cap) : (Instr.slice 24 (.slice (some ⟨b, off, none⟩) n cap) none (some (.int .i64 c)) none).run Try.prog w' = .ok (.slice (some ⟨b, off, none⟩) c cap) w' := by
  rw [run_slice_h w' 24 (some ⟨b, off, none⟩) n cap (by kernel_rfl) .i64 (c : Int) (by omega) (by omega), elemB]
  by_cases h0 : cap = 0
  · simp [Result.andThen, sliced, h0]
  · simp [Result.andThen, sliced, h0, Addr.add]
set_option maxRecDepth 100000 in
theorem parseBool_any (ao : Option Addr) (n cap : Nat) (u : UInt8) (r : List UInt8) (hu : u.toNat ≤ 1) (w : World) (h : IsB w ao n cap (u :: r)) :
    Calls Try.prog 48 #[.slice ao n cap] w fun e w' => e = .returned (.tuple #[.int .i64 (u.toNat : Int), .int .i64 1, .int .i64 0]) ∧ Below w.heap.size w w' := by
  have hl := h.len
  have hn : 0 < n := by rw [← hl]; simp
  have hn2 : ¬ ((n : Int) = 0) := by omega
  have hn3 : ((n : Int) == 0) = false := by simpa using hn2
  obtain ⟨b, off, rfl, hc⟩ := IsB_open h hn
  have hc0 : w.cell? ⟨b, off, none⟩ = some (.int .u8 (u.toNat : Int)) := by simpa using hc 0 hn
  have hu2 : ¬ (1 < (u.toNat : Int)) := by omega
  have hw : IntKind.i64.wrap (u.toNat : Int) = (u.toNat : Int) := IntWalk.i64_in _ (by omega)
  clear hc
  go_enter Try.func48, Try.ntmps48
  go_wp2_with fail
  go_ret3
  exact ⟨rfl, Below.refl _ _⟩
theorem or_be (q d : Nat) (hq : q < 72057594037927936) (hd : d < 256) : bits .or .u64 (IntKind.u64.wrap ((q : Int) * 256)) (d : Int) = ((q * 256 + d : Nat) : Int) := by
  have e : (q : Int) * 256 = ((q * 256 : Nat) : Int) := by simp
  rw [e, IntWalk.u64_in _ (by omega), bits_or_u64_nat (q * 256) d (by omega) (by omega)]
  have := Nat.two_pow_add_eq_or_of_lt (i := 8) (b := d) (by omega) q
  rw [show (2 : Nat) ^ 8 = 256 from rfl, Nat.mul_comm] at this
  rw [this]
theorem be_small (U j : Nat) (hU : U < 18446744073709551616) (hj : j < 8) : U / 256 ^ (8 - j) < 72057594037927936 := by
  rw [Nat.div_lt_iff_lt_mul (Nat.pow_pos (by omega))]
  have h : 256 ^ 1 ≤ 256 ^ (8 - j) := Nat.pow_le_pow_right (by omega) (by omega)
  have h2 := Nat.mul_le_mul_left 72057594037927936 h
  omega
theorem be_next (U j d : Nat) (hj : j < 8) (hd : U / 256 ^ (7 - j) % 256 = d) : U / 256 ^ (8 - j) * 256 + d = U / 256 ^ (8 - (j + 1)) := by
  have e : 8 - j = (7 - j) + 1 := by omega
  have e2 : 8 - (j + 1) = 7 - j := by omega
  rw [e, e2, Nat.pow_succ, ← Nat.div_div_eq_div_mul, ← hd]
  omega
set_option maxRecDepth 100000 in
theorem parseInt_any (ao : Option Addr) (n cap : Nat) (U : Nat) (hU : U < 18446744073709551616) (r : List UInt8) (w : World) (h : IsB w ao n cap (be 8 U ++ r)) :
    Calls Try.prog 49 #[.slice ao n cap] w fun e w' => e = .returned (.tuple #[.int .i64 ((U : Int) - 9223372036854775808), .int .i64 8, .int .i64 0]) ∧ Below w.heap.size w w' := by
  have hl := h.len
  have hn : 8 ≤ n := by rw [← hl, List.length_append, be_length]; omega
  have hn2 : ¬ ((n : Int) < 8) := by omega
  have hle := h.le
  obtain ⟨b, off, rfl, hc⟩ := IsB_open h (by omega)
  have hs8 := headB_run b off n cap 8
  have hs := fun w => hs8 w hn hle
  clear hs8
  go_enter Try.func49, Try.ntmps49
  go_wp2_with fail
  clear hs hn2
  go_loopw [5, 14] (fun u i wr => ∃ j q : Nat, j ≤ 8 ∧ i = .int .i64 (j : Nat) ∧ Hid (q = U / 256 ^ (8 - j)) ∧ u = .int .u64 (q : Nat) ∧ Below w.heap.size w wr) (fun _ i _ => 8 - (intOf i).toNat)
  case atStart => exact ⟨0, 0, by omega, rfl, by unfold Hid; rw [Nat.div_eq_of_lt (by simpa using hU)], rfl, Below.refl _ _⟩
  case round =>
    obtain ⟨j, q, hj, rfl, hq, rfl, hB⟩ := hrel
    by_cases hlt : j < 8
    · have hj1 : (j : Int) < 8 := by omega
      have cc := hc j (by omega)
      have eg : (be 8 U ++ r).getD j 0 = UInt8.ofNat (U / 256 ^ (7 - j) % 256) := by
        rw [List.getD, List.getElem?_append_left (by rw [be_length]; exact hlt), be_get 8 U j hlt]
        rfl
      rw [eg, ofNat_toNat (Nat.mod_lt _ (by omega))] at cc
      rw [← hB.cell (World.block_lt_of_cell? w _ cc)] at cc
      obtain ⟨d, hd⟩ : ∃ d, U / 256 ^ (7 - j) % 256 = d := ⟨_, rfl⟩
      rw [hd] at cc
      have hd2 := Lib.hid hd
      have hdlt : d < 256 := by rw [← hd]; exact Nat.mod_lt _ (by omega)
      clear hc eg hd
      have ho := or_be q d (by rw [hq.out]; exact be_small U j hU hlt) hdlt
      go_wp2_with fail
      go_roundw
      case rel => exact ⟨j + 1, q * 256 + d, by omega, by go_num, by rw [hq.out]; exact be_next U j d hlt hd2.out, congrArg (Value.int .u64) (by omega), hB⟩
      case measure => simp [intOf]; omega
    · have hj1 : ¬ ((j : Int) < 8) := by omega
      obtain rfl : j = 8 := by omega
      have e : q = U := by rw [hq.out]; simp
      subst e
      have hw : wrap64 (IntKind.u64.wrap ((q : Int) - 9223372036854775808)) = (q : Int) - 9223372036854775808 := by rw [u64_wrap]; unfold XU wrap64; omega
      go_wp2_with fail
      go_ret3
      exact ⟨by simp only [hw]; rfl, hB⟩
/-- Bytes as elements. -/
def EB : Enc UInt8 := ⟨1, fun u => [bc u], fun _ => rfl, fun x u hu => by
  obtain rfl := List.mem_singleton.1 hu
  rfl⟩
theorem EB_all (l : List UInt8) : EB.all l = bcs l := by
  induction l with
  | nil => rfl
  | cons u l ih => rw [Enc.all_cons, ih]; rfl
theorem rowTyB : RowTy EB Try.prog 24 5 0 := by
  obtain ⟨i, h1, h2, h3, h4⟩ := (byteTy : ByteTy Try.prog 24 5).info
  exact ⟨byteTy.ht, i, .int .u8 0, h1, h2, h3, rfl, by omega⟩
theorem own_of_EB {w : World} {e : TypeId} {g n cap : Nat} {l : List UInt8} (h : OwnR EB w e g n cap l) : OwnB w e g n cap l := by
  obtain ⟨cur, h1, h2, h3⟩ := h.row
  have e1 : EB.sz = 1 := rfl
  rw [e1, Nat.mul_one] at h2 h3
  exact ⟨h.len, h.le, h.max, cur, h1, h2, by rw [h3, EB_all]⟩
/-- BYTES OF THE CALL's OWN, OR NIL. -/
structure Txt (w : World) (B : Nat) (ao : Option Addr) (n c : Nat) (l : List UInt8) : Prop where
  either : (ao = none ∧ n = 0 ∧ c = 0 ∧ l = []) ∨ ∃ g, ao = some ⟨g, 0, none⟩ ∧ OwnB w 5 g n c l ∧ B ≤ g
theorem Txt.nil (w : World) (B : Nat) : Txt w B none 0 0 [] := ⟨.inl ⟨rfl, rfl, rfl, rfl⟩⟩
theorem Txt.isB {w : World} {B : Nat} {ao : Option Addr} {n c : Nat} {l : List UInt8} (h : Txt w B ao n c l) : IsB w ao n c l := by
  rcases h.either with ⟨rfl, rfl, rfl, rfl⟩ | ⟨g, rfl, o, _⟩
  · exact IsB.nilB w
  · exact o.isB
theorem Txt.past {w w' : World} {B : Nat} {ao : Option Addr} {n c : Nat} {l : List UInt8} (h : Txt w B ao n c l) (b : Below w.heap.size w w') : Txt w' B ao n c l := by
  rcases h.either with h | ⟨g, rfl, o, hg⟩
  · exact ⟨.inl h⟩
  · exact ⟨.inr ⟨g, rfl, o.below b o.lt, hg⟩⟩
theorem wpList_append_txt {w : World} {ops : Array Oper} {rest : List Oper} {o : Oper} {a : Act} {Q : Exit → Act → World → Prop} (hgd : o.guard = none) (s x : Operand) (t tx : TypeId)
    (ho : o.op = .call { callee := .builtin .append, args := #[s, x], argTypes := #[t, tx] }) (htt : t = 24) (B : Nat) (ao : Option Addr) (n c : Nat) (l : List UInt8) (hsv : a.eval s = .slice ao n c) (h : Txt w B ao n c l) (hB : B ≤ w.heap.size)
    (X : Value) (hx : a.eval x = X) (m : Nat) (cs : List UInt8) (hs : Src Try.prog 1 tx X m (bcs cs) w) (hcl : cs.length = m) (hpos : 0 < m) (N : Nat) (hN : n + m = N) (L : List UInt8) (hL : l ++ cs = L) (hmax : N ≤ 1000000)
    (hK : ∀ g' c' w', OwnB w' 5 g' N c' L → Below B w w' → B ≤ g' → wpList Try.prog ops Q rest (a.put o.dst (.slice (some ⟨g', 0, none⟩) N c')) w') :
    wpList Try.prog ops Q (o :: rest) a w := by
  subst htt
  rcases h.either with ⟨rfl, rfl, rfl, rfl⟩ | ⟨g, rfl, ow, hg⟩
  · obtain rfl : m = N := by omega
    obtain rfl : cs = L := by simpa using hL
    exact wpList_append_nr hgd s x _ tx ho 5 rowTyB 0 rfl hsv X hx m cs (by rw [EB_all]; exact hs) hcl hpos hmax fun g' c' w' o' b' q' => hK g' c' w' (own_of_EB o') (b'.mono hB) (Nat.le_trans hB q')
  · exact wpList_append_ob hgd s x _ tx ho 5 byteTy g n c l hsv ow X hx m cs hs N hN L hL (by omega) fun g' c' w' o' p' q' => hK g' c' w' o' (p'.below hg hB) (by rcases q' with rfl | q'; exact hg; exact Nat.le_trans hB q')
set_option maxRecDepth 100000 in
theorem textAtEnd_any (ao : Option Addr) (n c : Nat) (l : List UInt8) (k : Int) (w : World) (h : IsB w ao n c l) (hn : n ≤ 60) :
    Calls Try.prog 62 #[.slice ao n c, .int .i64 k] w fun e w' => e = .returned (.tuple #[.string ⟨l.toArray⟩, .int .i64 k, .int .i64 0]) ∧ Below w.heap.size w w' := by
  have cv := h.conv byteTy Try.underlying9
  have hn2 : ¬ (60 < (n : Int)) := by omega
  go_enter Try.func62, Try.ntmps62
  go_wp2_with fail
  go_ret3
  exact ⟨rfl, Below.refl _ _⟩
theorem esc_at (t r : List UInt8) (j : Nat) : esc t ++ 0 :: 1 :: r = esc (t.take j) ++ (esc (t.drop j) ++ 0 :: 1 :: r) := by
  rw [← List.append_assoc, ← esc_append, List.take_append_drop]
theorem getD_behind (a b : List UInt8) (m k : Nat) (h : a.length = m) : (a ++ b).getD (m + k) 0 = b.getD k 0 := by
  subst h
  rw [List.getD, List.getD, List.getElem?_append_right (by omega), Nat.add_sub_cancel_left]
set_option maxRecDepth 100000 in
set_option maxHeartbeats 2000000 in
theorem parseText_any (ao : Option Addr) (n cap : Nat) (t r : List UInt8) (ht : t.length ≤ 60) (w : World) (h : IsB w ao n cap (esc t ++ 0 :: 1 :: r)) (hn : n ≤ 1000000) :
    Calls Try.prog 50 #[.slice ao n cap] w fun e w' => e = .returned (.tuple #[.string ⟨t.toArray⟩, .int .i64 ((esc t).length + 2 : Nat), .int .i64 0]) ∧ Below w.heap.size w w' := by
  have hl := h.len
  obtain ⟨b, off, rfl, hc⟩ := IsB_open h (by rw [← hl]; simp; omega)
  obtain ⟨M, hM⟩ : ∃ M, (esc t).length = M := ⟨_, rfl⟩
  rw [hM]
  have hM' := Lib.hid hM
  have hnM : M + 2 ≤ n := by rw [← hl, List.length_append, hM]; simp
  clear hM hl
  go_enter Try.func50, Try.ntmps50
  go_wp2_with fail
  go_loopw [5, 6] (fun v i wr => ∃ (j m : Nat) (ao' : Option Addr) (c' : Nat), j ≤ t.length ∧ i = .int .i64 (m : Nat) ∧ Hid (m = (esc (t.take j)).length) ∧ v = .slice ao' j c' ∧ Txt wr w.heap.size ao' j c' (t.take j) ∧ Below w.heap.size w wr) (fun _ i _ => n - (intOf i).toNat)
  case atStart => exact ⟨0, 0, none, 0, by omega, rfl, rfl, rfl, Txt.nil _ _, Below.refl _ _⟩
  case round =>
    obtain ⟨j, m, ao', c', hj, rfl, hm, rfl, hT, hB⟩ := hrel
    have at_ : ∀ (k : Nat) (x : UInt8), m + k < n → (esc (t.drop j) ++ 0 :: 1 :: r).getD k 0 = x → wr.cell? ⟨b, off + (m + k), none⟩ = some (.int .u8 (x.toNat : Int)) := fun k x hk hx => by
      have e := hc (m + k) hk
      rw [esc_at t r j, getD_behind _ _ m k hm.out.symm, hx] at e
      rw [hB.cell (World.block_lt_of_cell? w _ e)]
      exact e
    have hmM : m ≤ M ∧ (j < t.length → m < M) := by
      rw [hm.out, ← hM'.out]
      have e := esc_append (t.take j) (t.drop j)
      rw [List.take_append_drop] at e
      have l1 := esc_length (t.drop j)
      have l2 := congrArg List.length e
      rw [List.length_append] at l2
      rw [List.length_drop] at l1
      omega
    have hs0 := hB.size
    have hm1 : (m : Int) + 1 < n := by omega
    clear hc
    by_cases hlt : j < t.length
    · obtain ⟨x, hx⟩ : ∃ x, t[j]? = some x := ⟨t[j], List.getElem?_eq_getElem hlt⟩
      have hd : t.drop j = x :: t.drop (j + 1) := by
        obtain ⟨h1, h2⟩ := List.getElem?_eq_some_iff.1 hx
        rw [List.drop_eq_getElem_cons h1, h2]
      have HT : t.take (j + 1) = t.take j ++ [x] := by rw [List.take_add_one, hx]; rfl
      have HE : esc (t.take (j + 1)) = esc (t.take j) ++ esc [x] := by rw [HT, esc_append]
      have HT' := Lib.hid HT.symm
      have hm2 := hmM.2 hlt
      have hj60 : (j : Int) ≤ 60 := by omega
      by_cases h0 : x = 0
      · subst h0
        have c0 := at_ 0 0 (by omega) (by rw [hd, esc, if_pos rfl]; rfl)
        have c1 := at_ 1 255 (by omega) (by rw [hd, esc, if_pos rfl]; rfl)
        have HM : Hid (m + 2 = (esc (t.take (j + 1))).length) := by unfold Hid; rw [HE, List.length_append, ← hm.out]; rfl
        have hm3 : (m : Int) + 1 < n := by omega
        clear at_ hd HT HE hx
        rw [Nat.add_zero] at c0
        go_wp2_with (at_builtin; refine wpList_append_txt rfl _ _ 24 24 rfl rfl w.heap.size ao' j c' (t.take j) rfl (hT.past ((Below.refl _ _).alloc (Nat.le_refl _) _)) (by simp; omega) _ rfl 1 [0] (src_one byteTy.ht _ _ _ rfl) rfl (by omega) (j + 1) rfl (t.take (j + 1)) HT'.out (by omega) ?_; intro g2 c2 w2 o2 b2 q2)
        go_roundw
        case rel => exact ⟨j + 1, m + 2, _, c2, by omega, by go_num, HM, rfl, ⟨.inr ⟨g2, rfl, o2, q2⟩⟩, (hB.alloc hs0 _).trans b2⟩
        case measure => simp [intOf]; omega
      · have c0 := at_ 0 x (by omega) (by rw [hd, esc, if_neg h0]; rfl)
        have HM : Hid (m + 1 = (esc (t.take (j + 1))).length) := by unfold Hid; rw [HE, List.length_append, ← hm.out, esc, if_neg h0]; rfl
        have h1 : ((x.toNat : Int) == 0) = false := by
          simp
          intro e
          exact h0 (UInt8.toNat_inj.1 (by simpa using e))
        have h2 : ¬ (x.toNat : Int) = 0 := by simpa using h1
        clear at_ hd HT HE hx h0
        rw [Nat.add_zero] at c0
        go_wp2_with (at_builtin; refine wpList_append_txt rfl _ _ 24 24 rfl rfl w.heap.size ao' j c' (t.take j) rfl (hT.past ((Below.refl _ _).alloc (Nat.le_refl _) _)) (by simp; omega) _ rfl 1 [x] (src_one byteTy.ht _ _ _ rfl) rfl (by omega) (j + 1) rfl (t.take (j + 1)) HT'.out (by omega) ?_; intro g2 c2 w2 o2 b2 q2)
        go_roundw
        case rel => exact ⟨j + 1, m + 1, _, c2, by omega, by go_num, HM, rfl, ⟨.inr ⟨g2, rfl, o2, q2⟩⟩, (hB.alloc hs0 _).trans b2⟩
        case measure => simp [intOf]; omega
    · obtain rfl : j = t.length := by omega
      rw [List.drop_eq_nil_of_le (Nat.le_refl _)] at at_
      rw [List.take_of_length_le (Nat.le_refl _)] at hT hm
      obtain rfl : m = M := hm.out.trans hM'.out
      have c0 := at_ 0 0 (by omega) rfl
      have c1 := at_ 1 1 (by omega) rfl
      rw [Nat.add_zero] at c0
      clear at_
      go_wp2_with (go_at_call 62; (with_reducible refine (textAtEnd_any _ _ _ _ _ _ hT.isB ht).mono ?_); rintro e w2 ⟨rfl, b2⟩)
      go_ret3
      exact ⟨by first | rfl | (congr 1; omega), hB.trans (b2.mono hs0)⟩
theorem cell_past {w w' : World} {p : Addr} {v : Value} (h : w.cell? p = some v) (b : Below w.heap.size w w') : w'.cell? p = some v := by
  rw [b.cell (World.block_lt_of_cell? w _ h)]
  exact h
theorem VAt.set1 {w : World} {g : Nat} {k n : Int} {s : ByteArray} (h : VAt w g k n s) (n' : Int) : VAt (w.setCell ⟨g, 1, none⟩ (.int .i64 n')) g k n' s := by
  obtain ⟨c0, c1, c2, f0, f1, f2, lt⟩ := h
  exact ⟨by go_simp, by go_simp, by go_simp, by go_simp, by go_simp, by go_simp, by simp [lt]⟩
theorem VAt.set2 {w : World} {g : Nat} {k n : Int} {s : ByteArray} (h : VAt w g k n s) (s' : ByteArray) : VAt (w.setCell ⟨g, 2, none⟩ (.string s')) g k n s' := by
  obtain ⟨c0, c1, c2, f0, f1, f2, lt⟩ := h
  exact ⟨by go_simp, by go_simp, by go_simp, by go_simp, by go_simp, by go_simp, by simp [lt]⟩
set_option maxRecDepth 100000 in
set_option maxHeartbeats 2000000 in
/-- What was written of a valid value is read, with anything behind. -/
theorem keyParse_any (v : V) (hv : Vok v) (ao : Option Addr) (n cap : Nat) (r : List UInt8) (w : World) (h : IsB w ao n cap (keyB v ++ r)) (hn : n ≤ 1000000) :
    Calls Try.prog 24 #[.slice ao n cap] w fun e w' => e = .returned (.tuple #[v.val, .int .i64 ((keyB v).length : Nat), .int .i64 0]) ∧ Below w.heap.size w w' := by
  have hl := h.len
  have hk := key_len v hv
  have hn1 : 0 < n := by rw [← hl, List.length_append]; omega
  have hn2 : ¬ ((n : Int) = 0) := by omega
  have hn3 : ((n : Int) == 0) = false := by simpa using hn2
  have hle := h.le
  obtain ⟨b, off, rfl, hc⟩ := IsB_open h hn1
  have hI := IsB_drop h (m := 1) (by omega)
  simp only [Option.map_some, Addr.add_lit] at hI
  cases hv with
  | none =>
    have hc0 := cell_past (hc 0 hn1) ((Below.refl _ w).alloc (Nat.le_refl _) (.cells #[.int .i64 0, .int .i64 0, .string ⟨#[]⟩] 39))
    have t1 := VAt.new w 0 0 ⟨#[]⟩
    have B1 := (Below.refl w.heap.size w).alloc (Nat.le_refl _) (.cells #[.int .i64 0, .int .i64 0, .string ⟨#[]⟩] 39)
    have hI2 := hI.past B1
    clear hc hI
    obtain ⟨z0, z1, z2, y0, y1, y2, -⟩ := id t1
    replace hc0 : (w.alloc (.cells #[.int .i64 0, .int .i64 0, .string ⟨#[]⟩] 39)).cell? ⟨b, off, none⟩ = some (.int .u8 0) := hc0
    show Calls Try.prog 24 _ w fun e w' => e = .returned (.tuple #[vv 0 0 ByteArray.empty, .int .i64 1, .int .i64 0]) ∧ Below w.heap.size w w'
    go_enter Try.func24, Try.ntmps24
    go_wp2_with fail
    refine bodyPost_ret (v := .tuple #[vv 0 0 ByteArray.empty, .int .i64 1, .int .i64 0]) (by simp [results, Try.results24, go_sem]; rfl) rfl ⟨rfl, ?_⟩
    exact B1
  | bool x hx =>
    have hc0 := cell_past (hc 0 hn1) ((Below.refl _ w).alloc (Nat.le_refl _) (.cells #[.int .i64 0, .int .i64 0, .string ⟨#[]⟩] 39))
    have t1 := VAt.new w 1 0 ⟨#[]⟩
    have B1 := (Below.refl w.heap.size w).alloc (Nat.le_refl _) (.cells #[.int .i64 1, .int .i64 0, .string ⟨#[]⟩] 39)
    have hI2 := hI.past B1
    clear hc hI
    obtain ⟨z0, z1, z2, y0, y1, y2, -⟩ := id t1
    replace hc0 : (w.alloc (.cells #[.int .i64 0, .int .i64 0, .string ⟨#[]⟩] 39)).cell? ⟨b, off, none⟩ = some (.int .u8 1) := hc0
    have hk2 : 2 ≤ n := by rw [← hl, List.length_append]; show 2 ≤ 2 + _; omega
    have HP := fun w' h' => parseBool_any (some ⟨b, off + 1, none⟩) (n - 1) (cap - 1) (UInt8.ofNat x.toNat) r (by rcases hx with rfl | rfl <;> decide) w' h'
    have ex : ((UInt8.ofNat x.toNat).toNat : Int) = x := by rcases hx with rfl | rfl <;> rfl
    rw [ex] at HP
    have hcap : ¬ (cap = 1) := by omega
    have hcap2 : ¬ (1 = cap) := by omega
    show Calls Try.prog 24 _ w fun e w' => e = .returned (.tuple #[vv 1 x ByteArray.empty, .int .i64 2, .int .i64 0]) ∧ Below w.heap.size w w'
    go_enter Try.func24, Try.ntmps24
    go_wp2_with (go_at_call 48; (with_reducible refine (HP _ hI2).mono ?_); rintro e w2 ⟨rfl, b2⟩; obtain ⟨u0, u1, u2, v0, v1, v2, -⟩ := t1.past b2)
    have B2 := B1.trans (b2.mono B1.size)
    obtain ⟨q0, q1, q2, -, -, -, -⟩ := ((t1.past b2).set1 x).set 1 x ⟨#[]⟩
    refine bodyPost_ret (v := .tuple #[vv 1 x ByteArray.empty, .int .i64 2, .int .i64 0]) (by simp [results, Try.results24, go_sem, q0, q1, q2]; try rfl) rfl ⟨rfl, ?_⟩
    exact ((((B2.setCell (p := ⟨w.heap.size, 1, none⟩) (Nat.le_refl _) _).setCell (p := ⟨w.heap.size, 0, none⟩) (Nat.le_refl _) _).setCell (p := ⟨w.heap.size, 1, none⟩) (Nat.le_refl _) _).setCell (p := ⟨w.heap.size, 2, none⟩) (Nat.le_refl _) _)
  | int x hx =>
    have hc0 := cell_past (hc 0 hn1) ((Below.refl _ w).alloc (Nat.le_refl _) (.cells #[.int .i64 0, .int .i64 0, .string ⟨#[]⟩] 39))
    have t1 := VAt.new w 2 0 ⟨#[]⟩
    have B1 := (Below.refl w.heap.size w).alloc (Nat.le_refl _) (.cells #[.int .i64 2, .int .i64 0, .string ⟨#[]⟩] 39)
    have hI2 := hI.past B1
    clear hc hI
    obtain ⟨z0, z1, z2, y0, y1, y2, -⟩ := id t1
    replace hc0 : (w.alloc (.cells #[.int .i64 0, .int .i64 0, .string ⟨#[]⟩] 39)).cell? ⟨b, off, none⟩ = some (.int .u8 2) := hc0
    obtain ⟨U, hU⟩ : ∃ U : Nat, x + 9223372036854775808 = (U : Int) := ⟨(x + 9223372036854775808).toNat, by omega⟩
    have ex : (U : Int) - 9223372036854775808 = x := by omega
    have eK : keyB ⟨2, x, ByteArray.empty⟩ = 2 :: be 8 U := by
      show 2 :: be 8 (x + 9223372036854775808).toNat = _
      rw [hU, Int.toNat_natCast]
    rw [eK] at hI2 hl
    rw [eK, List.length_cons, be_length]
    have hk2 : 9 ≤ n := by rw [← hl, List.length_append, List.length_cons, be_length]; omega
    have HP := fun w' h' => parseInt_any (some ⟨b, off + 1, none⟩) (n - 1) (cap - 1) U (by omega) r w' h'
    rw [ex] at HP
    replace hI2 : IsB _ (some ⟨b, off + 1, none⟩) (n - 1) (cap - 1) (be 8 U ++ r) := hI2
    have hcap : ¬ (cap = 1) := by omega
    have hcap2 : ¬ (1 = cap) := by omega
    show Calls Try.prog 24 _ w fun e w' => e = .returned (.tuple #[vv 2 x ByteArray.empty, .int .i64 9, .int .i64 0]) ∧ Below w.heap.size w w'
    go_enter Try.func24, Try.ntmps24
    go_wp2_with (go_at_call 49; (with_reducible refine (HP _ hI2).mono ?_); rintro e w2 ⟨rfl, b2⟩; obtain ⟨u0, u1, u2, v0, v1, v2, -⟩ := t1.past b2)
    have B2 := B1.trans (b2.mono B1.size)
    obtain ⟨q0, q1, q2, -, -, -, -⟩ := ((t1.past b2).set1 x).set 2 x ⟨#[]⟩
    refine bodyPost_ret (v := .tuple #[vv 2 x ByteArray.empty, .int .i64 9, .int .i64 0]) (by simp [results, Try.results24, go_sem, q0, q1, q2]; try rfl) rfl ⟨rfl, ?_⟩
    exact ((((B2.setCell (p := ⟨w.heap.size, 1, none⟩) (Nat.le_refl _) _).setCell (p := ⟨w.heap.size, 0, none⟩) (Nat.le_refl _) _).setCell (p := ⟨w.heap.size, 1, none⟩) (Nat.le_refl _) _).setCell (p := ⟨w.heap.size, 2, none⟩) (Nat.le_refl _) _)
  | text s hs =>
    have hc0 := cell_past (hc 0 hn1) ((Below.refl _ w).alloc (Nat.le_refl _) (.cells #[.int .i64 0, .int .i64 0, .string ⟨#[]⟩] 39))
    have t1 := VAt.new w 3 0 ⟨#[]⟩
    have B1 := (Below.refl w.heap.size w).alloc (Nat.le_refl _) (.cells #[.int .i64 3, .int .i64 0, .string ⟨#[]⟩] 39)
    have hI2 := hI.past B1
    clear hc hI
    obtain ⟨z0, z1, z2, y0, y1, y2, -⟩ := id t1
    replace hc0 : (w.alloc (.cells #[.int .i64 0, .int .i64 0, .string ⟨#[]⟩] 39)).cell? ⟨b, off, none⟩ = some (.int .u8 3) := hc0
    have eK : keyB ⟨3, 0, s⟩ = 3 :: (esc s.toList ++ [0, 1]) := rfl
    have eL : (keyB ⟨3, 0, s⟩).length = 1 + ((esc s.toList).length + 2) := by rw [eK, List.length_cons, List.length_append]; show _ + 2 + 1 = _; omega
    rw [eK] at hI2 hl
    rw [eL]
    have hk2 : 3 ≤ n := by rw [← hl, List.length_append, List.length_cons, List.length_append]; show 3 ≤ _ + 2 + 1 + _; omega
    have ts : s.toList.length ≤ 60 := by rw [toList_len]; exact hs
    replace hI2 : IsB (w.alloc (.cells #[.int .i64 3, .int .i64 0, .string ⟨#[]⟩] 39)) (some ⟨b, off + 1, none⟩) (n - 1) (cap - 1) (esc s.toList ++ 0 :: 1 :: r) := by
      have e : (3 :: (esc s.toList ++ [0, 1]) ++ r).drop 1 = esc s.toList ++ 0 :: 1 :: r := by
        rw [List.cons_append, List.drop_succ_cons, List.drop_zero, List.append_assoc]
        rfl
      rw [← e]
      exact hI2
    have HP := fun w' h' => parseText_any (some ⟨b, off + 1, none⟩) (n - 1) (cap - 1) s.toList r ts w' h' (by omega)
    have es : (⟨s.toList.toArray⟩ : ByteArray) = s := by
      apply ByteArray.ext
      rw [ByteArray.toList_eq]
    rw [es] at HP
    obtain ⟨M, hM⟩ : ∃ M, (esc s.toList).length + 2 = M := ⟨_, rfl⟩
    have hM2 : M ≤ 200 := by have := esc_length s.toList; omega
    rw [hM] at HP ⊢
    clear hM eK eL hk
    have hcap : ¬ (cap = 1) := by omega
    have hcap2 : ¬ (1 = cap) := by omega
    show Calls Try.prog 24 _ w fun e w' => e = .returned (.tuple #[vv 3 0 s, .int .i64 (1 + M : Nat), .int .i64 0]) ∧ Below w.heap.size w w'
    go_enter Try.func24, Try.ntmps24
    go_wp2_with (go_at_call 50; (with_reducible refine (HP _ hI2).mono ?_); rintro e w2 ⟨rfl, b2⟩; obtain ⟨u0, u1, u2, v0, v1, v2, -⟩ := t1.past b2)
    have B2 := B1.trans (b2.mono B1.size)
    obtain ⟨q0, q1, q2, -, -, -, -⟩ := ((t1.past b2).set2 s).set 3 0 s
    refine bodyPost_ret (v := .tuple #[vv 3 0 s, .int .i64 (1 + M : Nat), .int .i64 0]) (by simp [results, Try.results24, go_sem, q0, q1, q2]; try rfl) rfl ⟨rfl, ?_⟩
    exact ((((B2.setCell (p := ⟨w.heap.size, 2, none⟩) (Nat.le_refl _) _).setCell (p := ⟨w.heap.size, 0, none⟩) (Nat.le_refl _) _).setCell (p := ⟨w.heap.size, 1, none⟩) (Nat.le_refl _) _).setCell (p := ⟨w.heap.size, 2, none⟩) (Nat.le_refl _) _)
end Go.Proofs.Ytpphlmbhonaglaa
