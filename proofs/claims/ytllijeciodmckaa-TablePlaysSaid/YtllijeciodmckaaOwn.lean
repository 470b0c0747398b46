/-
  table.own: the rows of all parts, in new memory.
-/
import Derived.Test.YtllijeciodmckaaConc
import Derived.Test.YtllijeciodmckaaCb
import Derived.Deep.CutRange
namespace Go.Proofs.Ytllijeciodmckaa
open Go.RowKit

theorem OwnR.setH {w : World} {e : TypeId} {g n cap : Nat} {l : List HdR} (h : OwnR EH w e g n cap l) (k : Nat) (x : HdR) : OwnR EH (w.setCell ⟨g, k, none⟩ x.v) e g n cap (l.set k x) := by
  obtain ⟨cur, h1, h2, h3⟩ := h.row
  refine ⟨by rw [List.length_set]; exact h.len, h.le, h.max, cur.setIfInBounds k x.v, Go.Proofs.Ytllijeciodmckaa.heap_setCell_same h1, by simpa using h2, ?_⟩
  rw [Array.toList_setIfInBounds, List.take_set, h3]
  have key : ∀ (l : List HdR) (k : Nat), (EH.all l).set k x.v = EH.all (l.set k x) := fun l => by
    induction l with
    | nil => intro k; rfl
    | cons y l ih =>
      intro k
      cases k with
      | zero => rfl
      | succ k => rw [List.set_cons_succ, EH.all_cons, EH.all_cons, ← ih k]; rfl
  exact key l k
theorem OwnR.freeR {α : Type} {E : Enc α} {w : World} {e : TypeId} {g n cap : Nat} {l : List α} (h : OwnR E w e g n cap l) (i : Nat) : w.frozen? ⟨g, i, none⟩ = false := by
  obtain ⟨cur, h1, _⟩ := h.row
  exact free_blk h1
/-- A row's part of the rows' values. -/
theorem flat_part {α : Type} : ∀ (ls : List (List α)) (j : Nat) (l : List α), ls[j]? = some l → (ls.flatten.drop (ls.take j).flatten.length).take l.length = l
  | [], j, l, h => by simp at h
  | x :: ls, 0, l, h => by
    obtain rfl : x = l := by simpa using h
    simp
  | x :: ls, j + 1, l, h => by
    have := flat_part ls j l (by simpa using h)
    rw [List.take_succ_cons, List.flatten_cons, List.flatten_cons, List.length_append, List.drop_append, List.drop_of_length_le (by omega), List.nil_append, Nat.add_sub_cancel_left]
    exact this
theorem flat_le {α : Type} (ls : List (List α)) (j : Nat) : (ls.take j).flatten.length ≤ ls.flatten.length := by
  conv => rhs; rw [← List.take_append_drop j ls, List.flatten_append, List.length_append]
  exact Nat.le_add_right _ _
theorem flat_next {α : Type} (ls : List (List α)) (j : Nat) (l : List α) (h : ls[j]? = some l) : (ls.take (j + 1)).flatten.length = (ls.take j).flatten.length + l.length := by
  obtain ⟨hj, rfl⟩ := List.getElem?_eq_some_iff.1 h
  rw [List.take_succ_eq_append_getElem hj, List.flatten_append, List.length_append]
  simp
theorem set_mid {α : Type} (a b : List α) (y x : α) : (a ++ y :: b).set a.length x = a ++ [x] ++ b := by
  induction a with
  | nil => rfl
  | cons z a ih => simp
/-- As IsRR; and what the rows lie in may be written. -/
def IsRRf {α : Type} (E : Enc α) (w : World) (B : Nat) (ao : Option Addr) (n c : Nat) (ls : List (List α)) : Prop :=
  ∃ hs, IsR EH w ao n c hs ∧ Rd E w hs ls ∧ Frm B ao ∧ FrmH B hs ∧ ∀ x ∈ hs, ∀ a, x.a = some a → ∀ i, w.frozen? ⟨a.block, i, none⟩ = false
theorem IsRRf.rr {α : Type} {E : Enc α} {w : World} {B : Nat} {ao : Option Addr} {n c : Nat} {ls : List (List α)} (h : IsRRf E w B ao n c ls) : IsRR E w B ao n c ls := by
  obtain ⟨hs, h1, h2, h3, h4, -⟩ := h
  exact ⟨hs, h1, h2, h3, h4⟩
set_option maxRecDepth 100000 in
set_option maxHeartbeats 2000000 in
theorem own_anyF (w : World) (B : Nat) (ao : Option Addr) (k c : Nat) (ps : List (List HdR)) (h : IsRR EH w B ao k c ps) (hk : k ≤ 10) (ls : List (List V)) (hR : Rd EV w ps.flatten ls) (N : Nat) (hN : ls.length = N) (hN2 : N ≤ 1000) (hM : ls.flatten.length ≤ 100000) :
    Calls Try.prog 91 #[.slice ao k c] w fun e w' => ∃ ao' c', e = .returned (.slice ao' N c') ∧ IsRRf EV w' w.heap.size ao' N c' ls ∧ Below w.heap.size w w' := by
  have hpl : ps.flatten.length = N := by rw [hR.1, hN]
  have HC := concat_h w B ao k c ps h (by omega) N hpl (by omega)
  obtain ⟨M, hMe⟩ : ∃ M, ls.flatten.length = M := ⟨_, rfl⟩
  rw [hMe] at hM
  obtain ⟨hs, hhs⟩ : ∃ hs, ps.flatten = hs := ⟨_, rfl⟩
  rw [hhs] at HC hR hpl
  go_enter Try.func91, Try.ntmps91
  go_upto_region 2 with (go_at_call 142; refine HC.mono ?_; rintro en w1 ⟨a1, c1, rfl, o1, b1⟩)
  have HV := concat_v w1 0 a1 N c1 ls ⟨hs, o1.isR, hR.past b1, (fun _ _ => Nat.zero_le _ : Frm 0 a1), (fun _ _ _ _ => Nat.zero_le _ : FrmH 0 hs)⟩ hN2 M hMe (by omega)
  go_upto_region 3 with (go_at_call 143; refine HV.mono ?_; rintro en w2 ⟨a2, c2, rfl, o2, b2⟩)
  have o12 := o1.past b2
  have hR2 := (hR.past b1).past b2
  have B2 := b1.trans (b2.mono b1.size)
  have i2 := o2.isR
  have hs1 := b1.size
  have F2 : ∀ a, a2 = some a → w1.heap.size ≤ a.block := fun a ha => by
    rcases o2.either with ⟨rfl, _⟩ | ⟨g, rfl, _, hg⟩
    · cases ha
    · obtain rfl := Option.some.inj ha
      exact hg
  have F1 : ∀ z, blk a1 = some z → z < w1.heap.size := o1.lt
  have Z2 : ∀ a, a2 = some a → a.block < w2.heap.size ∧ ∀ i, w2.frozen? ⟨a.block, i, none⟩ = false := fun a ha => by
    rcases o2.either with ⟨rfl, _⟩ | ⟨g, rfl, og, hg⟩
    · cases ha
    · obtain rfl := Option.some.inj ha
      exact ⟨og.lt, fun i => og.freeR i⟩
  have HZ2 := Lib.hid Z2
  clear Z2
  have HF2 := Lib.hid F2
  have HF1 := Lib.hid F1
  clear F2 F1 HC HV o1 o2 hR
  go_wp2_with fail
  go_loopw [5, 15] (fun q i wr => ∃ (j t : Nat) (fr : List HdR), j ≤ N ∧ i = .int .i64 (j : Nat) ∧ q = .int .i64 (t : Nat) ∧ Hid (t = (ls.take j).flatten.length) ∧ fr.length = j ∧ TxtR EH wr 49 w.heap.size a1 N c1 (fr ++ hs.drop j) ∧ Rd EV w2 fr (ls.take j) ∧ FrmH w1.heap.size fr ∧ Hid (∀ x ∈ fr, ∀ a, x.a = some a → ∃ z, a2 = some z ∧ z.block = a.block) ∧ w2.grownBy wr (blk a1)) (fun _ i _ => N - (intOf i).toNat)
  case atStart => exact ⟨0, 0, [], Nat.zero_le _, rfl, rfl, rfl, rfl, by simpa using o12, by simpa using Rd.nil, (fun x hx => by cases hx), (fun x hx => by cases hx), ⟨rfl, rfl, rfl, Nat.le_refl _, fun _ _ _ => rfl⟩⟩
  case round =>
    obtain ⟨j, t, fr, hj, rfl, rfl, ht, hfl, oW, rdW, fmW, qW, gW⟩ := hrel
    by_cases hlt : j < N
    · have hlti : (j : Int) < (N : Int) := by omega
      obtain ⟨l, hl⟩ : ∃ l, ls[j]? = some l := ⟨ls[j]'(by omega), List.getElem?_eq_getElem _⟩
      obtain ⟨x, hx⟩ : ∃ x, hs[j]? = some x := ⟨hs[j]'(by omega), List.getElem?_eq_getElem _⟩
      have hxl := hR2.len hx hl
      have hdr : hs.drop j = x :: hs.drop (j + 1) := by
        obtain ⟨h1, rfl⟩ := List.getElem?_eq_some_iff.1 hx
        exact List.drop_eq_getElem_cons h1
      rcases oW.either with ⟨-, h0, -⟩ | ⟨g, rfl, ow, hg⟩
      · omega
      have hgx : (fr ++ hs.drop j)[j]? = some x := by rw [List.getElem?_append_right (by omega), hdr, hfl, Nat.sub_self]; rfl
      have hcx : wr.cell? ⟨g, j, none⟩ = some (.slice x.a x.n x.c) := ow.cell j _ (by rw [EH_get, hgx]; rfl)
      have hfz := ow.freeR j
      have h3 : IsR EV w2 (if x.n = 0 then a2 else Option.map (fun a => a.add (t * 3)) a2) x.n x.n ((ls.flatten.drop t).take x.n) := by
        have := i2.part t (t + x.n) (t + x.n) (Nat.le_add_right _ _) (by rw [ht.out, ← hxl, ← flat_next ls j l hl, ← hMe]; exact flat_le ls _) (Nat.le_refl _) (by have := i2.le; have : t + x.n ≤ M := (by rw [ht.out, ← hxl, ← flat_next ls j l hl, ← hMe]; exact flat_le ls _); omega)
        simpa [EV] using this
      have f3 : ∀ a, (if x.n = 0 then a2 else Option.map (fun a => a.add (t * 3)) a2) = some a → w1.heap.size ≤ a.block := fun a ha => by
        have := Frm_part HF2.out x.n 0 (t * 3) a
        exact this ha
      have hp : (ls.flatten.drop t).take x.n = l := by rw [ht.out, ← hxl]; exact flat_part ls j l hl
      rw [hp] at h3
      have HT : Hid (t + x.n = (ls.take (j + 1)).flatten.length) := by
        show _ = _
        rw [flat_next ls j l hl, ← ht.out, hxl]
      have ow2 : OwnR EH (wr.setCell ⟨g, j, none⟩ (.slice (if x.n = 0 then a2 else Option.map (fun a => a.add (t * 3)) a2) x.n x.n)) 49 g N c1 (fr ++ [⟨if x.n = 0 then a2 else Option.map (fun a => a.add (t * 3)) a2, x.n, x.n⟩] ++ hs.drop (j + 1)) := by
        have := ow.setH j ⟨if x.n = 0 then a2 else Option.map (fun a => a.add (t * 3)) a2, x.n, x.n⟩
        rw [hdr] at this
        subst hfl
        rw [set_mid] at this
        exact this
      have rd2 := rdW.append (Rd.one (x := ⟨if x.n = 0 then a2 else Option.map (fun a => a.add (t * 3)) a2, x.n, x.n⟩) h3)
      have hts : ls.take (j + 1) = ls.take j ++ [l] := by
        obtain ⟨h1, rfl⟩ := List.getElem?_eq_some_iff.1 hl
        exact List.take_succ_eq_append_getElem h1
      rw [← hts] at rd2
      have fm2 : FrmH w1.heap.size (fr ++ [⟨if x.n = 0 then a2 else Option.map (fun a => a.add (t * 3)) a2, x.n, x.n⟩]) := fun y hy => by
        rcases List.mem_append.1 hy with hy | hy
        · exact fmW y hy
        · obtain rfl := List.mem_singleton.1 hy
          exact f3
      have g2 : w2.grownBy (wr.setCell ⟨g, j, none⟩ (.slice (if x.n = 0 then a2 else Option.map (fun a => a.add (t * 3)) a2) x.n x.n)) (blk (some ⟨g, 0, none⟩)) :=
        ⟨gW.os, gW.tape, gW.output, by simpa using gW.size, fun b hb hne => (heap_setCell_other _ _ b _ (fun e => hne (by rw [e]; rfl))).trans (gW.block b hb hne)⟩
      have qm2 : ∀ y ∈ fr ++ [⟨if x.n = 0 then a2 else Option.map (fun a => a.add (t * 3)) a2, x.n, x.n⟩], ∀ a, y.a = some a → ∃ z, a2 = some z ∧ z.block = a.block := fun y hy => by
        rcases List.mem_append.1 hy with hy | hy
        · exact qW.out y hy
        · obtain rfl := List.mem_singleton.1 hy
          intro a ha
          simp only at ha
          split at ha
          · exact ⟨a, ha, rfl⟩
          · obtain ⟨z, hz, rfl⟩ := Option.map_eq_some_iff.1 ha
            exact ⟨z, hz, (add_block z _).symm⟩
      have QQ := Lib.hid qm2
      clear qm2
      have htn : (t : Int) + (x.n : Int) = ((t + x.n : Nat) : Int) := by omega
      have RR := Lib.hid rd2
      have FF := Lib.hid fm2
      have OO := Lib.hid ow2
      have GG := Lib.hid g2
      obtain ⟨xa, xn, xc⟩ := x
      simp only at hcx HT RR FF OO GG QQ
      have hcap : (t : Int) + (xn : Int) ≤ (c2 : Int) := by
        have h1 := i2.le
        have h2 := flat_le ls (j + 1)
        rw [← HT.out, hMe] at h2
        omega
      have htn2 : t + xn ≤ 100000 := by
        have := flat_le ls (j + 1)
        rw [← HT.out, hMe] at this
        omega
      clear rd2 fm2 ow2 g2 h3 f3 hl hx hxl hdr hp hts hgx htn ow
      go_wp2_with fail
      go_roundw
      case rel => exact ⟨j + 1, t + xn, fr ++ [⟨if xn = 0 then a2 else Option.map (fun a => a.add (t * 3)) a2, xn, xn⟩], by omega, by go_num, by go_num, HT.out, by rw [List.length_append, hfl]; rfl, ⟨.inr ⟨g, rfl, OO.out, hg⟩⟩, RR.out, FF.out, QQ, GG.out⟩
      case measure => simp [intOf]; omega
    · have hlti : ¬ ((j : Int) < (N : Int)) := by omega
      obtain rfl : j = N := by omega
      rw [List.drop_of_length_le (by omega), List.append_nil] at oW
      rw [List.take_of_length_le (by omega)] at rdW
      go_wp2_with fail
      go_ret
      have BW : Below w.heap.size w wr := by
        rcases oW.either with ⟨rfl, h0⟩ | ⟨g, rfl, ow, hg⟩
        · exact B2.grown gW B2.size (fun z hz => by cases hz)
        · exact B2.grown gW B2.size (fun z hz => by cases hz; exact hg)
      refine ⟨a1, c1, rfl, ⟨fr, oW.isR, ⟨rdW.1, fun i y l hy hl => (rdW.2 i y l hy hl).grown gW (fun a ha e => ?_)⟩, fun a ha => ?_, fmW.mono hs1, fun y hy a ha i => ?_⟩, BW⟩
      · have h1 := fmW y (List.mem_of_getElem? hy) a ha
        have h2 := HF1.out _ e.symm
        omega
      · rcases oW.either with ⟨rfl, _⟩ | ⟨g, rfl, _, hg⟩
        · cases ha
        · obtain rfl := Option.some.inj ha
          exact hg
      · obtain ⟨z, hz, hzb⟩ := qW.out y hy a ha
        obtain ⟨hz1, hz2⟩ := HZ2.out z hz
        rw [← hzb]
        have h1 := HF2.out z hz
        have hb : wr.heap[z.block]? = w2.heap[z.block]? := gW.block z.block hz1 (fun e => by have := HF1.out _ e.symm; omega)
        have := hz2 i
        unfold World.frozen? at this ⊢
        rw [hb]
        exact this
theorem own_any (w : World) (B : Nat) (ao : Option Addr) (k c : Nat) (ps : List (List HdR)) (h : IsRR EH w B ao k c ps) (hk : k ≤ 10) (ls : List (List V)) (hR : Rd EV w ps.flatten ls) (N : Nat) (hN : ls.length = N) (hN2 : N ≤ 1000) (hM : ls.flatten.length ≤ 100000) :
    Calls Try.prog 91 #[.slice ao k c] w fun e w' => ∃ ao' c', e = .returned (.slice ao' N c') ∧ IsRR EV w' w.heap.size ao' N c' ls ∧ Below w.heap.size w w' :=
  (own_anyF w B ao k c ps h hk ls hR N hN hN2 hM).mono fun _ _ ⟨a, c', h1, h2, h3⟩ => ⟨a, c', h1, h2.rr, h3⟩
end Go.Proofs.Ytllijeciodmckaa
