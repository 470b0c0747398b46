/-
  The laws' schemas and rows, plain: a row made to fit fits.
-/
import Derived.Test.YtllijeciodmckaaSFew
import Derived.Test.YtllijeciodmckaaFit
namespace Go.Proofs.Ytllijeciodmckaa
open Go.RowKit

theorem gAt_kind (cs : List Co) (i : Nat) : (gAt cs i).kind = 1 ∨ (gAt cs i).kind = 2 ∨ (gAt cs i).kind = 3 := by
  unfold gAt
  split
  · rename_i c _
    have h1 := wth_lo c.kind 3 (by omega)
    have h2 := wth_hi c.kind 3 (by omega)
    show 1 + wth c.kind 3 = 1 ∨ 1 + wth c.kind 3 = 2 ∨ 1 + wth c.kind 3 = 3
    omega
  · exact .inr (.inl rfl)
theorem gFin_kinds (cs : List Co) (key : Int) : ∀ x ∈ gFin cs key, x.kind = 1 ∨ x.kind = 2 ∨ x.kind = 3 := fun x hx => by
  unfold gFin at hx
  rcases List.mem_or_eq_of_mem_set hx with h | rfl
  · unfold gCols at h
    obtain ⟨i, _, rfl⟩ := List.mem_map.1 h
    exact gAt_kind cs i
  · exact gAt_kind cs _
theorem gFin_keyN (cs : List Co) (key : Int) : ∃ x, (gFin cs key)[gKey cs key]? = some x ∧ x.null = false := by
  refine ⟨noNull (gAt cs (gKey cs key)), ?_, rfl⟩
  unfold gFin
  rw [List.getElem?_set_self (by rw [gCols_len]; exact (gKey_lt cs key).1)]
theorem val_chk {k n : Int} {s : ByteArray} (h : Val k n s) : chkV k n s = 0 := by
  have e : ByteArray.empty.toList.isEmpty = true := by rw [ByteArray.toList_eq]; rfl
  cases h with
  | none => unfold chkV; rw [if_pos rfl, if_pos ⟨rfl, e⟩]
  | bool n h1 h2 => unfold chkV; rw [if_neg (by decide), if_pos rfl, if_pos (by omega), if_pos e]
  | int n => unfold chkV; rw [if_neg (by decide), if_neg (by decide), if_pos rfl, if_pos e]
  | text s hs => unfold chkV; rw [if_neg (by decide), if_neg (by decide), if_neg (by decide), if_pos rfl, if_pos rfl, if_neg (by omega)]
theorem fit_val (n : Int) (i : Nat) (c : Co) : Val (fitVal n i c).k (fitVal n i c).n (fitVal n i c).s := by
  unfold fitVal
  split
  · exact Val.none
  split
  · exact Val.bool _ (wth_lo _ 2 (by omega)) (by have := wth_hi (fitN n i) 2 (by omega); show wth (fitN n i) 2 ≤ 1; omega)
  split
  · exact Val.int _
  · refine Val.text _ ?_
    show (abcS.extract 0 _).size ≤ 60
    rw [ByteArray.size_extract]
    have : abcS.size = 26 := rfl
    omega
theorem fit_kind (n : Int) (i : Nat) (c : Co) (hk : c.kind = 1 ∨ c.kind = 2 ∨ c.kind = 3) : ((fitVal n i c).k = 0 ∧ c.null = true) ∨ ((fitVal n i c).k = c.kind) := by
  unfold fitVal
  split
  · rename_i h; exact .inl ⟨rfl, h.1⟩
  split
  · rename_i h; exact .inr h.symm
  split
  · rename_i h; exact .inr h.symm
  · rename_i h1 h2
    exact .inr (by show (3 : Int) = c.kind; omega)
theorem fit_ok (n : Int) (i : Nat) (c : Co) (hk : c.kind = 1 ∨ c.kind = 2 ∨ c.kind = 3) : fitE c (fitVal n i c) = 0 := by
  unfold fitE
  rw [if_pos (val_chk (fit_val n i c))]
  rcases fit_kind n i c hk with ⟨h1, h2⟩ | h1
  · rw [if_pos h1, if_pos h2]
  · rw [if_neg (by omega), if_pos h1]
theorem fitsL_ok : ∀ (cs : List Co) (r : List V), cs.length = r.length → (∀ (i : Nat) (c : Co) (v : V), cs[i]? = some c → r[i]? = some v → fitE c v = 0) → fitsL cs r = 0
  | [], r, _, _ => by unfold fitsL; rfl
  | c :: cs, [], h, _ => by simp at h
  | c :: cs, v :: r, h, hf => by
    have h0 := hf 0 c v rfl rfl
    have ih := fitsL_ok cs r (by simpa using h) (fun i c v h1 h2 => hf (i + 1) c v (by simpa using h1) (by simpa using h2))
    unfold fitsL
    rw [if_pos h0, ih]
theorem fits_fit (cs : List Co) (hk : ∀ x ∈ cs, x.kind = 1 ∨ x.kind = 2 ∨ x.kind = 3) (n : Int) : fitsE cs (fitRow cs n) = 0 := by
  unfold fitsE
  rw [if_pos (fitRow_len cs n)]
  refine fitsL_ok _ _ (fitRow_len cs n).symm fun i c v h1 h2 => ?_
  rw [fitRow_get h1] at h2
  obtain rfl := Option.some.inj h2
  exact fit_ok n i c (hk c (List.mem_of_getElem? h1))
theorem kOf_fit {cs : List Co} {n : Int} {K : Nat} {c : Co} (h : cs[K]? = some c) : kOf K (fitRow cs n) = fitVal n K c := by
  unfold kOf
  rw [List.getD_eq_getElem?_getD, fitRow_get h]
  rfl
theorem putE_fit (cs : List Co) (hk : ∀ x ∈ cs, x.kind = 1 ∨ x.kind = 2 ∨ x.kind = 3) (K : Nat) (n : Int) (rs : List (List V)) (hl : rs.length < 200) : putE cs K (fitRow cs n) rs = if hasN K (kOf K (fitRow cs n)) rs = true then 7 else 0 := by
  unfold putE
  rw [if_pos (fits_fit cs hk n)]
  split
  · rfl
  · rw [if_neg (by omega)]
/-- The rows of a table that the laws make: in order, each made to fit. -/
structure Fits (F : List Co) (K : Nat) (rs : List (List V)) : Prop where
  srt : Srt K rs
  mem : ∀ x ∈ rs, ∃ n, x = fitRow F n
theorem Fits.nil (F : List Co) (K : Nat) : Fits F K [] := ⟨Srt.nil K, fun x hx => by cases hx⟩
theorem mem_putN {key : Nat} {r x : List V} {rs : List (List V)} (h : x ∈ putN key r rs) : x = r ∨ x ∈ rs := by
  unfold putN at h
  rcases List.mem_append.1 h with h | h
  · exact .inr (List.mem_of_mem_take h)
  · rcases List.mem_cons.1 h with h | h
    · exact .inl h
    · exact .inr (List.mem_of_mem_drop h)
theorem mem_takeN {key : Nat} {k : V} {x : List V} {rs : List (List V)} (h : x ∈ takeN key k rs) : x ∈ rs := by
  unfold takeN at h
  rcases List.mem_append.1 h with h | h
  · exact List.mem_of_mem_take h
  · exact List.mem_of_mem_drop h
theorem Fits.putR {F : List Co} {K : Nat} {rs : List (List V)} (h : Fits F K rs) (n : Int) : Fits F K (putR F K (fitRow F n) rs) := by
  unfold Go.Proofs.Ytllijeciodmckaa.putR
  split
  · rename_i he
    have hn : hasN K (kOf K (fitRow F n)) rs = false := by
      cases q : hasN K (kOf K (fitRow F n)) rs with
      | false => rfl
      | true =>
        unfold putE at he
        rw [if_pos q] at he
        split at he
        · cases he
        · rename_i h1; exact absurd he h1
    exact ⟨h.srt.put _ hn, fun x hx => by
      rcases mem_putN hx with rfl | hx
      · exact ⟨n, rfl⟩
      · exact h.mem x hx⟩
  · exact h
theorem Fits.takeN {F : List Co} {K : Nat} {rs : List (List V)} (h : Fits F K rs) (k : V) : Fits F K (takeN K k rs) := ⟨h.srt.take k, fun x hx => h.mem x (mem_takeN hx)⟩
theorem Fits.len {F : List Co} {K : Nat} {rs : List (List V)} (h : Fits F K rs) : ∀ x ∈ rs, x.length = F.length := fun x hx => by
  obtain ⟨n, rfl⟩ := h.mem x hx
  exact fitRow_len F n
end Go.Proofs.Ytllijeciodmckaa
