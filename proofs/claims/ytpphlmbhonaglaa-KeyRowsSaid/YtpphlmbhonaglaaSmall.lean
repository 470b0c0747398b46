/-
  The writers on nothing, and on short texts; a row of bytes that came in.
-/
import Derived.Test.YtpphlmbhonaglaaWrites
import Derived.OpenShut
namespace Go.Proofs.Ytpphlmbhonaglaa
open Go.RowKit

theorem int_nil (x : Int) (w : World) : Calls Try.prog 53 #[.slice none 0 0, .int .i64 x] w (Fresh w 8 (le 8 (XU x))) :=
  int_any none 0 0 [] x w (IsB.nilB w) (by omega)
theorem byte_nil (x : Int) (w : World) : Calls Try.prog 25 #[.slice none 0 0, .int .i64 x] w (Fresh w 1 (le 1 (XU x))) :=
  byte_any none 0 0 [] x w (IsB.nilB w) (by omega)
theorem text_nil (s : ByteArray) (w : World) : Calls Try.prog 54 #[.slice none 0 0, .string s] w (Fresh w (tx s.data.toList).length (tx s.data.toList)) := by
  have h := text_any none 0 0 [] s w (IsB.nilB w) (by omega)
  rw [Nat.zero_add] at h
  exact h

theorem isB_of_row {w : World} {a : Option Addr} {len cap : Nat} {zs : List Int}
    (h : (a = none ∧ len = 0 ∧ cap = 0 ∧ zs = []) ∨ ∃ x, a = some x ∧ len ≤ cap ∧ cap ≤ maxLen ∧ zs.length = cap ∧ (∀ i, i < zs.length → w.cell? (x.add i) = some (.int .u8 (zs.getD i 0))) ∧ ∀ n ∈ zs, (Lit.int .u8 n).wf = true) :
    ∃ l, IsB w a len cap l := by
  rcases h with ⟨rfl, rfl, rfl, rfl⟩ | ⟨x, rfl, h1, h2, h3, h4, h5⟩
  · exact ⟨[], IsB.nilB w⟩
  · refine ⟨(zs.take len).map fun n => UInt8.ofNat n.toNat, by simp; omega, h1, h2, fun h => (by cases h), fun a ha j u hu => ?_⟩
    obtain rfl := Option.some.inj ha
    rw [List.getElem?_map] at hu
    obtain ⟨z, hz, rfl⟩ := Option.map_eq_some_iff.1 hu
    have hj : j < zs.length := by
      have := (List.getElem?_eq_some_iff.1 hz).1
      simp at this
      omega
    have hz' : zs[j]? = some z := by
      rw [List.getElem?_take] at hz
      split at hz
      · exact hz
      · cases hz
    rw [h4 j hj]
    have hg : zs.getD j 0 = z := by simp [List.getD, hz']
    have hw := h5 z (List.mem_of_getElem? hz')
    have hb := bounds_u8 hw
    rw [hg, bc]
    simp only [Option.some.injEq, Value.int.injEq, true_and, UInt8.toNat_ofNat']
    omega

/-- A text of no more than 65535 bytes. -/
theorem text_small (ao : Option Addr) (n cap : Nat) (l : List UInt8) (s : ByteArray) (w : World) (h : IsB w ao n cap l) (hn : n ≤ 800000) (hs : s.size ≤ 65535) :
    Calls Try.prog 54 #[.slice ao n cap, .string s] w (Fresh w (n + (2 + s.size)) (l ++ (le 2 s.size ++ s.data.toList))) := by
  have hl : s.data.toList.length = s.size := by simp
  have e : tx s.data.toList = le 2 s.size ++ s.data.toList := by unfold tx; rw [List.take_of_length_le (by omega), hl]
  have := text_any ao n cap l s w h hn
  rw [e, List.length_append, le_length, hl] at this
  exact this
theorem text_small_nil (s : ByteArray) (w : World) (hs : s.size ≤ 65535) : Calls Try.prog 54 #[.slice none 0 0, .string s] w (Fresh w (2 + s.size) (le 2 s.size ++ s.data.toList)) := by
  have h := text_small none 0 0 [] s w (IsB.nilB w) (by omega) hs
  rw [Nat.zero_add] at h
  exact h

end Go.Proofs.Ytpphlmbhonaglaa
